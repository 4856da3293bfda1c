/-
  What chapter 6 says of each bound: the walk of the statement PlaceKnown.
-/
import Derived.Test.YtnipoknmhcgplaaDoorQrow
import Derived.Deep.DrawnRows
import Derived.Deep.RegionHeld3
import Derived.Deep.Cut
namespace Go.Proofs.YtnipoknmhcgplaaDoor
open Go.RowKit
attribute [local go_sem ↓] Go.wp_at_zero Go.wp_at_succ

def KnRel (W : World) (N B : Nat) (i : Value) (wr : World) : Prop := ∃ (k : Nat) (a : Nat → Option Addr), k ≤ 12 ∧ i = .int .i64 (k : Nat) ∧ Hid (Rows12 W N B k a wr)

def KnRel2 (W : World) (N B : Nat) (a : Nat → Option Addr) (s1 s2 s9 : Option Addr) (r i : Value) (wr : World) : Prop := ∃ k : Nat, k ≤ 12 ∧ r = .bool false ∧ i = .int .i64 (k : Nat) ∧ Hid (BadAll W N B a s1 s2 s9 wr)

def c4 : Cfg := ⟨4, [6, 8], 2, 3, 2, 8, 64, 2⟩
theorem c4_ok : CfgOk c4 := by
  have ok : ∀ z : Int, (-9223372036854775808 ≤ z ∧ z ≤ 9223372036854775807) → IntOk z := fun _ h => h
  exact ⟨ok _ (by decide), by decide, ok _ (by decide), ok _ (by decide), ok _ (by decide), ok _ (by decide), ok _ (by decide), ok _ (by decide)⟩
theorem c4_new {W w : World} (hb : Below W.heap.size W w) (t u : TypeId) :
    Bun W W.heap.size w.heap.size c4 (some ⟨w.heap.size + 1, 0, none⟩) 2
      ((w.alloc (.cells #[.int .i64 4, .slice (some ⟨w.heap.size + 1, 0, none⟩) 2 2, .int .i64 2, .int .i64 3, .int .i64 2, .int .i64 8, .int .i64 64, .int .i64 2] t)).alloc (.cells #[.int .u64 6, .int .u64 8] u)) := by
  have h1 := boxed_new w c4 (some ⟨w.heap.size + 1, 0, none⟩) 2 t
  have b1 := below_alloc (Below.refl w.heap.size w) (.cells (cfgA c4 (some ⟨w.heap.size + 1, 0, none⟩) 2) t)
  have b2 := below_alloc (Below.refl _ (w.alloc (.cells (cfgA c4 (some ⟨w.heap.size + 1, 0, none⟩) 2) t))) (.cells #[.int .u64 6, .int .u64 8] u)
  refine ⟨?_, ?_, h1.below b2, ?_⟩
  · exact (hb.trans (b1.mono hb.size)).trans (b2.mono (Nat.le_trans hb.size b1.size))
  · exact Nat.le_trans (Nat.le_trans hb.size b1.size) b2.size
  · have := slv_lit (w.alloc (.cells (cfgA c4 (some ⟨w.heap.size + 1, 0, none⟩) 2) t)) [uV 6, uV 8] #[.int .u64 6, .int .u64 8] u 2 rfl rfl (by unfold maxLen; omega)
    have e : (w.alloc (.cells (cfgA c4 (some ⟨w.heap.size + 1, 0, none⟩) 2) t)).heap.size = w.heap.size + 1 := by simp
    rw [e] at this
    exact this

set_option maxRecDepth 100000 in
set_option maxHeartbeats 16000000 in
theorem law_PlaceKnown (W : World) (ht : TabAt 0 Lib.deBruijn64tab W) :
    Calls Tryd.prog 3 #[] W (OkPost W) := by
  have T := Lib.hid (fun (w : World) (h : Below W.heap.size W w) => tab_below ht h)
  clear ht
  have hmk : ∀ w, (Instr.makeSlice 23 (.int .i64 12) (.int .i64 12)).run Tryd.prog w = .ok (.slice (some ⟨w.heap.size, 0, none⟩) 12 12) (w.alloc (.cells zeros12 26)) := fun _ => by kernel_rfl
  go_enter Tryd.func3, Tryd.ntmps3
  go_wp2_with fail
  refine (awake_any _).mono ?_
  rintro e w1 ⟨rfl, hb⟩
  have B1 := Lib.hid hb
  clear hb
  go_wp2_with fail
  have X1 := Lib.hid (rows_start B1.out B1.out.size (fun _ => none) 26)
  generalize w1.alloc (.cells zeros12 26) = w2 at X1 ⊢
  generalize w1.heap.size = B at X1 ⊢
  clear B1 hmk
  go_loopw [2] (fun i wr => KnRel W W.heap.size B i wr) (fun i _ => 12 - (intOf i).toNat)
  case atStart => exact ⟨0, _, by omega, rfl, X1⟩
  case round =>
    obtain ⟨k, a, hk, rfl, X⟩ := hrel
    clear X1
    by_cases hlt : k < 12
    · go_wp2_with fail
      refine (plain_new 3 1 _ (ok2 3 1).1).mono ?_
      rintro e w3 ⟨x, rfl, hs, hb, hf⟩
      have X2 := Lib.hid (X.out.below hb)
      have e7 : (plainC 3 1).vs = [7] := by decide +kernel
      rw [e7] at hs
      have hf2 : ∀ b off, x = some ⟨b, off, none⟩ → b ≠ B := fun b off e => by have := (hf b off e).1; have := X.out.row.lt; omega
      have FX : Hid (SlF B x 1 [uV 7] w3) := Lib.hid ⟨hs, hf2⟩
      have XN := Lib.hid (X2.out.next FX.out)
      clear hs hb hf X hf2 e7
      have c0 := X2.out.row.c (k * 8) (by omega)
      have f0 := X2.out.row.fz (k * 8)
      have c1 := X2.out.row.c (k * 8 + 1) (by omega)
      have f1 := X2.out.row.fz (k * 8 + 1)
      have c2 := X2.out.row.c (k * 8 + 2) (by omega)
      have f2 := X2.out.row.fz (k * 8 + 2)
      have c3 := X2.out.row.c (k * 8 + 3) (by omega)
      have f3 := X2.out.row.fz (k * 8 + 3)
      have c4 := X2.out.row.c (k * 8 + 4) (by omega)
      have f4 := X2.out.row.fz (k * 8 + 4)
      have c5 := X2.out.row.c (k * 8 + 5) (by omega)
      have f5 := X2.out.row.fz (k * 8 + 5)
      have c6 := X2.out.row.c (k * 8 + 6) (by omega)
      have f6 := X2.out.row.fz (k * 8 + 6)
      have c7 := X2.out.row.c (k * 8 + 7) (by omega)
      have f7 := X2.out.row.fz (k * 8 + 7)
      clear X2 FX
      go_wp2_with fail
      go_roundw
      case rel => exact ⟨k + 1, _, by omega, by go_num, XN⟩
      case measure => simp only [intOf]; omega
    · obtain rfl : k = 12 := by omega
      have X1 : Hid (RowsV W W.heap.size B (rowV 12 a) a wr) := Lib.hid ⟨X.out.row, X.out.sl⟩
      clear X
      have X2 := Lib.hid (X1.out.put 0 (.int .i64 17))
      obtain ⟨w4, H1, hmk1, hb, hs, hz⟩ := make1 (wr.setCell ⟨B, 0, none⟩ (.int .i64 17))
      have X3 := Lib.hid (X2.out.below hb)
      have hlt4 := X2.out.row.lt
      have S3 : Hid (SlF B (some ⟨H1, 0, none⟩) 1 [uV 0] w4) := Lib.hid ⟨hs, fun b off e => by cases e; omega⟩
      clear hb hs hz hlt4 X2
      have X4 := Lib.hid (X3.out.put 9 (.slice (some ⟨H1, 0, none⟩) 1 1))
      have S4 := Lib.hid (S3.out.put 9 (.slice (some ⟨H1, 0, none⟩) 1 1))
      have hb5 := below_alloc (Below.refl _ (w4.setCell ⟨B, 9, none⟩ (.slice (some ⟨H1, 0, none⟩) 1 1))) (.cells #[.int .u64 8] 29)
      have X5 := Lib.hid (X4.out.below hb5)
      have S5 := Lib.hid (S4.out.below hb5)
      have hlt5 := X4.out.row.lt
      obtain ⟨H2, hH2⟩ : ∃ H2, (w4.setCell ⟨B, 9, none⟩ (.slice (some ⟨H1, 0, none⟩) 1 1)).heap.size = H2 := ⟨_, rfl⟩
      have R5 : Hid (SlF B (some ⟨H2, 0, none⟩) 1 [uV 8] ((w4.setCell ⟨B, 9, none⟩ (.slice (some ⟨H1, 0, none⟩) 1 1)).alloc (.cells #[.int .u64 8] 29))) := Lib.hid ⟨by rw [← hH2]; exact slv_lit _ [uV 8] #[.int .u64 8] 29 1 rfl rfl (by unfold maxLen; omega), fun b off e => by cases e; omega⟩
      clear hb5 hlt5 X4 S4
      have X6 := X5.out
      have S6 := S5.out
      have R6 := R5.out
      have X6 := X6.put 17 (.slice (some ⟨H2, 0, none⟩) 1 1)
      have S6 := S6.put 17 (.slice (some ⟨H2, 0, none⟩) 1 1)
      have R6 := R6.put 17 (.slice (some ⟨H2, 0, none⟩) 1 1)
      have X6 := X6.put 26 (.int .i64 0)
      have S6 := S6.put 26 (.int .i64 0)
      have R6 := R6.put 26 (.int .i64 0)
      have X6 := X6.put 35 (.int .i64 1)
      have S6 := S6.put 35 (.int .i64 1)
      have R6 := R6.put 35 (.int .i64 1)
      have X6 := X6.put 44 (.int .i64 9)
      have S6 := S6.put 44 (.int .i64 9)
      have R6 := R6.put 44 (.int .i64 9)
      have X6 := X6.put 53 (.int .i64 1001)
      have S6 := S6.put 53 (.int .i64 1001)
      have R6 := R6.put 53 (.int .i64 1001)
      have X6 := X6.put 62 (.int .i64 257)
      have S6 := S6.put 62 (.int .i64 257)
      have R6 := R6.put 62 (.int .i64 257)
      have X6 := X6.put 71 (.int .i64 3)
      have S6 := S6.put 71 (.int .i64 3)
      have R6 := R6.put 71 (.int .i64 3)
      obtain ⟨w7, H3, hmk2, hb, hs, hz⟩ := make17 (((((((((w4.setCell ⟨B, 9, none⟩ (.slice (some ⟨H1, 0, none⟩) 1 1)).alloc (.cells #[.int .u64 8] 29)).setCell ⟨B, 17, none⟩ (.slice (some ⟨H2, 0, none⟩) 1 1)).setCell ⟨B, 26, none⟩ (.int .i64 0)).setCell ⟨B, 35, none⟩ (.int .i64 1)).setCell ⟨B, 44, none⟩ (.int .i64 9)).setCell ⟨B, 53, none⟩ (.int .i64 1001)).setCell ⟨B, 62, none⟩ (.int .i64 257)).setCell ⟨B, 71, none⟩ (.int .i64 3))
      have X7 := Lib.hid (X6.below hb)
      have S7 := Lib.hid (S6.below hb)
      have R7 := Lib.hid (R6.below hb)
      have hlt6 := X6.row.lt
      have T7 : Hid (SlF B (some ⟨H3, 0, none⟩) 17 ((List.replicate 17 0).map uV) w7) := Lib.hid ⟨hs, fun b off e => by cases e; omega⟩
      clear hb hs hz hlt6 X6 S6 R6
      have X8 := X7.out
      have S8 := S7.out
      have R8 := R7.out
      have T8 := T7.out
      have X8 := X8.put 73 (.slice (some ⟨H3, 0, none⟩) 17 17)
      have S8 := S8.put 73 (.slice (some ⟨H3, 0, none⟩) 17 17)
      have R8 := R8.put 73 (.slice (some ⟨H3, 0, none⟩) 17 17)
      have T8 := T8.put 73 (.slice (some ⟨H3, 0, none⟩) 17 17)
      have X8 := X8.put 84 (.int .i64 0)
      have S8 := S8.put 84 (.int .i64 0)
      have R8 := R8.put 84 (.int .i64 0)
      have T8 := T8.put 84 (.int .i64 0)
      have X8 := X8.put 88 (.int .i64 0)
      have S8 := S8.put 88 (.int .i64 0)
      have R8 := R8.put 88 (.int .i64 0)
      have T8 := T8.put 88 (.int .i64 0)
      have X9 : Hid (BadAll W W.heap.size B a (some ⟨H1, 0, none⟩) (some ⟨H2, 0, none⟩) (some ⟨H3, 0, none⟩) (((w7.setCell ⟨B, 73, none⟩ (.slice (some ⟨H3, 0, none⟩) 17 17)).setCell ⟨B, 84, none⟩ (.int .i64 0)).setCell ⟨B, 88, none⟩ (.int .i64 0))) := Lib.hid ⟨X8, S8, R8, T8⟩
      clear X8 S8 R8 T8
      have c0 := X1.out.row.c 0 (by decide)
      have f0 := X1.out.row.fz 0
      have c9 := X3.out.row.c 9 (by decide)
      have f9 := X3.out.row.fz 9
      have c17 := X5.out.row.c 17 (by decide)
      have f17 := X5.out.row.fz 17
      have c26 := X5.out.row.c 26 (by decide)
      have f26 := X5.out.row.fz 26
      have c35 := X5.out.row.c 35 (by decide)
      have f35 := X5.out.row.fz 35
      have c44 := X5.out.row.c 44 (by decide)
      have f44 := X5.out.row.fz 44
      have c53 := X5.out.row.c 53 (by decide)
      have f53 := X5.out.row.fz 53
      have c62 := X5.out.row.c 62 (by decide)
      have f62 := X5.out.row.fz 62
      have c71 := X5.out.row.c 71 (by decide)
      have f71 := X5.out.row.fz 71
      have c73 := X7.out.row.c 73 (by decide)
      have f73 := X7.out.row.fz 73
      have c84 := X7.out.row.c 84 (by decide)
      have f84 := X7.out.row.fz 84
      have c88 := X7.out.row.c 88 (by decide)
      have f88 := X7.out.row.fz 88
      clear X1 X3 X5 X7 S3 S5 S7 R5 R7 T7
      go_wp2_with fail
      generalize (((w7.setCell ⟨B, 73, none⟩ (.slice (some ⟨H3, 0, none⟩) 17 17)).setCell ⟨B, 84, none⟩ (.int .i64 0)).setCell ⟨B, 88, none⟩ (.int .i64 0)) = w9 at X9 ⊢
      clear c0 f0 c9 f9 c17 f17 c26 f26 c35 f35 c44 f44 c53 f53 c62 f62 c71 f71 c73 f73 c84 f84 c88 f88 hmk1 hmk2 hH2
      generalize ha1 : (some ⟨H1, 0, none⟩ : Option Addr) = s1 at X9 ⊢
      generalize ha2 : (some ⟨H2, 0, none⟩ : Option Addr) = s2 at X9 ⊢
      generalize ha3 : (some ⟨H3, 0, none⟩ : Option Addr) = s9 at X9 ⊢
      clear ha1 ha2 ha3
      have e12 : ((12 : Nat) : Int) = 12 := rfl
      rw [e12]
      clear e12
      go_loopw [0, 3] (fun r i wr => KnRel2 W W.heap.size B a s1 s2 s9 r i wr) (fun _ i _ => 12 - (intOf i).toNat)
      case atStart => exact ⟨0, by omega, rfl, rfl, X9⟩
      case round =>
        obtain ⟨k, hk, rfl, rfl, X⟩ := hrel
        clear X9
        by_cases hlt : k < 12
        · have A := X.out.at k hlt
          obtain ⟨c0, c1, c2, c3, c4, c5, c6, c7, sl⟩ := A
          have SL := Lib.hid sl
          have G := Lib.hid (bad_good k hlt)
          have O := Lib.hid (bad_ok k hlt)
          have hsl1 := sl.max
          have hsl2 := sl.fit
          unfold maxLen at hsl1
          rw [List.length_map] at hsl2
          clear sl
          generalize badC k = c at *
          generalize badA a s1 s2 s9 k = ao at *
          generalize badCap k = cap at *
          go_wp2_with fail
          refine (good_is (c := c) SL.out O.out G.out).mono ?_
          rintro e w10 ⟨rfl, hb⟩
          have X2 := Lib.hid (X.out.below hb)
          clear hb X
          go_wp2_with fail
          go_roundw
          case rel => exact ⟨k + 1, by omega, rfl, by go_num, X2⟩
          case measure => simp only [intOf]; omega
        · have BE := Lib.hid X.out.rows.row.be
          clear X
          go_wp2_with fail
          refine (plain_new 4 2 _ (ok2 4 2).1).mono ?_
          rintro e w11 ⟨x, rfl, hs, hb, hf⟩
          have BE2 := Lib.hid (BE.out.trans (hb.mono BE.out.size))
          clear hs hf hb BE
          go_wp2_with fail
          have X := Lib.hid (c4_new BE2.out 26 29)
          clear BE2
          generalize (w11.alloc (.cells #[.int .i64 4, .slice (some ⟨w11.heap.size + 1, 0, none⟩) 2 2, .int .i64 2, .int .i64 3, .int .i64 2, .int .i64 8, .int .i64 64, .int .i64 2] 26)).alloc (.cells #[.int .u64 6, .int .u64 8] 29) = w12 at X ⊢
          generalize (some ⟨w11.heap.size + 1, 0, none⟩ : Option Addr) = a4 at X ⊢
          generalize w11.heap.size = C at X ⊢
          have T' := Lib.hid (T.out w12 X.out.be)
          obtain ⟨r0, hr0⟩ : ∃ r, true = r := ⟨_, rfl⟩
          have R0 := Lib.hid hr0
          clear hr0
          refine (keeper_is (c := c4) (k := 1) (r := r0) T'.out X.out.sl c4_ok (ok2 0 0).1 (by decide +kernel) (by rw [← R0.out]; decide +kernel)).mono ?_
          rintro e w13 ⟨rfl, hb⟩
          obtain ⟨k0, k1, k2, k3, k4, k5, k6, k7, X'⟩ := Bun.all (Bun.of hb X)
          clear X hb T'
          go_wp2_with fail
          have T' := Lib.hid (T.out w13 X'.out.be)
          clear k0 k1 k2 k3 k4 k5 k6 k7
          refine (keeper_is (c := c4) (k := 0) (r := false) T'.out X'.out.sl c4_ok (ok2 2 0).1 (by decide +kernel) (by decide +kernel)).mono ?_
          rintro e w14 ⟨rfl, hb⟩
          have X1 := Bun.of hb X'
          clear X' hb T' T
          go_wp2_with fail
          refine (plain_new 5 9 _ (ok2 5 9).1).mono ?_
          rintro e w15 ⟨x5, rfl, hs, hb, hf⟩
          have S5 := Lib.hid hs
          have X2 := Bun.of hb X1
          obtain ⟨b5, rfl, c5x⟩ : ∃ b5, x5 = some ⟨b5, 0, none⟩ ∧ w15.cell? ⟨b5, 0, none⟩ = some (.int .u64 31) := by
            obtain ⟨b, off, e, _, hc⟩ := hs.cell 0 (by decide)
            obtain ⟨_, rfl⟩ := hf b off e
            exact ⟨b, e, hc⟩
          have Y2 : Hid (Bun W W.heap.size w15.heap.size (plainC 5 9) (some ⟨b5, 0, none⟩) 1 (w15.alloc (.cells #[.int .i64 5, .slice (some ⟨b5, 0, none⟩) 1 1, .int .i64 2, .int .i64 3, .int .i64 2, .int .i64 8, .int .i64 64, .int .i64 9] 26))) :=
            Lib.hid ⟨X2.out.be.alloc X2.out.le _, by have := X2.out.le; simp; omega, boxed_new w15 (plainC 5 9) (some ⟨b5, 0, none⟩) 1 _, S5.out.below (below_alloc (Below.refl _ _) _)⟩
          have X3 : Hid (Bun W W.heap.size C c4 a4 2 (w15.alloc (.cells #[.int .i64 5, .slice (some ⟨b5, 0, none⟩) 1 1, .int .i64 2, .int .i64 3, .int .i64 2, .int .i64 8, .int .i64 64, .int .i64 9] 26))) := Bun.alloc X2
          have Z3 := Lib.hid (cell_go c5x (below_alloc (Below.refl w15.heap.size w15) (.cells #[.int .i64 5, .slice (some ⟨b5, 0, none⟩) 1 1, .int .i64 2, .int .i64 3, .int .i64 2, .int .i64 8, .int .i64 64, .int .i64 9] 26)))
          clear X1 hb hf hs S5 X2 c5x
          go_upto_region 30 with fail
          generalize (w15.alloc (.cells #[.int .i64 5, .slice (some ⟨b5, 0, none⟩) 1 1, .int .i64 2, .int .i64 3, .int .i64 2, .int .i64 8, .int .i64 64, .int .i64 9] 26)) = w16 at X3 Y2 Z3 ⊢
          generalize w15.heap.size = D at Y2 ⊢
          obtain rfl := R0.out
          obtain ⟨k0, k1, k2, k3, k4, k5, k6, k7, X4⟩ := Bun.all X3
          clear X3
          go_wp2_with fail
          clear k0 k1 k2 k3 k4 k5 k6 k7
          refine (keeps_is (c := c4) (r := true) X4.out.sl c4_ok (ok2 3 1).1 (ok2 3 1).2 (by decide +kernel)).mono ?_
          rintro e w17 ⟨rfl, hb⟩
          obtain ⟨k0, k1, k2, k3, k4, k5, k6, k7, X5⟩ := Bun.all (Bun.of hb X4)
          have Y5 := Bun.of hb Y2
          have Z5 := Lib.hid (cell_go Z3.out hb)
          clear X4 Y2 Z3 hb
          go_wp2_with fail
          clear k0 k1 k2 k3 k4 k5 k6 k7
          refine (keeps_is (c := c4) (r := false) X5.out.sl c4_ok (ok2 0 0).1 (ok2 0 0).2 (by decide +kernel)).mono ?_
          rintro e w18 ⟨rfl, hb⟩
          obtain ⟨k0, k1, k2, k3, k4, k5, k6, k7, X6⟩ := Bun.all (Bun.of hb X5)
          have Y6 := Bun.of hb Y5
          have Z6 := Lib.hid (cell_go Z5.out hb)
          clear X5 Y5 Z5 hb
          go_wp2_with fail
          clear k0 k1 k2 k3 k4 k5 k6 k7
          refine (keeps_is (c := c4) (r := false) X6.out.sl c4_ok (ok2 1 (-1)).1 (ok2 1 (-1)).2 (by decide +kernel)).mono ?_
          rintro e w19 ⟨rfl, hb⟩
          obtain ⟨k0, k1, k2, k3, k4, k5, k6, k7, X7⟩ := Bun.all (Bun.of hb X6)
          have Y7 := Bun.of hb Y6
          have Z7 := Lib.hid (cell_go Z6.out hb)
          clear X6 Y6 Z6 hb
          go_wp2_with fail
          clear k0 k1 k2 k3 k4 k5 k6 k7
          refine (may_lit (c := c4) (to := 1) (r := false) X7.out.sl c4_ok (ok2 0 0).1 (by decide) rfl (by decide +kernel)).mono ?_
          rintro e w20 ⟨rfl, hb⟩
          obtain ⟨k0, k1, k2, k3, k4, k5, k6, k7, X8⟩ := Bun.all (Bun.of hb X7)
          have Y8 := Bun.of hb Y7
          have Z8 := Lib.hid (cell_go Z7.out hb)
          clear X7 Y7 Z7 hb
          go_wp2_with fail
          clear k0 k1 k2 k3 k4 k5 k6 k7
          refine (may_lit (c := c4) (to := 0) (r := false) X8.out.sl c4_ok (ok2 0 0).1 (by decide) rfl (by decide +kernel)).mono ?_
          rintro e w21 ⟨rfl, hb⟩
          obtain ⟨k0, k1, k2, k3, k4, k5, k6, k7, X9⟩ := Bun.all (Bun.of hb X8)
          have Y9 := Bun.of hb Y8
          have Z9 := Lib.hid (cell_go Z8.out hb)
          clear X8 Y8 Z8 hb
          go_wp2_with fail
          clear k0 k1 k2 k3 k4 k5 k6 k7
          refine (may_lit (c := c4) (to := 1) (r := false) X9.out.sl c4_ok (ok2 4 0).1 (by decide) rfl (by decide +kernel)).mono ?_
          rintro e w22 ⟨rfl, hb⟩
          obtain ⟨k0, k1, k2, k3, k4, k5, k6, k7, X10⟩ := Bun.all (Bun.of hb X9)
          have Y10 := Bun.of hb Y9
          have Z10 := Lib.hid (cell_go Z9.out hb)
          clear X9 Y9 Z9 hb
          go_wp2_with fail
          clear k0 k1 k2 k3 k4 k5 k6 k7
          refine (may_lit (c := c4) (to := 16) (r := false) X10.out.sl c4_ok (ok2 0 0).1 (by decide) rfl (by decide +kernel)).mono ?_
          rintro e w23 ⟨rfl, hb⟩
          obtain ⟨k0, k1, k2, k3, k4, k5, k6, k7, X11⟩ := Bun.all (Bun.of hb X10)
          have Y11 := Bun.of hb Y10
          have Z11 := Lib.hid (cell_go Z10.out hb)
          clear X10 Y10 Z10 hb
          obtain ⟨j0, j1, j2, j3, j4, j5, j6, j7⟩ := Y11.out.bx
          have z0 := Z11.out
          have e1 : (plainC 5 9).n = 5 := rfl
          simp only [plainC] at j0 j1 j2 j3 j4 j5 j6 j7
          simp only [List.length_cons, List.length_nil] at j1
          clear e1
          go_wp2_with fail
          clear j0 j1 j2 j3 j4 j5 j6 j7 z0
          clear k0 k1 k2 k3 k4 k5 k6 k7
          refine (good_is (c := plainC 5 9) (r := false) Y11.out.sl (plain_ok (ok2 5 9).1 (ok2 5 9).2) (by decide +kernel)).mono ?_
          rintro e w24 ⟨rfl, hb⟩
          obtain ⟨k0, k1, k2, k3, k4, k5, k6, k7, X12⟩ := Bun.all (Bun.of hb X11)
          have Y12 := Bun.of hb Y11
          have Z12 := Lib.hid (cell_go Z11.out hb)
          clear X11 Y11 Z11 hb
          obtain ⟨j0, j1, j2, j3, j4, j5, j6, j7⟩ := Y12.out.bx
          have z0 := Z12.out
          have e1 : (plainC 5 9).n = 5 := rfl
          simp only [plainC] at j0 j1 j2 j3 j4 j5 j6 j7
          simp only [List.length_cons, List.length_nil] at j1
          clear e1
          go_wp2_with fail
          clear k0 k1 k2 k3 k4 k5 k6 k7 j0 j1 j2 j3 j4 j5 j6 j7 z0
          have BE3 := Lib.hid X12.out.be
          clear X12 Y12 Z12
          refine (plain_new (-1) 1 _ (ok2 (-1) 1).1).mono ?_
          rintro e w25 ⟨x6, rfl, hs, hb, hf⟩
          obtain ⟨b6, rfl, c6x⟩ : ∃ b6, x6 = some ⟨b6, 0, none⟩ ∧ w25.cell? ⟨b6, 0, none⟩ = some (.int .u64 0) := by
            obtain ⟨b, off, e, _, hc⟩ := hs.cell 0 (by decide)
            obtain ⟨_, rfl⟩ := hf b off e
            exact ⟨b, e, hc⟩
          have hfl : ∀ (n g : Int) (b : Nat) (w : World), (Instr.field 26 (.agg #[.int .i64 n, .slice (some ⟨b, 0, none⟩) 1 1, .int .i64 2, .int .i64 3, .int .i64 2, .int .i64 8, .int .i64 64, .int .i64 g]) 1).run Tryd.prog w = .ok (.slice (some ⟨b, 0, none⟩) 1 1) w := fun _ _ _ _ => by kernel_rfl
          have BE4 := Lib.hid (BE3.out.trans (hb.mono BE3.out.size))
          clear hb hf hs BE3
          go_wp2_with fail
          clear c6x
          refine (plain_new 65 1 _ (ok2 65 1).1).mono ?_
          rintro e w26 ⟨x7, rfl, hs, hb, hf⟩
          obtain ⟨b7, rfl, c7x⟩ : ∃ b7, x7 = some ⟨b7, 0, none⟩ ∧ w26.cell? ⟨b7, 0, none⟩ = some (.int .u64 0) := by
            obtain ⟨b, off, e, _, hc⟩ := hs.cell 0 (by decide)
            obtain ⟨_, rfl⟩ := hf b off e
            exact ⟨b, e, hc⟩
          have BE5 := Lib.hid (BE4.out.trans (hb.mono BE4.out.size))
          clear hb hf hs BE4
          go_wp2_with fail
          go_ret
          exact ⟨rfl, BE5.out⟩

end Go.Proofs.YtnipoknmhcgplaaDoor
