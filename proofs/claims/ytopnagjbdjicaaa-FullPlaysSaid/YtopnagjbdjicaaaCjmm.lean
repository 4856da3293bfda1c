import Derived.Test.YtopnagjbdjicaaaMai
import Derived.Test.YtopnagjbdjicaaaMae
import Derived.Test.YtopnagjbdjicaaaWregm
import Derived.Deep.Cut
import Derived.Deep.CutBlock
import Derived.Deep.CutRange

/-
  mat.Join.
-/
namespace Go.Proofs.Ytopnagjbdjicaaa
open Go.RowKit

def JmR (U : World) (p n : Nat) (z : Int) (s : Value) (m1 m2 : List (List Nat)) (i : Value) (wr : World) : Prop :=
  ∃ (k : Nat) (K : List Rd), k ≤ n ∧ i = .int .i64 (k : Nat) ∧ K.length = k ∧ mOf K = (joinM m1 m2).take k ∧ FillV U wr p z s K (List.replicate (n - k) ⟨none, 0, []⟩)

theorem JmR.step {m1 m2 : List (List Nat)} {k : Nat} {K : List Rd} {a : Option Addr} {c : Nat} (h : mOf K = (joinM m1 m2).take k) (h1 : k < m1.length) (h2 : k < m2.length) : mOf (K ++ [⟨a, c, joinL (m1.getD k []) (m2.getD k [])⟩]) = (joinM m1 m2).take (k + 1) := by
  rw [List.take_succ_eq_append_getElem (by rw [joinM_len]; exact h1), joinM_at h1 h2, ← h]
  simp [mOf, h1, h2]

/-- The world behind the boxes and the result's block. -/
theorem three_box (W : World) (z1 z2 : Int) (s1 s2 : Value) {U : World} (hU : U = ((W.alloc (.cells #[.int .i64 z1, s1] 37)).alloc (.cells #[.int .i64 z2, s2] 37)).alloc (.cells #[.int .i64 0, .slice none 0 0] 37)) :
    Cel 2 U W.heap.size (mkC z1 s1) ∧ Cel 2 U (W.heap.size + 1) (mkC z2 s2) ∧ Cel 2 U (W.heap.size + 1 + 1) (mkC 0 (.slice none 0 0)) ∧ Below W.heap.size W U := by
  have h1 := box_new W z1 s1 37
  have h2 := box_new (W.alloc (.cells #[.int .i64 z1, s1] 37)) z2 s2 37
  have h3 := box_new ((W.alloc (.cells #[.int .i64 z1, s1] 37)).alloc (.cells #[.int .i64 z2, s2] 37)) 0 (.slice none 0 0) 37
  rw [show (W.alloc (.cells #[.int .i64 z1, s1] 37)).heap.size = W.heap.size + 1 by simp] at h2
  rw [show ((W.alloc (.cells #[.int .i64 z1, s1] 37)).alloc (.cells #[.int .i64 z2, s2] 37)).heap.size = W.heap.size + 1 + 1 by simp] at h3
  subst hU
  exact ⟨(h1.below (box_b _ _)).below (box_b _ _), h2.below (box_b _ _), h3, below_alloc (below_alloc (box_b W _) _) _⟩

theorem zero_store {W w : World} {t : Nat} {V : Nat → Value} (ht : Cel 2 w t V) (hb : Below W.heap.size W w) (hW : W.heap.size ≤ t) :
    (w.cell? ⟨t, 0, none⟩ = some (V 0) ∧ w.cell? ⟨t, 1, none⟩ = some (V 1) ∧ w.frozen? ⟨t, 0, none⟩ = false ∧ w.frozen? ⟨t, 1, none⟩ = false) ∧
    ((w.setCell ⟨t, 0, none⟩ (.int .i64 0)).setCell ⟨t, 1, none⟩ (.slice none 0 0)).cell? ⟨t, 0, none⟩ = some (.int .i64 0) ∧
    ((w.setCell ⟨t, 0, none⟩ (.int .i64 0)).setCell ⟨t, 1, none⟩ (.slice none 0 0)).cell? ⟨t, 1, none⟩ = some (.slice none 0 0) ∧
    Below W.heap.size W ((w.setCell ⟨t, 0, none⟩ (.int .i64 0)).setCell ⟨t, 1, none⟩ (.slice none 0 0)) := by
  have T2 := (ht.put 0 (.int .i64 0)).put 1 (.slice none 0 0)
  exact ⟨⟨ht.c 0 (by decide), ht.c 1 (by decide), ht.fz 0, ht.fz 1⟩, T2.c 0 (by decide), T2.c 1 (by decide), (hb.setCell hW _).setCell hW _⟩

set_option maxRecDepth 20000 in
set_option maxHeartbeats 4000000 in
theorem mjoin_no {A B : Nat → Prop} {W : World} {a1 a2 : Option Addr} {c1 c2 n1 n2 : Nat} {m1 m2 : List (List Nat)} {z1 z2 : Int} (h1 : SqAt A W a1 c1 n1 m1) (h2 : SqAt B W a2 c2 n2 m2) (hb : bothM z1 m1 z2 m2 = false) :
    Calls Try.prog 42 #[.agg #[.int .i64 z1, .slice a1 n1 c1], .agg #[.int .i64 z2, .slice a2 n2 c2]] W fun e w' => e = .returned (.tuple #[.agg #[.int .i64 0, .slice none 0 0], .int .i64 1]) ∧ Below W.heap.size W w' := by
  obtain ⟨U, hU⟩ : ∃ U, U = ((W.alloc (.cells #[.int .i64 z1, .slice a1 n1 c1] 37)).alloc (.cells #[.int .i64 z2, .slice a2 n2 c2] 37)).alloc (.cells #[.int .i64 0, .slice none 0 0] 37) := ⟨_, rfl⟩
  obtain ⟨C1, C2, C3, B0⟩ := three_box W z1 z2 _ _ hU
  have p0 : U.cell? ⟨W.heap.size, 0, none⟩ = some (.int .i64 z1) := C1.c 0 (by decide)
  have p1 : U.cell? ⟨W.heap.size, 1, none⟩ = some (.slice a1 n1 c1) := C1.c 1 (by decide)
  have q0 : U.cell? ⟨W.heap.size + 1, 0, none⟩ = some (.int .i64 z2) := C2.c 0 (by decide)
  have q1 : U.cell? ⟨W.heap.size + 1, 1, none⟩ = some (.slice a2 n2 c2) := C2.c 1 (by decide)
  have CP := Lib.hid (mpair_at (h1.below B0) (h2.below B0) hb)
  have T := Lib.hid C3
  have HB := Lib.hid B0
  have HU := Lib.hid hU.symm
  clear hU C1 C2 C3 B0 h1 h2 hb
  go_enter Try.func42, Try.ntmps42
  go_wp2_with fail
  rw [HU.out]
  go_wp2_with fail
  refine CP.out.mono ?_
  rintro e w1 ⟨rfl, hb1⟩
  obtain ⟨⟨d0, d1, f0, f1⟩, r0, r1, hR⟩ := zero_store (T.out.below hb1) (HB.out.trans (hb1.mono HB.out.size)) (by omega)
  have R := Lib.hid hR
  clear hR hb1 CP p0 p1 q0 q1 T HB HU
  go_wp2_with fail
  refine bodyPost_ret (v := .tuple #[.agg #[.int .i64 0, .slice none 0 0], .int .i64 1]) (by simp [results, Try.results42, go_sem, r0, r1]) rfl ?_
  exact ⟨rfl, R.out⟩

theorem fil_a (w1 : World) (N : Nat) (hN : N ≤ 16) : FillV w1 ((w1.alloc (.cells #[.int .i64 (N : Int), .slice (some ⟨w1.heap.size + 1, 0, none⟩) N N] 37)).alloc (.cells (madeCells #[.slice none 0 0] N) 42)).drew w1.heap.size (N : Int) (.slice (some ⟨w1.heap.size + 1, 0, none⟩) N N) [] (List.replicate N ⟨none, 0, []⟩) := by
  have h1 := box_new w1 (N : Int) (.slice (some ⟨w1.heap.size + 1, 0, none⟩) N N) 37
  have h2 := own_made (w1.alloc (.cells #[.int .i64 (N : Int), .slice (some ⟨w1.heap.size + 1, 0, none⟩) N N] 37)) N (by omega)
  rw [size_one] at h2
  refine ⟨(ParSq.start (own_mono h2 (Nat.le_succ _)) (by simp)).below (drew_below _), (h1.below (box_b _ _)).drew, ⟨by simp [Value.ownBlock], by simp⟩, Nat.le_refl _, ?_⟩
  exact (below_alloc (box_b w1 _) _).trans ((drew_below _).mono (by simp; omega))
theorem fil_b (w1 : World) (N : Nat) (hN : N ≤ 16) : FillV w1 ((w1.alloc (.cells (madeCells #[.slice none 0 0] N) 42)).alloc (.cells #[.int .i64 (N : Int), .slice (some ⟨w1.heap.size, 0, none⟩) N N] 37)).drew (w1.heap.size + 1) (N : Int) (.slice (some ⟨w1.heap.size, 0, none⟩) N N) [] (List.replicate N ⟨none, 0, []⟩) := by
  have h1 := box_new (w1.alloc (.cells (madeCells #[.slice none 0 0] N) 42)) (N : Int) (.slice (some ⟨w1.heap.size, 0, none⟩) N N) 37
  have h2 := own_made w1 N (by omega)
  rw [size_one] at h1
  refine ⟨((ParSq.start h2 (by simp)).below (box_b _ _)).below (drew_below _), h1.drew, ⟨by simp [Value.ownBlock], by simp⟩, Nat.le_succ _, ?_⟩
  exact (below_alloc (box_b w1 _) _).trans ((drew_below _).mono (by simp; omega))

set_option maxRecDepth 20000 in
set_option maxHeartbeats 8000000 in
theorem mjoin_new {A B : Nat → Prop} {W : World} {a1 a2 : Option Addr} {c1 c2 n1 n2 : Nat} {m1 m2 : List (List Nat)} {z1 z2 : Int} (h1 : SqAt A W a1 c1 n1 m1) (h2 : SqAt B W a2 c2 n2 m2) (hb : bothM z1 m1 z2 m2 = true) :
    Calls Try.prog 42 #[.agg #[.int .i64 z1, .slice a1 n1 c1], .agg #[.int .i64 z2, .slice a2 n2 c2]] W fun e w' => ∃ a' cap', e = .returned (.tuple #[.agg #[.int .i64 z1, .slice a' n1 cap'], .int .i64 0]) ∧ SqR (fun _ => False) W n1 (joinM m1 m2) a' cap' w' := by
  obtain ⟨g1, g2, rfl⟩ := bothM_is hb
  obtain ⟨N, rfl, hN1, hN2, hN3, hN4⟩ := goodM_is g1
  obtain ⟨N', hN, -, -, hM3, hM4⟩ := goodM_is g2
  obtain rfl : N = N' := by omega
  obtain rfl : N = n1 := by rw [← hN3, h1.len]
  obtain rfl : N = n2 := by rw [← hM3, h2.len]
  obtain ⟨U, hU⟩ : ∃ U, U = ((W.alloc (.cells #[.int .i64 (N : Int), .slice a1 N c1] 37)).alloc (.cells #[.int .i64 (N : Int), .slice a2 N c2] 37)).alloc (.cells #[.int .i64 0, .slice none 0 0] 37) := ⟨_, rfl⟩
  obtain ⟨C1, C2, C3, B0⟩ := three_box W N N _ _ hU
  have p0 : U.cell? ⟨W.heap.size, 0, none⟩ = some (.int .i64 (N : Int)) := C1.c 0 (by decide)
  have p1 : U.cell? ⟨W.heap.size, 1, none⟩ = some (.slice a1 N c1) := C1.c 1 (by decide)
  have q0 : U.cell? ⟨W.heap.size + 1, 0, none⟩ = some (.int .i64 (N : Int)) := C2.c 0 (by decide)
  have q1 : U.cell? ⟨W.heap.size + 1, 1, none⟩ = some (.slice a2 N c2) := C2.c 1 (by decide)
  have CP := Lib.hid (mpair_at (h1.below B0) (h2.below B0) hb)
  have S1 := Lib.hid (h1.below B0)
  have S2 := Lib.hid (h2.below B0)
  have P1 := Lib.hid C1
  have P2 := Lib.hid C2
  have T := Lib.hid C3
  have HB := Lib.hid B0
  have HU := Lib.hid hU.symm
  have L1 := Lib.hid hN3
  have L2 := Lib.hid hM3
  have E1 := Lib.hid hN4
  have E2 := Lib.hid hM4
  have hmk := make_rows N rfl (by omega)
  clear hU C1 C2 C3 B0 h1 h2 hb g1 g2 hN hN3 hM3 hN4 hM4
  go_enter Try.func42, Try.ntmps42
  go_wp2_with fail
  rw [HU.out]
  go_wp2_with fail
  refine CP.out.mono ?_
  rintro e w1 ⟨rfl, hb1⟩
  replace S1 := Lib.hid (S1.out.below hb1)
  replace S2 := Lib.hid (S2.out.below hb1)
  replace P1 := Lib.hid (P1.out.below hb1)
  replace P2 := Lib.hid (P2.out.below hb1)
  replace T := Lib.hid (T.out.below hb1)
  replace HB := Lib.hid (HB.out.trans (hb1.mono HB.out.size))
  clear p0 p1 q0 q1 hb1 CP HU
  have p0 : w1.drew.cell? ⟨W.heap.size, 0, none⟩ = some (.int .i64 (N : Int)) := P1.out.c 0 (by decide)
  have p0a : (w1.alloc (.cells #[.int .i64 0, .slice none 0 0] 37)).drew.cell? ⟨W.heap.size, 0, none⟩ = some (.int .i64 (N : Int)) := ((P1.out.below (box_b _ _)).drew).c 0 (by decide)
  have p0b : (w1.alloc (.cells (madeCells #[.slice none 0 0] N) 42)).drew.cell? ⟨W.heap.size, 0, none⟩ = some (.int .i64 (N : Int)) := ((P1.out.below (box_b _ _)).drew).c 0 (by decide)
  have p0c : ((w1.alloc (.cells #[.int .i64 0, .slice none 0 0] 37)).alloc (.cells (madeCells #[.slice none 0 0] N) 42)).drew.cell? ⟨W.heap.size, 0, none⟩ = some (.int .i64 (N : Int)) := (((P1.out.below (box_b _ _)).below (box_b _ _)).drew).c 0 (by decide)
  have p0d : ((w1.alloc (.cells (madeCells #[.slice none 0 0] N) 42)).alloc (.cells #[.int .i64 0, .slice none 0 0] 37)).drew.cell? ⟨W.heap.size, 0, none⟩ = some (.int .i64 (N : Int)) := (((P1.out.below (box_b _ _)).below (box_b _ _)).drew).c 0 (by decide)
  go_upto_region 3 with fail
  go_cut [6] from 13 to 18 (fun v6 wx => ∃ p sa sc, v6 = .pointer (some ⟨p, 0, none⟩) ∧ FillV w1 wx p (N : Int) (.slice sa N sc) [] (List.replicate N ⟨none, 0, []⟩))
  case first =>
    go_region
    all_goals
      go_wp2_with fail
      go_meet
      first
        | exact ⟨_, _, _, rfl, fil_a w1 N hN2⟩
        | exact ⟨_, _, _, rfl, fil_b w1 N hN2⟩
  case rest =>
    obtain ⟨p, sa, sc, rfl, hF⟩ := hcut
    have k1 : wc.cell? ⟨p, 1, none⟩ = some (.slice sa N sc) := hF.c.c 1 (by decide)
    have I0 := Lib.hid (show JmR w1 p N (N : Int) (.slice sa N sc) m1 m2 (.int .i64 0) wc from ⟨0, [], Nat.zero_le _, rfl, rfl, rfl, hF⟩)
    clear hF p0 p0a p0b p0c p0d hmk
    go_wp2_with fail
    go_loopw [22] (fun i wr => JmR w1 p N (N : Int) (.slice sa N sc) m1 m2 i wr) (fun i _ => N - (intOf i).toNat)
    case atStart => exact I0.out
    case round =>
      obtain ⟨k, K, hk, rfl, hl, hm, hF⟩ := hrel
      clear I0
      by_cases hlt : k < N
      · rw [show N - k = (N - (k + 1)) + 1 by omega, List.replicate_succ] at hF
        have bD : Below w1.heap.size w1 wr.drew := hF.b.trans ((drew_below wr).mono hF.b.size)
        obtain ⟨b, off, ra, rc, rfl, x1, y1⟩ := (S1.out.below bD).row hlt
        obtain ⟨b2, off2, ra2, rc2, rfl, x2, y2⟩ := (S2.out.below bD).row hlt
        have x1' : wr.cell? ⟨b, off + k, none⟩ = _ := x1
        have x2' : wr.cell? ⟨b2, off2 + k, none⟩ = _ := x2
        have v1d : wr.drew.cell? ⟨W.heap.size, 1, none⟩ = some (.slice (some ⟨b, off, none⟩) N c1) := (P1.out.below bD).c 1 (by decide)
        have v2d : wr.drew.cell? ⟨W.heap.size + 1, 1, none⟩ = some (.slice (some ⟨b2, off2, none⟩) N c2) := (P2.out.below bD).c 1 (by decide)
        have v1 : wr.cell? ⟨W.heap.size, 1, none⟩ = some (.slice (some ⟨b, off, none⟩) N c1) := v1d
        have v2 : wr.cell? ⟨W.heap.size + 1, 1, none⟩ = some (.slice (some ⟨b2, off2, none⟩) N c2) := v2d
        have u1 : wr.cell? ⟨p, 1, none⟩ = some (.slice sa N sc) := hF.c.c 1 (by decide)
        have u1d : wr.drew.cell? ⟨p, 1, none⟩ = some (.slice sa N sc) := u1
        have m1k : k < m1.length := by rw [L1.out]; exact hlt
        have m2k : k < m2.length := by rw [L2.out]; exact hlt
        have n1 : (m1.getD k []).length = N := by rw [List.getD, List.getElem?_eq_getElem m1k]; exact E1.out _ (List.getElem_mem _)
        have n2 : (m2.getD k []).length = N := by rw [List.getD, List.getElem?_eq_getElem m2k]; exact E2.out _ (List.getElem_mem _)
        have CJ := Lib.hid (cl_join y1 y2 rfl rfl (by omega) (by omega) rfl rfl)
        have FIN := Lib.hid (fun (w3 : World) (a : Option Addr) (c : Nat) (g1 : Below wr.drew.heap.size wr.drew w3) (g2 : w3.ownsRow wr.drew.heap.size 29 1 (.slice a (joinL (m1.getD k []) (m2.getD k [])).length c) (joinL (m1.getD k []) (m2.getD k [])).length ((joinL (m1.getD k []) (m2.getD k [])).map qV)) =>
          show ∃ g c9, sa = some ⟨g, 0, none⟩ ∧ w3.cell? ⟨g, k, none⟩ = some c9 ∧ w3.frozen? ⟨g, k, none⟩ = false ∧ w3.cell? ⟨p, 1, none⟩ = some (.slice sa N sc) ∧ JmR w1 p N (N : Int) (.slice sa N sc) m1 m2 (.int .i64 ((k + 1 : Nat) : Int)) (w3.setCell ⟨g, k, none⟩ (.slice a (joinL (m1.getD k []) (m2.getD k [])).length c)) from by
            obtain ⟨g, cap, e, z1, z2, z3, z4⟩ := hF.drew.next g1 g2 (joinL_lt (by decide) y1.lt y2.lt)
            simp only [Value.slice.injEq] at e
            obtain ⟨rfl, -, rfl⟩ := e
            rw [hl] at z1 z2 z4
            exact ⟨g, _, rfl, z1, z2, z3, k + 1, _, by omega, rfl, by simp [hl], JmR.step hm m1k m2k, z4⟩)
        obtain ⟨gs, cs, es, -⟩ := hF.sq.look
        simp only [Value.slice.injEq] at es
        obtain ⟨rfl, -, -⟩ := es
        have j0 : (0 : Int) ≤ (k : Int) := by omega
        have j1 : (k : Int) < (N : Int) := by omega
        clear hF hl hm bD y1 y2 m1k m2k
        rw [n1] at x1 x1' CJ
        rw [n2] at x2 x2' CJ
        clear n1 n2
        generalize joinL (m1.getD k []) (m2.getD k []) = rr at *
        generalize rr.length = rl at *
        go_wp2_with fail
        go_region_law (go_simp; go_at_call 68; refine CJ.out.mono ?_; rintro e w3 ⟨a3, c3, rfl, -, hb3, -, ho3⟩; obtain ⟨g9, c9, e9, k1, k2, k4, k3⟩ := FIN.out w3 a3 c3 hb3 ho3; cases e9; have R := Lib.hid k3; clear hb3 ho3 k3)
        all_goals
          try go_simp
          go_wp2_with fail
          go_roundw
          case rel => exact R.out
          case measure => simp only [intOf]; omega
      · obtain rfl : k = N := by omega
        have dk : decide ((k : Int) < (k : Int)) = false := decide_eq_false (by omega)
        rw [Nat.sub_self, List.replicate_zero] at hF
        rw [List.take_of_length_le (by rw [joinM_len, L1.out]; exact Nat.le_refl _)] at hm
        obtain ⟨⟨d0, d1, f0, f1, e0, e1⟩, r0, r1, hR⟩ := hF.fin hl hm T.out HB.out (by omega)
        have R := Lib.hid hR
        clear hR hF hl hm
        go_wp2_with fail
        refine bodyPost_ret (v := .tuple #[.agg #[.int .i64 (k : Int), .slice sa k sc], .int .i64 0]) (by simp [results, Try.results42, go_sem, r0, r1]) rfl ?_
        exact ⟨_, _, rfl, R.out⟩

theorem mjoin_yes {A B : Nat → Prop} {W : World} {a1 a2 : Option Addr} {c1 c2 n1 n2 : Nat} {m1 m2 : List (List Nat)} {z1 z2 : Int} (h1 : SqAt A W a1 c1 n1 m1) (h2 : SqAt B W a2 c2 n2 m2) (hb : bothM z1 m1 z2 m2 = true) :
    Calls Try.prog 42 #[.agg #[.int .i64 z1, .slice a1 n1 c1], .agg #[.int .i64 z2, .slice a2 n2 c2]] W fun e w' => ∃ a' cap', e = .returned (.tuple #[.agg #[.int .i64 z1, .slice a' n1 cap'], .int .i64 0]) ∧ SqR (fun k => A k ∨ B k) W n1 (joinM m1 m2) a' cap' w' :=
  (mjoin_new h1 h2 hb).mono fun _ _ ⟨a, c, e, h, hb⟩ => ⟨a, c, e, h.mono (fun _ _ hk => hk.elim (fun h => h.elim) Or.inr), hb⟩

end Go.Proofs.Ytopnagjbdjicaaa
