/-
  MatUps.
-/
import Derived.Test.YtfiamomadicbpaaCaw
import Derived.Test.YtfiamomadicbpaaCups
import Derived.Test.YtfiamomadicbpaaCjb
import Derived.Deep.RegionHeld3
import Derived.Test.YtfiamomadicbpaaWreg
namespace Go.Proofs.Ytfiamomadicbpaa
open Go.RowKit

theorem MtV.far {A : Nat → Prop} {w : World} {p q : Nat} {z : Int} {a : Option Addr} {cap n : Nat} {m : List (List Nat)} {u v : Value} (h : MtV A w q z a cap n m) (hq : q ≠ p) (hA : ¬ A p) : MtV A ((w.setCell ⟨p, 0, none⟩ u).setCell ⟨p, 1, none⟩ v) q z a cap n m :=
  ⟨h.c.keep (F := fun k => k = p) (((Keep.refl _ w).put 0 u).put 1 v) hq, (h.s.put hA 0 u).put hA 1 v⟩
theorem wrapI {z : Int} (h : -9223372036854775808 ≤ z ∧ z ≤ 9223372036854775807) : IntKind.i64.wrap z = z := by
  simp only [IntKind.wrap, IntKind.bits, IntKind.signed]
  simp
  omega

/-- Two squares in variables, counted up in one order and the other. -/
def UpsW (W : World) (p7 p9 n : Nat) (Q : List (Int × Nat)) (k : Nat) (wr : World) : Prop :=
  ∃ mm oo am cm ao co, MtV (fun k => k ≠ p7 ∧ k ≠ p9) wr p7 (n : Int) am cm n mm ∧ MtV (fun k => k ≠ p7 ∧ k ≠ p9) wr p9 (n : Int) ao co n oo ∧ Ups n mm (Q.take k) ∧ Ups n oo (Q.reverse.take k) ∧ Below W.heap.size W wr

/-- What stands while the columns are looked at. -/
structure InnW (W : World) (p7 p9 p11 n : Nat) (m2 oo mm : List (List Nat)) (a5 : Option Addr) (c5 : Nat) (ax : Option Addr) (cx : Nat) (am : Option Addr) (cm : Nat) (wo : World) : Prop where
  m : MtV (fun k => k ≠ p7 ∧ k ≠ p9) wo p7 (n : Int) a5 c5 n m2
  o : MtV (fun k => k ≠ p7 ∧ k ≠ p9) wo p9 (n : Int) ax cx n oo
  q : MtV (fun k => k ≠ p7 ∧ k ≠ p9) wo p11 (n : Int) am cm n mm
  b : Below W.heap.size W wo
theorem InnW.below {W : World} {p7 p9 p11 n : Nat} {m2 oo mm : List (List Nat)} {a5 : Option Addr} {c5 : Nat} {ax : Option Addr} {cx : Nat} {am : Option Addr} {cm : Nat} {w w' : World} (h : InnW W p7 p9 p11 n m2 oo mm a5 c5 ax cx am cm w) (hb : Below w.heap.size w w') : InnW W p7 p9 p11 n m2 oo mm a5 c5 ax cx am cm w' :=
  ⟨h.m.below hb, h.o.below hb, h.q.below hb, h.b.trans (hb.mono h.b.size)⟩

set_option maxRecDepth 20000 in
set_option maxHeartbeats 32000000 in
theorem law_MatUps (z : Int) (L : List Nat) (ao0 : Option Addr) (c0 : Nat) (R : List Int) (ao1 : Option Addr) (c1 : Nat) (W : World) (b0 : SlAt qV 18446744073709551616 W ao0 c0 L) (b1 : SlV W ao1 c1 (R.map fun x => Value.int .i64 x)) :
    Calls Try.prog 6 #[.int .i64 z, .slice ao0 L.length c0, .slice ao1 R.length c1] W (VOk W) := by
  have A0 := Lib.hid b0
  have A1 := Lib.hid b1
  have hf0 := b0.fit
  have hf1 := b1.fit
  have hm0 := b0.max
  have hm1 := b1.max
  unfold maxLen at hm0 hm1
  rw [List.length_map] at hf1
  clear b0 b1
  obtain ⟨ln, hl⟩ : ∃ ln, ln = L.length := ⟨_, rfl⟩
  obtain ⟨rn, hr⟩ : ∃ rn, rn = R.length := ⟨_, rfl⟩
  have HL := Lib.hid hl.symm
  have HR := Lib.hid hr.symm
  rw [← hl] at hf0 ⊢
  rw [← hr] at hf1 ⊢
  clear hl hr
  go_enter Try.func6, Try.ntmps6
  go_wp2_with fail
  refine (mawake_any W).mono ?_
  rintro e w1 ⟨rfl, hb⟩
  have B := Lib.hid hb
  clear hb
  by_cases hz : z < 1 ∨ z > 16
  · go_wp2_with fail
    refine (mnew_no hz).mono ?_
    rintro e w2 ⟨rfl, hb⟩
    replace B := Lib.hid (B.out.trans (hb.mono B.out.size))
    replace B := Lib.hid (B.out.alloc B.out.size (.cells #[.int .i64 0, .slice none 0 0] 25))
    clear hb hz
    go_wp2_with fail
    go_ret
    exact ⟨rfl, B.out⟩
  obtain ⟨n, rfl⟩ : ∃ n : Nat, z = n := ⟨z.toNat, by omega⟩
  have hn1 : 1 ≤ n := by omega
  have hn2 : n ≤ 16 := by omega
  have HN1 := Lib.hid hn1
  have HN2 := Lib.hid hn2
  clear hz
  go_wp2_with fail
  refine (mnew_yes (W := w1) rfl hn1 hn2).mono ?_
  rintro e w2 ⟨a2, k2, rfl, h2⟩
  replace B := Lib.hid (B.out.trans (h2.2.mono B.out.size))
  have X := Lib.hid (h2.1.mono (A' := fun k => k ≠ w2.heap.size ∧ k ≠ w2.heap.size + 1) (fun k hk _ => ⟨by omega, by omega⟩))
  clear h2 hn1
  have B2 := Lib.hid (B.out.alloc B.out.size (.cells #[.int .i64 (n : Int), .slice a2 n k2] 25))
  by_cases h20 : 20 < ln
  · have d1 : decide ((ln : Int) > 20) = true := decide_eq_true (by omega)
    have d2 : decide (20 < ln) = true := decide_eq_true h20
    clear h20
    go_wp2_with fail
    go_ret
    exact ⟨rfl, B2.out⟩
  have d1 : decide ((ln : Int) > 20) = false := decide_eq_false (by omega)
  have d2 : decide (20 < ln) = false := decide_eq_false h20
  have hl20 : ln ≤ 20 := by omega
  clear h20
  by_cases hrl : rn < ln
  · have d3 : decide ((rn : Int) < (ln : Int)) = true := decide_eq_true (by omega)
    have d4 : decide (rn < ln) = true := decide_eq_true hrl
    clear hrl
    go_wp2_with fail
    go_ret
    exact ⟨rfl, B2.out⟩
  have d3 : decide ((rn : Int) < (ln : Int)) = false := decide_eq_false (by omega)
  have d4 : decide (rn < ln) = false := decide_eq_false hrl
  have hlr : ln ≤ rn := by omega
  clear hrl
  go_wp2_with fail
  have M1 := (MtV.new (z := (n : Int)) X.out 25).below (below_alloc (Below.refl _ _) (.cells #[.int .i64 (n : Int), .slice a2 n k2] 25))
  have O1 := MtV.new (z := (n : Int)) (X.out.below (below_alloc (Below.refl _ _) (.cells #[.int .i64 (n : Int), .slice a2 n k2] 25))) 25
  rw [size_one] at O1
  have QL := Lib.hid (show (R.zip L).length = ln from by rw [List.length_zip, HL.out, HR.out]; omega)
  have I0 := Lib.hid (show UpsW W w2.heap.size (w2.heap.size + 1) n (R.zip L) 0 ((w2.alloc (.cells #[.int .i64 (n : Int), .slice a2 n k2] 25)).alloc (.cells #[.int .i64 (n : Int), .slice a2 n k2] 25)) from
    ⟨_, _, a2, k2, a2, k2, M1, O1, by rw [List.take_zero]; exact Ups.zero HN1.out hn2, by rw [List.take_zero]; exact Ups.zero HN1.out hn2, B2.out.alloc B2.out.size _⟩)
  have P7 := Lib.hid B.out.size
  clear M1 O1 X B B2
  generalize (w2.alloc (.cells #[.int .i64 (n : Int), .slice a2 n k2] 25)).alloc (.cells #[.int .i64 (n : Int), .slice a2 n k2] 25) = w3 at *
  generalize hp7 : w2.heap.size = p7 at *
  obtain ⟨p9, hp9⟩ : ∃ p9, p9 = p7 + 1 := ⟨_, rfl⟩
  rw [← hp9] at I0 ⊢
  have N79 := Lib.hid (show p7 ≠ p9 ∧ W.heap.size ≤ p7 ∧ W.heap.size ≤ p9 from ⟨by omega, P7.out, by have := P7.out; omega⟩)
  clear hp7 hp9 P7
  go_loopw [10] (fun v wr => ∃ k : Nat, k ≤ ln ∧ v = .int .i64 (k : Nat) ∧ UpsW W p7 p9 n (R.zip L) k wr) (fun v _ => ln - (intOf v).toNat)
  case atStart => exact ⟨0, Nat.zero_le _, rfl, I0.out⟩
  case round =>
    obtain ⟨k, hk, rfl, mm, oo, am, cm, ax, cx, hM, hO, uM, uO, hb⟩ := hrel
    clear I0
    have B := Lib.hid hb
    have M := Lib.hid hM
    have O := Lib.hid hO
    have UM := Lib.hid uM
    have UO := Lib.hid uO
    clear hM hO uM uO hb
    by_cases hlt : k < ln
    · have kL : k < L.length := by rw [HL.out]; exact hlt
      have kR : k < R.length := by rw [HR.out]; omega
      have kL2 : ln - 1 - k < L.length := by rw [HL.out]; omega
      have kR2 : ln - 1 - k < R.length := by rw [HR.out]; omega
      obtain ⟨lb, lo, rfl, hlb, cl⟩ := A0.out.at kL
      obtain ⟨lb2, lo2, e2, -, cl2⟩ := A0.out.at kL2
      cases e2
      obtain ⟨rb, ro, rfl, hrb, cr⟩ := A1.out.at k kR
      obtain ⟨rb2, ro2, e2, -, cr2⟩ := A1.out.at (ln - 1 - k) kR2
      cases e2
      have TT := Lib.hid (atN_lt (show 0 < QM by decide) A0.out.lt k)
      have TT2 := Lib.hid (atN_lt (show 0 < QM by decide) A0.out.lt (ln - 1 - k))
      have PK := Lib.hid (show (R.zip L).take (k + 1) = (R.zip L).take k ++ [(R[k], atN L k)] from by
        rw [List.take_succ_eq_append_getElem (by rw [QL.out]; exact hlt), List.getElem_zip, atN_of kL])
      have PK2 := Lib.hid (show (R.zip L).reverse.take (k + 1) = (R.zip L).reverse.take k ++ [(R[ln - 1 - k], atN L (ln - 1 - k))] from by
        rw [List.take_succ_eq_append_getElem (by rw [List.length_reverse, QL.out]; exact hlt), List.getElem_reverse, List.getElem_zip, atN_of kL2]
        simp only [QL.out])
      have PL := Lib.hid (show ((R.zip L).take k).length ≤ 1000 from by simp; omega)
      have PL2 := Lib.hid (show ((R.zip L).reverse.take k).length ≤ 1000 from by simp; omega)
      have cl' : W.cell? ⟨lb, lo + k, none⟩ = some (.int .u64 ((atN L k : Nat) : Int)) := cl
      have cl2' : W.cell? ⟨lb, lo + (ln - 1 - k), none⟩ = some (.int .u64 ((atN L (ln - 1 - k) : Nat) : Int)) := cl2
      clear cl cl2
      generalize atN L k = t at *
      generalize atN L (ln - 1 - k) = t2 at *
      generalize R[k] = x at *
      generalize R[ln - 1 - k] = x2 at *
      clear kL kR kL2 kR2
      obtain ⟨j2, hj2⟩ : ∃ j2, j2 = ln - 1 - k := ⟨_, rfl⟩
      rw [← hj2] at cl2' cr2
      have CL := Lib.hid cl'
      have CL2 := Lib.hid cl2'
      have CR := Lib.hid cr
      have CR2 := Lib.hid cr2
      have e1' : IntKind.i64.wrap ((ln : Int) - 1) = (ln : Int) - 1 := wrapI (by omega)
      have e2' : IntKind.i64.wrap ((ln : Int) - 1 - (k : Int)) = (j2 : Int) := by rw [wrapI (by omega)]; omega
      have i0 : (0 : Int) ≤ (k : Int) := by omega
      have i1 : (k : Int) < (ln : Int) := by omega
      have i2 : (k : Int) < (rn : Int) := by omega
      have i3 : (0 : Int) ≤ (j2 : Int) := by omega
      have i4 : (j2 : Int) < (ln : Int) := by omega
      have i5 : (j2 : Int) < (rn : Int) := by omega
      clear cl' cl2' cr cr2 hlb hrb hj2 hk
      have k0 := M.out.c0
      have k1 := M.out.c1
      have LTO := Lib.hid O.out.c.lt
      go_upto_region 11 with fail
      have WAS := Lib.hid (MtV.new (z := (n : Int)) M.out.s 25)
      have SW := Lib.hid (below_alloc (Below.refl _ wr) (.cells #[.int .i64 (n : Int), .slice am n cm] 25))
      replace M := Lib.hid (M.out.below SW.out)
      replace O := Lib.hid (O.out.below SW.out)
      replace B := Lib.hid (B.out.trans (SW.out.mono B.out.size))
      have NP := Lib.hid (show wr.heap.size ≠ p7 ∧ wr.heap.size ≠ p9 from ⟨fun e => (by have h := k0; have := cell_lt h; simp only at this; omega), fun e => Nat.lt_irrefl _ (e ▸ LTO.out)⟩)
      clear k0 k1 SW
      generalize wr.alloc (.cells #[.int .i64 (n : Int), .slice am n cm] 25) = w4 at *
      generalize wr.heap.size = p11 at *
      have ROWS := Lib.hid (show ∀ r ∈ mm, r.length ≤ 10000 from good_rows UM.out.g)
      have y0 := M.out.c0
      have y1 := M.out.c1
      have yr := cell_go CR.out B.out
      have yl := cell_go CL.out B.out
      go_cut [] from 44 to 53 (fun wx => ∃ a c, MtV (fun k => k ≠ p7 ∧ k ≠ p9) wx p7 (n : Int) a c n (upM (n : Int) mm x t) ∧ MtV (fun k => k ≠ p7 ∧ k ≠ p9) wx p9 (n : Int) ax cx n oo ∧ MtV (fun k => k ≠ p7 ∧ k ≠ p9) wx p11 (n : Int) am cm n mm ∧ Below W.heap.size W wx)
      case first =>
          refine wp_region_noPanic ?_
          refine wp_region_z (S := (fun w' => w'.cell? ⟨p7, 0, none⟩ = some (.int .i64 (n : Int)) ∧ w'.cell? ⟨p7, 1, none⟩ = some (.slice am n cm) ∧ w'.cell? ⟨rb, ro + k, none⟩ = some (.int .i64 x) ∧ w'.cell? ⟨lb, lo + k, none⟩ = some (.int .u64 (t : Int)) ∧ Hid (Below w4.heap.size w4 w'))) (z := 10) (by kernel_rfl) ?_ (fun hHeld => ?_)
          · exact ⟨y0, y1, yr, yl, Lib.hid (drew_below w4)⟩
          refine anyZ_take (i := 0) (oi := { dst := some 44, op := Op.load 25 (Operand.tmp 7), type := 25, pos := "more.go:21", after := #[], guard := none }) (v := ?_) rfl (by kernel_rfl) (by kernel_rfl) (by kernel_rfl) (by kernel_rfl) (fun _ _ _ h => h) (Or.inl ⟨by rfl, ?_⟩) (by assumption) ?_
          rotate_left
          · (intro w hSw; (try dsimp only at hSw); go_simp; try with_reducible rfl)
          ((try simp only [Act.put]); (try simp only [List.setIfInBounds_toArray]); (try simp only [List.set_cons_succ]); (try simp only [List.set_cons_zero]))
          refine anyZ_take (i := 1) (oi := { dst := some 45, op := Op.move (Operand.tmp 2), type := 52, pos := "more.go:21", after := #[], guard := none }) (v := ?_) rfl (by kernel_rfl) (by kernel_rfl) (by kernel_rfl) (by kernel_rfl) (fun _ _ _ h => h) (Or.inl ⟨by rfl, ?_⟩) (by assumption) ?_
          rotate_left
          · (intro w hSw; (try dsimp only at hSw); go_simp; try with_reducible rfl)
          ((try simp only [Act.put]); (try simp only [List.setIfInBounds_toArray]); (try simp only [List.set_cons_succ]); (try simp only [List.set_cons_zero]))
          refine anyZ_take (i := 2) (oi := { dst := some 46, op := Op.move (Operand.tmp 10), type := 3, pos := "more.go:21", after := #[], guard := none }) (v := ?_) rfl (by kernel_rfl) (by kernel_rfl) (by kernel_rfl) (by kernel_rfl) (fun _ _ _ h => h) (Or.inl ⟨by rfl, ?_⟩) (by assumption) ?_
          rotate_left
          · (intro w hSw; (try dsimp only at hSw); go_simp; try with_reducible rfl)
          ((try simp only [Act.put]); (try simp only [List.setIfInBounds_toArray]); (try simp only [List.set_cons_succ]); (try simp only [List.set_cons_zero]))
          refine anyZ_take (i := 3) (oi := { dst := some 47, op := Op.indexAddr 52 (Operand.tmp 45) (Operand.tmp 46), type := 0, pos := "more.go:21", after := #[{ on := 1, ground := Ground.data }, { on := 2, ground := Ground.data }], guard := none }) (v := ?_) rfl (by kernel_rfl) (by kernel_rfl) (by kernel_rfl) (by kernel_rfl) (fun _ _ _ h => h) (Or.inl ⟨by rfl, ?_⟩) (by assumption) ?_
          rotate_left
          · (intro w hSw; (try dsimp only at hSw); go_simp; try with_reducible rfl)
          ((try simp only [Act.put]); (try simp only [List.setIfInBounds_toArray]); (try simp only [List.set_cons_succ]); (try simp only [List.set_cons_zero]))
          refine anyZ_take (i := 4) (oi := { dst := some 48, op := Op.load 3 (Operand.tmp 47), type := 3, pos := "more.go:21", after := #[{ on := 3, ground := Ground.data }], guard := none }) (v := ?_) rfl (by kernel_rfl) (by kernel_rfl) (by kernel_rfl) (by kernel_rfl) (fun _ _ _ h => h) (Or.inl ⟨by rfl, ?_⟩) (by assumption) ?_
          rotate_left
          · (intro w hSw; (try dsimp only at hSw); go_simp; try with_reducible rfl)
          ((try simp only [Act.put]); (try simp only [List.setIfInBounds_toArray]); (try simp only [List.set_cons_succ]); (try simp only [List.set_cons_zero]))
          refine anyZ_take (i := 5) (oi := { dst := some 49, op := Op.move (Operand.tmp 1), type := 37, pos := "more.go:21", after := #[], guard := none }) (v := ?_) rfl (by kernel_rfl) (by kernel_rfl) (by kernel_rfl) (by kernel_rfl) (fun _ _ _ h => h) (Or.inl ⟨by rfl, ?_⟩) (by assumption) ?_
          rotate_left
          · (intro w hSw; (try dsimp only at hSw); go_simp; try with_reducible rfl)
          ((try simp only [Act.put]); (try simp only [List.setIfInBounds_toArray]); (try simp only [List.set_cons_succ]); (try simp only [List.set_cons_zero]))
          refine anyZ_take (i := 6) (oi := { dst := some 50, op := Op.move (Operand.tmp 10), type := 3, pos := "more.go:21", after := #[], guard := none }) (v := ?_) rfl (by kernel_rfl) (by kernel_rfl) (by kernel_rfl) (by kernel_rfl) (fun _ _ _ h => h) (Or.inl ⟨by rfl, ?_⟩) (by assumption) ?_
          rotate_left
          · (intro w hSw; (try dsimp only at hSw); go_simp; try with_reducible rfl)
          ((try simp only [Act.put]); (try simp only [List.setIfInBounds_toArray]); (try simp only [List.set_cons_succ]); (try simp only [List.set_cons_zero]))
          refine anyZ_take (i := 7) (oi := { dst := some 51, op := Op.indexAddr 37 (Operand.tmp 49) (Operand.tmp 50), type := 0, pos := "more.go:21", after := #[{ on := 5, ground := Ground.data }, { on := 6, ground := Ground.data }], guard := none }) (v := ?_) rfl (by kernel_rfl) (by kernel_rfl) (by kernel_rfl) (by kernel_rfl) (fun _ _ _ h => h) (Or.inl ⟨by rfl, ?_⟩) (by assumption) ?_
          rotate_left
          · (intro w hSw; (try dsimp only at hSw); go_simp; try with_reducible rfl)
          ((try simp only [Act.put]); (try simp only [List.setIfInBounds_toArray]); (try simp only [List.set_cons_succ]); (try simp only [List.set_cons_zero]))
          refine anyZ_take (i := 8) (oi := { dst := some 52, op := Op.load 30 (Operand.tmp 51), type := 30, pos := "more.go:21", after := #[{ on := 7, ground := Ground.data }], guard := none }) (v := ?_) rfl (by kernel_rfl) (by kernel_rfl) (by kernel_rfl) (by kernel_rfl) (fun _ _ _ h => h) (Or.inl ⟨by rfl, ?_⟩) (by assumption) ?_
          rotate_left
          · (intro w hSw; (try dsimp only at hSw); go_simp; try with_reducible rfl)
          ((try simp only [Act.put]); (try simp only [List.setIfInBounds_toArray]); (try simp only [List.set_cons_succ]); (try simp only [List.set_cons_zero]))
          refine anyZ_ready (rs := [9]) (by kernel_rfl) (by simp) ?_
          refine AllZ.cons (o := { dst := some 53, op := Op.call { callee := Callee.value (Operand.func 9), args := #[Operand.tmp 44, Operand.tmp 48, Operand.tmp 52], argTypes := #[25, 3, 31] }, type := 25, pos := "more.go:21", after := #[{ on := 0, ground := Ground.data }, { on := 4, ground := Ground.data }, { on := 8, ground := Ground.data }], guard := none }) rfl (fun K hK => ?_) AllZ.nil
          go_simp
          refine (mup_at (M.out.s.below (Hid.out hHeld.2.2.2.2)) (by omega) ROWS.out TT.out).mono ?_
          rintro e w5 ⟨a5, c5, rfl, h5⟩
          have hb := h5.2
          have MF := Lib.hid ((M.out.c.below (Hid.out hHeld.2.2.2.2)).below hb)
          have f0 := MF.out.fz 0
          have f1 := MF.out.fz 1
          have BW := Lib.hid ((Hid.out hHeld.2.2.2.2).trans (hb.mono (Hid.out hHeld.2.2.2.2).size))
          have SZ := Lib.hid (Hid.out hHeld.2.2.2.2).size
          have H5 := Lib.hid h5.1
          clear h5
          refine hK.out _ _ ?_ (fun hNew => ?_)
          · first | exact hHeld | exact ⟨cell_go hHeld.1 hb, cell_go hHeld.2.1 hb, cell_go hHeld.2.2.1 hb, cell_go hHeld.2.2.2.1 hb, Lib.hid ((Hid.out hHeld.2.2.2.2).trans (hb.mono (Hid.out hHeld.2.2.2.2).size))⟩
          clear hK K
          replace hHeld := hNew
          clear hNew
          ((try simp only [Act.put]); (try simp only [List.setIfInBounds_toArray]); (try simp only [List.set_cons_succ]); (try simp only [List.set_cons_zero]))
          refine anyZ_ready (rs := [10]) (by kernel_rfl) (by simp) ?_
          refine AllZ.last (o := { dst := none, op := Op.store 25 (Operand.tmp 7) (Operand.tmp 53), type := 0, pos := "more.go:21", after := #[{ on := 9, ground := Ground.data }, { on := 9, ground := Ground.chain }, { on := 0, ground := Ground.phase }, { on := 1, ground := Ground.phase }, { on := 2, ground := Ground.phase }, { on := 3, ground := Ground.phase }, { on := 4, ground := Ground.phase }, { on := 5, ground := Ground.phase }, { on := 6, ground := Ground.phase }, { on := 7, ground := Ground.phase }, { on := 8, ground := Ground.phase }, { on := 9, ground := Ground.phase }], guard := none }) rfl (fun K hK => ?_)
          go_simp
          refine hK.out _ _ ?_
          clear hK K
          ((try simp only [Act.put]); (try simp only [List.setIfInBounds_toArray]); (try simp only [List.set_cons_succ]); (try simp only [List.set_cons_zero]))
          refine anyZ_done (by kernel_rfl) ?_ _
          refine NoPanic.normal ?_
          go_wp2_with fail
          go_meet
          have H6 := H5.out.mono (A' := fun k => k ≠ p7 ∧ k ≠ p9) (fun k _ h => h.elim id (fun h => by have := M.out.c.lt; have := O.out.c.lt; have := SZ.out; constructor <;> omega))
          refine ⟨a5, c5, MtV.store MF.out H6 (fun h => h.1 rfl), (O.out.below BW.out).far (fun e => N79.out.1 e.symm) (fun h => h.1 rfl), (WAS.out.below BW.out).far NP.out.1 (fun h => h.1 rfl), ?_⟩
          exact ((B.out.trans (BW.out.mono B.out.size)).setCell (by exact N79.out.2.1) _).setCell (by exact N79.out.2.1) _
      case rest =>
        obtain ⟨a5, c5, hM, hO, hW, hb⟩ := hcut
        have U2 := Lib.hid (show Ups n (upM (n : Int) mm x t) ((R.zip L).take (k + 1)) from by rw [PK.out]; exact UM.out.more PL.out)
        have ATS := Lib.hid (fun (j : Nat) (hj : j < n) => show atM (upM (n : Int) mm x t) x (j : Int) = atM mm x (j : Int) + if upB n x t j = true then 1 else 0 from atM_up UM.out PL.out hj)
        have ATL := Lib.hid (fun (j : Nat) (hj : j < n) => Nat.le_trans (UM.out.at_le x hj) PL.out)
        have COL := Lib.hid (fun (j : Nat) (hj : j < n) => show cmpZ (colM (n : Int) mm (j : Int)) (colM (n : Int) (upM (n : Int) mm x t) (j : Int)) = if upB n x t j = true then -1 else 0 from col_cmp UM.out PL.out hj)
        have CL1 := Lib.hid (fun (j : Nat) (hj : j < n) => colM_len UM.out.g hj)
        have CLU := Lib.hid (fun (j : Nat) (hj : j < n) => colM_len U2.out.g hj)
        have GM := Lib.hid UM.out.g
        have GU := Lib.hid U2.out.g
        have ROW2 := Lib.hid (good_rows UO.out.g)
        generalize upM (n : Int) mm x t = m2 at *
        have J0 := Lib.hid (show InnW W p7 p9 p11 n m2 oo mm a5 c5 ax cx am cm wc from ⟨hM, hO, hW, hb⟩)
        clear hM hO hW hb M O B WAS y0 y1 yr yl ROWS UM PK PL
        go_wp2_with fail
        go_loopw [12] (fun v wy => ∃ j : Nat, j ≤ n ∧ v = .int .i64 (j : Nat) ∧ InnW W p7 p9 p11 n m2 oo mm a5 c5 ax cx am cm wy) (fun v _ => n - (intOf v).toNat)
        case atStart => exact ⟨0, Nat.zero_le _, rfl, J0.out⟩
        case round =>
          obtain ⟨j, hj, rfl, hI⟩ := hrel
          have IN := Lib.hid hI
          clear hI J0
          by_cases hlt2 : j < n
          · have q0 : (0 : Int) ≤ (j : Int) := by omega
            have q1 : (j : Int) < (n : Int) := by omega
            have r0 := cell_go CR.out IN.out.b
            have r1 := cell_go CL.out IN.out.b
            obtain ⟨u, hu⟩ : ∃ u, u = upB n x t j := ⟨_, rfl⟩
            have HU := Lib.hid hu.symm
            have AS := Lib.hid (ATS.out j hlt2)
            have AL := Lib.hid (ATL.out j hlt2)
            have CC := Lib.hid (COL.out j hlt2)
            have CE1 := Lib.hid (CL1.out j hlt2)
            have CE2 := Lib.hid (CLU.out j hlt2)
            rw [← hu] at AS CC
            clear hu hj
            go_upto_region 15 with fail
            go_cut [13] from 59 to 79 (fun v wx => v = .bool u ∧ Below wr.heap.size wr wx)
            case first =>
              go_wp2_with fail
              refine (has_any t (j : Int) wr TT.out ⟨by omega, by omega⟩).mono ?_
              rintro e w6 ⟨rfl, hb⟩
              have hu := HU.out
              unfold upB at hu
              have HB6 := Lib.hid hb
              have r2 := cell_go r0 hb
              clear hb
              generalize hasN t (j : Int) = b at *
              cases b
              · have R := Lib.hid (show false = u from by rw [← hu]; rfl)
                clear hu
                go_wp2_with fail
                go_meet
                exact ⟨by rw [R.out], HB6.out⟩
              · by_cases hx0 : x ≥ 0
                · have t0 : decide (x ≥ 0) = true := decide_eq_true hx0
                  by_cases hx1 : x < n
                  · have t1 : decide (x < (n : Int)) = true := decide_eq_true hx1
                    have R := Lib.hid (show true = u from by rw [← hu, decide_eq_true (show 0 ≤ x from hx0), t1]; rfl)
                    clear hu hx0 hx1
                    go_wp2_with fail
                    go_meet
                    exact ⟨by rw [R.out], HB6.out⟩
                  · have t1 : decide (x < (n : Int)) = false := decide_eq_false hx1
                    have R := Lib.hid (show false = u from by rw [← hu, t1, Bool.and_false])
                    clear hu hx0 hx1
                    go_wp2_with fail
                    go_meet
                    exact ⟨by rw [R.out], HB6.out⟩
                · have t0 : decide (x ≥ 0) = false := decide_eq_false hx0
                  have R := Lib.hid (show false = u from by rw [← hu, decide_eq_false (show ¬ 0 ≤ x from hx0), Bool.and_false, Bool.false_and])
                  clear hu hx0
                  go_wp2_with fail
                  go_meet
                  exact ⟨by rw [R.out], HB6.out⟩
            case rest =>
              obtain ⟨rfl, hb⟩ := hcut
              replace IN := Lib.hid (IN.out.below hb)
              clear hb r0 r1 HU
              generalize hat : atM mm x (j : Int) = v1 at *
              generalize hat2 : atM m2 x (j : Int) = v2 at *
              generalize hco : colM (n : Int) mm (j : Int) = l1 at *
              generalize hco2 : colM (n : Int) m2 (j : Int) = l2 at *
              have HA1 := Lib.hid hat
              have HA2 := Lib.hid hat2
              have HC1 := Lib.hid hco
              have HC2 := Lib.hid hco2
              clear hat hat2 hco hco2
              have y0 := IN.out.m.c0
              have y1 := IN.out.m.c1
              have y2 := IN.out.q.c0
              have y3 := IN.out.q.c1
              have yr := cell_go CR.out IN.out.b
              have hv1 : v1 ≤ 1000 := AL.out
              cases u
              · have e1 : v2 = v1 := by rw [AS.out]; rfl
                subst e1
                have e3 : IntKind.u64.wrap (v2 : Int) = (v2 : Int) := wrapQ (by omega)
                have e4 : ((v2 : Int) != (v2 : Int)) = false := by simp
                have e5 : IntKind.u64.wrap 0 = 0 := wrapQ (by omega)
                have e6 : IntKind.u64.wrap 1 = 1 := wrapQ (by omega)
                have CC2 := Lib.hid (show cmpZ l1 l2 = 0 from by rw [CC.out]; rfl)
                clear AS AL CC
                go_wp2_with fail
                refine wp_region_noPanic ?_
                refine wp_region_held_drew (S := (fun w' => w'.cell? ⟨p7, 0, none⟩ = some (.int .i64 (n : Int)) ∧ w'.cell? ⟨p7, 1, none⟩ = some (.slice a5 n c5) ∧ w'.cell? ⟨p11, 0, none⟩ = some (.int .i64 (n : Int)) ∧ w'.cell? ⟨p11, 1, none⟩ = some (.slice am n cm) ∧ w'.cell? ⟨rb, ro + k, none⟩ = some (.int .i64 x) ∧ Hid (Below wc.heap.size wc w'))) (by kernel_rfl) ?_ (fun hHeld => ?_)
                · exact ⟨y0, y1, y2, y3, yr, Lib.hid (drew_below wc)⟩
                refine wpAnyH_take (i := 0) (oi := { dst := some 81, op := Op.load 25 (Operand.tmp 7), type := 25, pos := "more.go:28", after := #[], guard := none }) (v := ?_) rfl (by kernel_rfl) (by kernel_rfl) (by kernel_rfl) (fun _ _ _ h => h) (Or.inl ⟨by rfl, ?_⟩) (by assumption) ?_
                rotate_left
                · (intro w hSw; (try dsimp only at hSw); go_simp; try with_reducible rfl)
                ((try simp only [Act.put]); (try simp only [List.setIfInBounds_toArray]); (try simp only [List.set_cons_succ]); (try simp only [List.set_cons_zero]))
                refine wpAnyH_take (i := 1) (oi := { dst := some 82, op := Op.move (Operand.tmp 2), type := 52, pos := "more.go:28", after := #[], guard := none }) (v := ?_) rfl (by kernel_rfl) (by kernel_rfl) (by kernel_rfl) (fun _ _ _ h => h) (Or.inl ⟨by rfl, ?_⟩) (by assumption) ?_
                rotate_left
                · (intro w hSw; (try dsimp only at hSw); go_simp; try with_reducible rfl)
                ((try simp only [Act.put]); (try simp only [List.setIfInBounds_toArray]); (try simp only [List.set_cons_succ]); (try simp only [List.set_cons_zero]))
                refine wpAnyH_take (i := 2) (oi := { dst := some 83, op := Op.move (Operand.tmp 10), type := 3, pos := "more.go:28", after := #[], guard := none }) (v := ?_) rfl (by kernel_rfl) (by kernel_rfl) (by kernel_rfl) (fun _ _ _ h => h) (Or.inl ⟨by rfl, ?_⟩) (by assumption) ?_
                rotate_left
                · (intro w hSw; (try dsimp only at hSw); go_simp; try with_reducible rfl)
                ((try simp only [Act.put]); (try simp only [List.setIfInBounds_toArray]); (try simp only [List.set_cons_succ]); (try simp only [List.set_cons_zero]))
                refine wpAnyH_take (i := 3) (oi := { dst := some 84, op := Op.indexAddr 52 (Operand.tmp 82) (Operand.tmp 83), type := 0, pos := "more.go:28", after := #[{ on := 1, ground := Ground.data }, { on := 2, ground := Ground.data }], guard := none }) (v := ?_) rfl (by kernel_rfl) (by kernel_rfl) (by kernel_rfl) (fun _ _ _ h => h) (Or.inl ⟨by rfl, ?_⟩) (by assumption) ?_
                rotate_left
                · (intro w hSw; (try dsimp only at hSw); go_simp; try with_reducible rfl)
                ((try simp only [Act.put]); (try simp only [List.setIfInBounds_toArray]); (try simp only [List.set_cons_succ]); (try simp only [List.set_cons_zero]))
                refine wpAnyH_take (i := 4) (oi := { dst := some 85, op := Op.load 3 (Operand.tmp 84), type := 3, pos := "more.go:28", after := #[{ on := 3, ground := Ground.data }], guard := none }) (v := ?_) rfl (by kernel_rfl) (by kernel_rfl) (by kernel_rfl) (fun _ _ _ h => h) (Or.inl ⟨by rfl, ?_⟩) (by assumption) ?_
                rotate_left
                · (intro w hSw; (try dsimp only at hSw); go_simp; try with_reducible rfl)
                ((try simp only [Act.put]); (try simp only [List.setIfInBounds_toArray]); (try simp only [List.set_cons_succ]); (try simp only [List.set_cons_zero]))
                refine wpAnyH_take (i := 5) (oi := { dst := some 86, op := Op.move (Operand.tmp 12), type := 3, pos := "more.go:28", after := #[], guard := none }) (v := ?_) rfl (by kernel_rfl) (by kernel_rfl) (by kernel_rfl) (fun _ _ _ h => h) (Or.inl ⟨by rfl, ?_⟩) (by assumption) ?_
                rotate_left
                · (intro w hSw; (try dsimp only at hSw); go_simp; try with_reducible rfl)
                ((try simp only [Act.put]); (try simp only [List.setIfInBounds_toArray]); (try simp only [List.set_cons_succ]); (try simp only [List.set_cons_zero]))
                refine wpAnyH_take (i := 7) (oi := { dst := some 88, op := Op.load 25 (Operand.tmp 11), type := 25, pos := "more.go:28", after := #[], guard := none }) (v := ?_) rfl (by kernel_rfl) (by kernel_rfl) (by kernel_rfl) (fun _ _ _ h => h) (Or.inl ⟨by rfl, ?_⟩) (by assumption) ?_
                rotate_left
                · (intro w hSw; (try dsimp only at hSw); go_simp; try with_reducible rfl)
                ((try simp only [Act.put]); (try simp only [List.setIfInBounds_toArray]); (try simp only [List.set_cons_succ]); (try simp only [List.set_cons_zero]))
                refine wpAnyH_take (i := 8) (oi := { dst := some 89, op := Op.move (Operand.tmp 2), type := 52, pos := "more.go:28", after := #[], guard := none }) (v := ?_) rfl (by kernel_rfl) (by kernel_rfl) (by kernel_rfl) (fun _ _ _ h => h) (Or.inl ⟨by rfl, ?_⟩) (by assumption) ?_
                rotate_left
                · (intro w hSw; (try dsimp only at hSw); go_simp; try with_reducible rfl)
                ((try simp only [Act.put]); (try simp only [List.setIfInBounds_toArray]); (try simp only [List.set_cons_succ]); (try simp only [List.set_cons_zero]))
                refine wpAnyH_take (i := 9) (oi := { dst := some 90, op := Op.move (Operand.tmp 10), type := 3, pos := "more.go:28", after := #[], guard := none }) (v := ?_) rfl (by kernel_rfl) (by kernel_rfl) (by kernel_rfl) (fun _ _ _ h => h) (Or.inl ⟨by rfl, ?_⟩) (by assumption) ?_
                rotate_left
                · (intro w hSw; (try dsimp only at hSw); go_simp; try with_reducible rfl)
                ((try simp only [Act.put]); (try simp only [List.setIfInBounds_toArray]); (try simp only [List.set_cons_succ]); (try simp only [List.set_cons_zero]))
                refine wpAnyH_take (i := 10) (oi := { dst := some 91, op := Op.indexAddr 52 (Operand.tmp 89) (Operand.tmp 90), type := 0, pos := "more.go:28", after := #[{ on := 8, ground := Ground.data }, { on := 9, ground := Ground.data }], guard := none }) (v := ?_) rfl (by kernel_rfl) (by kernel_rfl) (by kernel_rfl) (fun _ _ _ h => h) (Or.inl ⟨by rfl, ?_⟩) (by assumption) ?_
                rotate_left
                · (intro w hSw; (try dsimp only at hSw); go_simp; try with_reducible rfl)
                ((try simp only [Act.put]); (try simp only [List.setIfInBounds_toArray]); (try simp only [List.set_cons_succ]); (try simp only [List.set_cons_zero]))
                refine wpAnyH_take (i := 11) (oi := { dst := some 92, op := Op.load 3 (Operand.tmp 91), type := 3, pos := "more.go:28", after := #[{ on := 10, ground := Ground.data }], guard := none }) (v := ?_) rfl (by kernel_rfl) (by kernel_rfl) (by kernel_rfl) (fun _ _ _ h => h) (Or.inl ⟨by rfl, ?_⟩) (by assumption) ?_
                rotate_left
                · (intro w hSw; (try dsimp only at hSw); go_simp; try with_reducible rfl)
                ((try simp only [Act.put]); (try simp only [List.setIfInBounds_toArray]); (try simp only [List.set_cons_succ]); (try simp only [List.set_cons_zero]))
                refine wpAnyH_take (i := 12) (oi := { dst := some 93, op := Op.move (Operand.tmp 12), type := 3, pos := "more.go:28", after := #[], guard := none }) (v := ?_) rfl (by kernel_rfl) (by kernel_rfl) (by kernel_rfl) (fun _ _ _ h => h) (Or.inl ⟨by rfl, ?_⟩) (by assumption) ?_
                rotate_left
                · (intro w hSw; (try dsimp only at hSw); go_simp; try with_reducible rfl)
                ((try simp only [Act.put]); (try simp only [List.setIfInBounds_toArray]); (try simp only [List.set_cons_succ]); (try simp only [List.set_cons_zero]))
                refine wpAnyH_take (i := 14) (oi := { dst := some 95, op := Op.move (Operand.tmp 14), type := 3, pos := "more.go:28", after := #[], guard := none }) (v := ?_) rfl (by kernel_rfl) (by kernel_rfl) (by kernel_rfl) (fun _ _ _ h => h) (Or.inl ⟨by rfl, ?_⟩) (by assumption) ?_
                rotate_left
                · (intro w hSw; (try dsimp only at hSw); go_simp; try with_reducible rfl)
                ((try simp only [Act.put]); (try simp only [List.setIfInBounds_toArray]); (try simp only [List.set_cons_succ]); (try simp only [List.set_cons_zero]))
                refine wpAnyH_take (i := 15) (oi := { dst := some 96, op := Op.convert 3 30 (Operand.tmp 95), type := 30, pos := "more.go:28", after := #[{ on := 14, ground := Ground.data }], guard := none }) (v := ?_) rfl (by kernel_rfl) (by kernel_rfl) (by kernel_rfl) (fun _ _ _ h => h) (Or.inl ⟨by rfl, ?_⟩) (by assumption) ?_
                rotate_left
                · (intro w hSw; (try dsimp only at hSw); go_simp; try with_reducible rfl)
                ((try simp only [Act.put]); (try simp only [List.setIfInBounds_toArray]); (try simp only [List.set_cons_succ]); (try simp only [List.set_cons_zero]))
                refine wpAnyH_ready (rs := [6]) (by kernel_rfl) (by simp) ?_
                refine AllReadyH.cons (o := { dst := some 87, op := Op.call { callee := Callee.value (Operand.func 16), args := #[Operand.tmp 81, Operand.tmp 85, Operand.tmp 86], argTypes := #[25, 3, 3] }, type := 30, pos := "more.go:28", after := #[{ on := 0, ground := Ground.data }, { on := 4, ground := Ground.data }, { on := 5, ground := Ground.data }], guard := none }) rfl (fun K hK => ?_) AllReadyH.nil
                go_simp
                refine (mat_at (v := v2) (IN.out.m.s.below (Hid.out hHeld.2.2.2.2.2)) GU.out HA2.out).mono ?_
                rintro e w5 ⟨rfl, hb⟩
                try go_wp2_with fail
                refine hK.out _ _ ?_ (fun hNew => ?_)
                · first | exact hHeld | exact ⟨cell_go hHeld.1 hb, cell_go hHeld.2.1 hb, cell_go hHeld.2.2.1 hb, cell_go hHeld.2.2.2.1 hb, cell_go hHeld.2.2.2.2.1 hb, Lib.hid ((Hid.out hHeld.2.2.2.2.2).trans (hb.mono (Hid.out hHeld.2.2.2.2.2).size))⟩
                clear hK K
                replace hHeld := hNew
                clear hNew
                ((try simp only [Act.put]); (try simp only [List.setIfInBounds_toArray]); (try simp only [List.set_cons_succ]); (try simp only [List.set_cons_zero]))
                refine wpAnyH_ready (rs := [13]) (by kernel_rfl) (by simp) ?_
                refine AllReadyH.cons (o := { dst := some 94, op := Op.call { callee := Callee.value (Operand.func 16), args := #[Operand.tmp 88, Operand.tmp 92, Operand.tmp 93], argTypes := #[25, 3, 3] }, type := 30, pos := "more.go:28", after := #[{ on := 7, ground := Ground.data }, { on := 11, ground := Ground.data }, { on := 12, ground := Ground.data }, { on := 6, ground := Ground.chain }], guard := none }) rfl (fun K hK => ?_) AllReadyH.nil
                go_simp
                refine (mat_at (v := v2) (IN.out.q.s.below (Hid.out hHeld.2.2.2.2.2)) GM.out HA1.out).mono ?_
                rintro e w5 ⟨rfl, hb⟩
                try go_wp2_with fail
                refine hK.out _ _ ?_ (fun hNew => ?_)
                · first | exact hHeld | exact ⟨cell_go hHeld.1 hb, cell_go hHeld.2.1 hb, cell_go hHeld.2.2.1 hb, cell_go hHeld.2.2.2.1 hb, cell_go hHeld.2.2.2.2.1 hb, Lib.hid ((Hid.out hHeld.2.2.2.2.2).trans (hb.mono (Hid.out hHeld.2.2.2.2.2).size))⟩
                clear hK K
                replace hHeld := hNew
                clear hNew
                ((try simp only [Act.put]); (try simp only [List.setIfInBounds_toArray]); (try simp only [List.set_cons_succ]); (try simp only [List.set_cons_zero]))
                refine wpAnyH_take (i := 16) (oi := { dst := some 97, op := Op.binOp BinOp.add 30 (Operand.tmp 94) (Operand.tmp 96) 30, type := 30, pos := "more.go:28", after := #[{ on := 13, ground := Ground.data }, { on := 15, ground := Ground.data }], guard := none }) (v := ?_) rfl (by kernel_rfl) (by kernel_rfl) (by kernel_rfl) (fun _ _ _ h => h) (Or.inl ⟨by rfl, ?_⟩) (by assumption) ?_
                rotate_left
                · (intro w hSw; (try dsimp only at hSw); go_simp; try with_reducible rfl)
                ((try simp only [Act.put]); (try simp only [List.setIfInBounds_toArray]); (try simp only [List.set_cons_succ]); (try simp only [List.set_cons_zero]))
                refine wpAnyH_take (i := 17) (oi := { dst := some 98, op := Op.binOp BinOp.neq 30 (Operand.tmp 87) (Operand.tmp 97) 30, type := 4, pos := "more.go:28", after := #[{ on := 6, ground := Ground.data }, { on := 16, ground := Ground.data }], guard := none }) (v := ?_) rfl (by kernel_rfl) (by kernel_rfl) (by kernel_rfl) (fun _ _ _ h => h) (Or.inl ⟨by rfl, ?_⟩) (by assumption) ?_
                rotate_left
                · (intro w hSw; (try dsimp only at hSw); go_simp; try with_reducible rfl)
                ((try simp only [Act.put]); (try simp only [List.setIfInBounds_toArray]); (try simp only [List.set_cons_succ]); (try simp only [List.set_cons_zero]))
                refine wpAnyH_take (i := 18) (oi := { dst := some 99, op := Op.move (Operand.tmp 98), type := 4, pos := "more.go:28", after := #[{ on := 17, ground := Ground.data }, { on := 13, ground := Ground.chain }], guard := none }) (v := ?_) rfl (by kernel_rfl) (by kernel_rfl) (by kernel_rfl) (fun _ _ _ h => h) (Or.inl ⟨by rfl, ?_⟩) (by assumption) ?_
                rotate_left
                · (intro w hSw; (try dsimp only at hSw); go_simp; try with_reducible rfl)
                ((try simp only [Act.put]); (try simp only [List.setIfInBounds_toArray]); (try simp only [List.set_cons_succ]); (try simp only [List.set_cons_zero]))
                refine wpAnyH_take (i := 19) (oi := { dst := some 100, op := Op.move (Operand.tmp 13), type := 4, pos := "more.go:28", after := #[{ on := 18, ground := Ground.guard }], guard := some (18, false) }) (v := ?_) rfl (by kernel_rfl) (by kernel_rfl) (by kernel_rfl) (fun _ _ _ h => h) (Or.inl ⟨by rfl, ?_⟩) (by assumption) ?_
                rotate_left
                · (intro w hSw; (try dsimp only at hSw); go_simp; try with_reducible rfl)
                ((try simp only [Act.put]); (try simp only [List.setIfInBounds_toArray]); (try simp only [List.set_cons_succ]); (try simp only [List.set_cons_zero]))
                refine wpAnyH_take (i := 20) (oi := { dst := some 101, op := Op.load 25 (Operand.tmp 11), type := 25, pos := "more.go:28", after := #[{ on := 18, ground := Ground.guard }], guard := some (18, false) }) (v := ?_) rfl (by kernel_rfl) (by kernel_rfl) (by kernel_rfl) (fun _ _ _ h => h) (Or.inl ⟨by rfl, ?_⟩) (by assumption) ?_
                rotate_left
                · (intro w hSw; (try dsimp only at hSw); go_simp; try with_reducible rfl)
                ((try simp only [Act.put]); (try simp only [List.setIfInBounds_toArray]); (try simp only [List.set_cons_succ]); (try simp only [List.set_cons_zero]))
                refine wpAnyH_take (i := 21) (oi := { dst := some 102, op := Op.move (Operand.tmp 12), type := 3, pos := "more.go:28", after := #[{ on := 18, ground := Ground.guard }], guard := some (18, false) }) (v := ?_) rfl (by kernel_rfl) (by kernel_rfl) (by kernel_rfl) (fun _ _ _ h => h) (Or.inl ⟨by rfl, ?_⟩) (by assumption) ?_
                rotate_left
                · (intro w hSw; (try dsimp only at hSw); go_simp; try with_reducible rfl)
                ((try simp only [Act.put]); (try simp only [List.setIfInBounds_toArray]); (try simp only [List.set_cons_succ]); (try simp only [List.set_cons_zero]))
                refine wpAnyH_take (i := 23) (oi := { dst := some 104, op := Op.load 25 (Operand.tmp 7), type := 25, pos := "more.go:28", after := #[{ on := 18, ground := Ground.guard }], guard := some (18, false) }) (v := ?_) rfl (by kernel_rfl) (by kernel_rfl) (by kernel_rfl) (fun _ _ _ h => h) (Or.inl ⟨by rfl, ?_⟩) (by assumption) ?_
                rotate_left
                · (intro w hSw; (try dsimp only at hSw); go_simp; try with_reducible rfl)
                ((try simp only [Act.put]); (try simp only [List.setIfInBounds_toArray]); (try simp only [List.set_cons_succ]); (try simp only [List.set_cons_zero]))
                refine wpAnyH_take (i := 24) (oi := { dst := some 105, op := Op.move (Operand.tmp 12), type := 3, pos := "more.go:28", after := #[{ on := 18, ground := Ground.guard }], guard := some (18, false) }) (v := ?_) rfl (by kernel_rfl) (by kernel_rfl) (by kernel_rfl) (fun _ _ _ h => h) (Or.inl ⟨by rfl, ?_⟩) (by assumption) ?_
                rotate_left
                · (intro w hSw; (try dsimp only at hSw); go_simp; try with_reducible rfl)
                ((try simp only [Act.put]); (try simp only [List.setIfInBounds_toArray]); (try simp only [List.set_cons_succ]); (try simp only [List.set_cons_zero]))
                refine wpAnyH_ready (rs := [22]) (by kernel_rfl) (by simp) ?_
                refine AllReadyH.cons (o := { dst := some 103, op := Op.call { callee := Callee.value (Operand.func 15), args := #[Operand.tmp 101, Operand.tmp 102], argTypes := #[25, 3] }, type := 39, pos := "more.go:28", after := #[{ on := 20, ground := Ground.data }, { on := 21, ground := Ground.data }, { on := 18, ground := Ground.chain }, { on := 18, ground := Ground.guard }], guard := some (18, false) }) rfl (fun K hK => ?_) AllReadyH.nil
                go_simp
                refine (mcol_at (k := n) (IN.out.q.s.below (Hid.out hHeld.2.2.2.2.2)) HC1.out CE1.out).mono ?_
                rintro e w5 ⟨d1, g1, rfl, hs, hb⟩
                have R1 := Lib.hid hs
                clear hs
                try go_wp2_with fail
                refine hK.out _ _ ?_ (fun hNew => ?_)
                · first | exact hHeld | exact ⟨cell_go hHeld.1 hb, cell_go hHeld.2.1 hb, cell_go hHeld.2.2.1 hb, cell_go hHeld.2.2.2.1 hb, cell_go hHeld.2.2.2.2.1 hb, Lib.hid ((Hid.out hHeld.2.2.2.2.2).trans (hb.mono (Hid.out hHeld.2.2.2.2.2).size))⟩
                clear hK K
                replace hHeld := hNew
                clear hNew
                ((try simp only [Act.put]); (try simp only [List.setIfInBounds_toArray]); (try simp only [List.set_cons_succ]); (try simp only [List.set_cons_zero]))
                refine wpAnyH_ready (rs := [25]) (by kernel_rfl) (by simp) ?_
                refine AllReadyH.cons (o := { dst := some 106, op := Op.call { callee := Callee.value (Operand.func 15), args := #[Operand.tmp 104, Operand.tmp 105], argTypes := #[25, 3] }, type := 39, pos := "more.go:28", after := #[{ on := 23, ground := Ground.data }, { on := 24, ground := Ground.data }, { on := 22, ground := Ground.chain }, { on := 18, ground := Ground.guard }], guard := some (18, false) }) rfl (fun K hK => ?_) AllReadyH.nil
                go_simp
                refine (mcol_at (k := n) (IN.out.m.s.below (Hid.out hHeld.2.2.2.2.2)) HC2.out CE2.out).mono ?_
                rintro e w5 ⟨d2, g2, rfl, hs, hb⟩
                have R2 := Lib.hid hs
                replace R1 := Lib.hid (R1.out.below hb)
                clear hs
                try go_wp2_with fail
                refine hK.out _ _ ?_ (fun hNew => ?_)
                · first | exact hHeld | exact ⟨cell_go hHeld.1 hb, cell_go hHeld.2.1 hb, cell_go hHeld.2.2.1 hb, cell_go hHeld.2.2.2.1 hb, cell_go hHeld.2.2.2.2.1 hb, Lib.hid ((Hid.out hHeld.2.2.2.2.2).trans (hb.mono (Hid.out hHeld.2.2.2.2.2).size))⟩
                clear hK K
                replace hHeld := hNew
                clear hNew
                ((try simp only [Act.put]); (try simp only [List.setIfInBounds_toArray]); (try simp only [List.set_cons_succ]); (try simp only [List.set_cons_zero]))
                refine wpAnyH_ready (rs := [26]) (by kernel_rfl) (by simp) ?_
                refine AllReadyH.cons (o := { dst := some 107, op := Op.call { callee := Callee.value (Operand.func 26), args := #[Operand.tmp 103, Operand.tmp 106], argTypes := #[39, 39] }, type := 3, pos := "more.go:28", after := #[{ on := 22, ground := Ground.data }, { on := 25, ground := Ground.data }, { on := 25, ground := Ground.chain }, { on := 18, ground := Ground.guard }], guard := some (18, false) }) rfl (fun K hK => ?_) AllReadyH.nil
                go_simp
                refine (vcmp_any (z := 0) R1.out R2.out CE1.out CE2.out CC2.out).mono ?_
                rintro e w5 ⟨rfl, hw⟩
                subst hw
                try go_wp2_with fail
                refine hK.out _ _ ?_ (fun hNew => ?_)
                · first | exact hHeld | exact ⟨cell_go hHeld.1 hb, cell_go hHeld.2.1 hb, cell_go hHeld.2.2.1 hb, cell_go hHeld.2.2.2.1 hb, cell_go hHeld.2.2.2.2.1 hb, Lib.hid ((Hid.out hHeld.2.2.2.2.2).trans (hb.mono (Hid.out hHeld.2.2.2.2.2).size))⟩
                clear hK K
                replace hHeld := hNew
                clear hNew
                ((try simp only [Act.put]); (try simp only [List.setIfInBounds_toArray]); (try simp only [List.set_cons_succ]); (try simp only [List.set_cons_zero]))
                refine wpAnyH_take (i := 27) (oi := { dst := some 108, op := Op.binOp BinOp.eql 3 (Operand.tmp 107) (Operand.const (Value.int IntKind.i64 (-1))) 3, type := 4, pos := "more.go:28", after := #[{ on := 26, ground := Ground.data }, { on := 18, ground := Ground.guard }], guard := some (18, false) }) (v := ?_) rfl (by kernel_rfl) (by kernel_rfl) (by kernel_rfl) (fun _ _ _ h => h) (Or.inl ⟨by rfl, ?_⟩) (by assumption) ?_
                rotate_left
                · (intro w hSw; (try dsimp only at hSw); go_simp; try with_reducible rfl)
                ((try simp only [Act.put]); (try simp only [List.setIfInBounds_toArray]); (try simp only [List.set_cons_succ]); (try simp only [List.set_cons_zero]))
                refine wpAnyH_take (i := 28) (oi := { dst := some 109, op := Op.binOp BinOp.neq 4 (Operand.tmp 100) (Operand.tmp 108) 4, type := 4, pos := "more.go:28", after := #[{ on := 19, ground := Ground.data }, { on := 27, ground := Ground.data }, { on := 18, ground := Ground.guard }], guard := some (18, false) }) (v := ?_) rfl (by kernel_rfl) (by kernel_rfl) (by kernel_rfl) (fun _ _ _ h => h) (Or.inl ⟨by rfl, ?_⟩) (by assumption) ?_
                rotate_left
                · (intro w hSw; (try dsimp only at hSw); go_simp; try with_reducible rfl)
                ((try simp only [Act.put]); (try simp only [List.setIfInBounds_toArray]); (try simp only [List.set_cons_succ]); (try simp only [List.set_cons_zero]))
                refine wpAnyH_take (i := 29) (oi := { dst := some 110, op := Op.pick (Operand.tmp 99) (Operand.const (Value.bool true)) (Operand.tmp 109), type := 4, pos := "more.go:28", after := #[{ on := 18, ground := Ground.data }, { on := 28, ground := Ground.data }], guard := none }) (v := ?_) rfl (by kernel_rfl) (by kernel_rfl) (by kernel_rfl) (fun _ _ _ h => h) (Or.inl ⟨by rfl, ?_⟩) (by assumption) ?_
                rotate_left
                · (intro w hSw; (try dsimp only at hSw); go_simp; try with_reducible rfl)
                ((try simp only [Act.put]); (try simp only [List.setIfInBounds_toArray]); (try simp only [List.set_cons_succ]); (try simp only [List.set_cons_zero]))
                refine wpAnyH_done (by kernel_rfl) ?_ _
                refine NoPanic.normal ?_
                have IF := Lib.hid (IN.out.below (Hid.out hHeld.2.2.2.2.2))
                go_wp2_with fail
                go_roundw
                case rel => exact ⟨j + 1, by omega, by go_num, IF.out⟩
                case measure => simp only [intOf]; omega
              · have e1 : v2 = v1 + 1 := by rw [AS.out]; rfl
                have e3 : IntKind.u64.wrap ((v1 : Int) + 1) = (v2 : Int) := by rw [wrapQ (by omega)]; omega
                have e4 : ((v2 : Int) != (v2 : Int)) = false := by simp
                have e5 : IntKind.u64.wrap 0 = 0 := wrapQ (by omega)
                have e6 : IntKind.u64.wrap 1 = 1 := wrapQ (by omega)
                have CC2 := Lib.hid (show cmpZ l1 l2 = -1 from by rw [CC.out]; rfl)
                clear AS AL CC e1
                go_wp2_with fail
                refine wp_region_noPanic ?_
                refine wp_region_held_drew (S := (fun w' => w'.cell? ⟨p7, 0, none⟩ = some (.int .i64 (n : Int)) ∧ w'.cell? ⟨p7, 1, none⟩ = some (.slice a5 n c5) ∧ w'.cell? ⟨p11, 0, none⟩ = some (.int .i64 (n : Int)) ∧ w'.cell? ⟨p11, 1, none⟩ = some (.slice am n cm) ∧ w'.cell? ⟨rb, ro + k, none⟩ = some (.int .i64 x) ∧ Hid (Below wc.heap.size wc w'))) (by kernel_rfl) ?_ (fun hHeld => ?_)
                · exact ⟨y0, y1, y2, y3, yr, Lib.hid (drew_below wc)⟩
                refine wpAnyH_take (i := 0) (oi := { dst := some 81, op := Op.load 25 (Operand.tmp 7), type := 25, pos := "more.go:28", after := #[], guard := none }) (v := ?_) rfl (by kernel_rfl) (by kernel_rfl) (by kernel_rfl) (fun _ _ _ h => h) (Or.inl ⟨by rfl, ?_⟩) (by assumption) ?_
                rotate_left
                · (intro w hSw; (try dsimp only at hSw); go_simp; try with_reducible rfl)
                ((try simp only [Act.put]); (try simp only [List.setIfInBounds_toArray]); (try simp only [List.set_cons_succ]); (try simp only [List.set_cons_zero]))
                refine wpAnyH_take (i := 1) (oi := { dst := some 82, op := Op.move (Operand.tmp 2), type := 52, pos := "more.go:28", after := #[], guard := none }) (v := ?_) rfl (by kernel_rfl) (by kernel_rfl) (by kernel_rfl) (fun _ _ _ h => h) (Or.inl ⟨by rfl, ?_⟩) (by assumption) ?_
                rotate_left
                · (intro w hSw; (try dsimp only at hSw); go_simp; try with_reducible rfl)
                ((try simp only [Act.put]); (try simp only [List.setIfInBounds_toArray]); (try simp only [List.set_cons_succ]); (try simp only [List.set_cons_zero]))
                refine wpAnyH_take (i := 2) (oi := { dst := some 83, op := Op.move (Operand.tmp 10), type := 3, pos := "more.go:28", after := #[], guard := none }) (v := ?_) rfl (by kernel_rfl) (by kernel_rfl) (by kernel_rfl) (fun _ _ _ h => h) (Or.inl ⟨by rfl, ?_⟩) (by assumption) ?_
                rotate_left
                · (intro w hSw; (try dsimp only at hSw); go_simp; try with_reducible rfl)
                ((try simp only [Act.put]); (try simp only [List.setIfInBounds_toArray]); (try simp only [List.set_cons_succ]); (try simp only [List.set_cons_zero]))
                refine wpAnyH_take (i := 3) (oi := { dst := some 84, op := Op.indexAddr 52 (Operand.tmp 82) (Operand.tmp 83), type := 0, pos := "more.go:28", after := #[{ on := 1, ground := Ground.data }, { on := 2, ground := Ground.data }], guard := none }) (v := ?_) rfl (by kernel_rfl) (by kernel_rfl) (by kernel_rfl) (fun _ _ _ h => h) (Or.inl ⟨by rfl, ?_⟩) (by assumption) ?_
                rotate_left
                · (intro w hSw; (try dsimp only at hSw); go_simp; try with_reducible rfl)
                ((try simp only [Act.put]); (try simp only [List.setIfInBounds_toArray]); (try simp only [List.set_cons_succ]); (try simp only [List.set_cons_zero]))
                refine wpAnyH_take (i := 4) (oi := { dst := some 85, op := Op.load 3 (Operand.tmp 84), type := 3, pos := "more.go:28", after := #[{ on := 3, ground := Ground.data }], guard := none }) (v := ?_) rfl (by kernel_rfl) (by kernel_rfl) (by kernel_rfl) (fun _ _ _ h => h) (Or.inl ⟨by rfl, ?_⟩) (by assumption) ?_
                rotate_left
                · (intro w hSw; (try dsimp only at hSw); go_simp; try with_reducible rfl)
                ((try simp only [Act.put]); (try simp only [List.setIfInBounds_toArray]); (try simp only [List.set_cons_succ]); (try simp only [List.set_cons_zero]))
                refine wpAnyH_take (i := 5) (oi := { dst := some 86, op := Op.move (Operand.tmp 12), type := 3, pos := "more.go:28", after := #[], guard := none }) (v := ?_) rfl (by kernel_rfl) (by kernel_rfl) (by kernel_rfl) (fun _ _ _ h => h) (Or.inl ⟨by rfl, ?_⟩) (by assumption) ?_
                rotate_left
                · (intro w hSw; (try dsimp only at hSw); go_simp; try with_reducible rfl)
                ((try simp only [Act.put]); (try simp only [List.setIfInBounds_toArray]); (try simp only [List.set_cons_succ]); (try simp only [List.set_cons_zero]))
                refine wpAnyH_take (i := 7) (oi := { dst := some 88, op := Op.load 25 (Operand.tmp 11), type := 25, pos := "more.go:28", after := #[], guard := none }) (v := ?_) rfl (by kernel_rfl) (by kernel_rfl) (by kernel_rfl) (fun _ _ _ h => h) (Or.inl ⟨by rfl, ?_⟩) (by assumption) ?_
                rotate_left
                · (intro w hSw; (try dsimp only at hSw); go_simp; try with_reducible rfl)
                ((try simp only [Act.put]); (try simp only [List.setIfInBounds_toArray]); (try simp only [List.set_cons_succ]); (try simp only [List.set_cons_zero]))
                refine wpAnyH_take (i := 8) (oi := { dst := some 89, op := Op.move (Operand.tmp 2), type := 52, pos := "more.go:28", after := #[], guard := none }) (v := ?_) rfl (by kernel_rfl) (by kernel_rfl) (by kernel_rfl) (fun _ _ _ h => h) (Or.inl ⟨by rfl, ?_⟩) (by assumption) ?_
                rotate_left
                · (intro w hSw; (try dsimp only at hSw); go_simp; try with_reducible rfl)
                ((try simp only [Act.put]); (try simp only [List.setIfInBounds_toArray]); (try simp only [List.set_cons_succ]); (try simp only [List.set_cons_zero]))
                refine wpAnyH_take (i := 9) (oi := { dst := some 90, op := Op.move (Operand.tmp 10), type := 3, pos := "more.go:28", after := #[], guard := none }) (v := ?_) rfl (by kernel_rfl) (by kernel_rfl) (by kernel_rfl) (fun _ _ _ h => h) (Or.inl ⟨by rfl, ?_⟩) (by assumption) ?_
                rotate_left
                · (intro w hSw; (try dsimp only at hSw); go_simp; try with_reducible rfl)
                ((try simp only [Act.put]); (try simp only [List.setIfInBounds_toArray]); (try simp only [List.set_cons_succ]); (try simp only [List.set_cons_zero]))
                refine wpAnyH_take (i := 10) (oi := { dst := some 91, op := Op.indexAddr 52 (Operand.tmp 89) (Operand.tmp 90), type := 0, pos := "more.go:28", after := #[{ on := 8, ground := Ground.data }, { on := 9, ground := Ground.data }], guard := none }) (v := ?_) rfl (by kernel_rfl) (by kernel_rfl) (by kernel_rfl) (fun _ _ _ h => h) (Or.inl ⟨by rfl, ?_⟩) (by assumption) ?_
                rotate_left
                · (intro w hSw; (try dsimp only at hSw); go_simp; try with_reducible rfl)
                ((try simp only [Act.put]); (try simp only [List.setIfInBounds_toArray]); (try simp only [List.set_cons_succ]); (try simp only [List.set_cons_zero]))
                refine wpAnyH_take (i := 11) (oi := { dst := some 92, op := Op.load 3 (Operand.tmp 91), type := 3, pos := "more.go:28", after := #[{ on := 10, ground := Ground.data }], guard := none }) (v := ?_) rfl (by kernel_rfl) (by kernel_rfl) (by kernel_rfl) (fun _ _ _ h => h) (Or.inl ⟨by rfl, ?_⟩) (by assumption) ?_
                rotate_left
                · (intro w hSw; (try dsimp only at hSw); go_simp; try with_reducible rfl)
                ((try simp only [Act.put]); (try simp only [List.setIfInBounds_toArray]); (try simp only [List.set_cons_succ]); (try simp only [List.set_cons_zero]))
                refine wpAnyH_take (i := 12) (oi := { dst := some 93, op := Op.move (Operand.tmp 12), type := 3, pos := "more.go:28", after := #[], guard := none }) (v := ?_) rfl (by kernel_rfl) (by kernel_rfl) (by kernel_rfl) (fun _ _ _ h => h) (Or.inl ⟨by rfl, ?_⟩) (by assumption) ?_
                rotate_left
                · (intro w hSw; (try dsimp only at hSw); go_simp; try with_reducible rfl)
                ((try simp only [Act.put]); (try simp only [List.setIfInBounds_toArray]); (try simp only [List.set_cons_succ]); (try simp only [List.set_cons_zero]))
                refine wpAnyH_take (i := 14) (oi := { dst := some 95, op := Op.move (Operand.tmp 14), type := 3, pos := "more.go:28", after := #[], guard := none }) (v := ?_) rfl (by kernel_rfl) (by kernel_rfl) (by kernel_rfl) (fun _ _ _ h => h) (Or.inl ⟨by rfl, ?_⟩) (by assumption) ?_
                rotate_left
                · (intro w hSw; (try dsimp only at hSw); go_simp; try with_reducible rfl)
                ((try simp only [Act.put]); (try simp only [List.setIfInBounds_toArray]); (try simp only [List.set_cons_succ]); (try simp only [List.set_cons_zero]))
                refine wpAnyH_take (i := 15) (oi := { dst := some 96, op := Op.convert 3 30 (Operand.tmp 95), type := 30, pos := "more.go:28", after := #[{ on := 14, ground := Ground.data }], guard := none }) (v := ?_) rfl (by kernel_rfl) (by kernel_rfl) (by kernel_rfl) (fun _ _ _ h => h) (Or.inl ⟨by rfl, ?_⟩) (by assumption) ?_
                rotate_left
                · (intro w hSw; (try dsimp only at hSw); go_simp; try with_reducible rfl)
                ((try simp only [Act.put]); (try simp only [List.setIfInBounds_toArray]); (try simp only [List.set_cons_succ]); (try simp only [List.set_cons_zero]))
                refine wpAnyH_ready (rs := [6]) (by kernel_rfl) (by simp) ?_
                refine AllReadyH.cons (o := { dst := some 87, op := Op.call { callee := Callee.value (Operand.func 16), args := #[Operand.tmp 81, Operand.tmp 85, Operand.tmp 86], argTypes := #[25, 3, 3] }, type := 30, pos := "more.go:28", after := #[{ on := 0, ground := Ground.data }, { on := 4, ground := Ground.data }, { on := 5, ground := Ground.data }], guard := none }) rfl (fun K hK => ?_) AllReadyH.nil
                go_simp
                refine (mat_at (v := v2) (IN.out.m.s.below (Hid.out hHeld.2.2.2.2.2)) GU.out HA2.out).mono ?_
                rintro e w5 ⟨rfl, hb⟩
                try go_wp2_with fail
                refine hK.out _ _ ?_ (fun hNew => ?_)
                · first | exact hHeld | exact ⟨cell_go hHeld.1 hb, cell_go hHeld.2.1 hb, cell_go hHeld.2.2.1 hb, cell_go hHeld.2.2.2.1 hb, cell_go hHeld.2.2.2.2.1 hb, Lib.hid ((Hid.out hHeld.2.2.2.2.2).trans (hb.mono (Hid.out hHeld.2.2.2.2.2).size))⟩
                clear hK K
                replace hHeld := hNew
                clear hNew
                ((try simp only [Act.put]); (try simp only [List.setIfInBounds_toArray]); (try simp only [List.set_cons_succ]); (try simp only [List.set_cons_zero]))
                refine wpAnyH_ready (rs := [13]) (by kernel_rfl) (by simp) ?_
                refine AllReadyH.cons (o := { dst := some 94, op := Op.call { callee := Callee.value (Operand.func 16), args := #[Operand.tmp 88, Operand.tmp 92, Operand.tmp 93], argTypes := #[25, 3, 3] }, type := 30, pos := "more.go:28", after := #[{ on := 7, ground := Ground.data }, { on := 11, ground := Ground.data }, { on := 12, ground := Ground.data }, { on := 6, ground := Ground.chain }], guard := none }) rfl (fun K hK => ?_) AllReadyH.nil
                go_simp
                refine (mat_at (v := v1) (IN.out.q.s.below (Hid.out hHeld.2.2.2.2.2)) GM.out HA1.out).mono ?_
                rintro e w5 ⟨rfl, hb⟩
                try go_wp2_with fail
                refine hK.out _ _ ?_ (fun hNew => ?_)
                · first | exact hHeld | exact ⟨cell_go hHeld.1 hb, cell_go hHeld.2.1 hb, cell_go hHeld.2.2.1 hb, cell_go hHeld.2.2.2.1 hb, cell_go hHeld.2.2.2.2.1 hb, Lib.hid ((Hid.out hHeld.2.2.2.2.2).trans (hb.mono (Hid.out hHeld.2.2.2.2.2).size))⟩
                clear hK K
                replace hHeld := hNew
                clear hNew
                ((try simp only [Act.put]); (try simp only [List.setIfInBounds_toArray]); (try simp only [List.set_cons_succ]); (try simp only [List.set_cons_zero]))
                refine wpAnyH_take (i := 16) (oi := { dst := some 97, op := Op.binOp BinOp.add 30 (Operand.tmp 94) (Operand.tmp 96) 30, type := 30, pos := "more.go:28", after := #[{ on := 13, ground := Ground.data }, { on := 15, ground := Ground.data }], guard := none }) (v := ?_) rfl (by kernel_rfl) (by kernel_rfl) (by kernel_rfl) (fun _ _ _ h => h) (Or.inl ⟨by rfl, ?_⟩) (by assumption) ?_
                rotate_left
                · (intro w hSw; (try dsimp only at hSw); go_simp; try with_reducible rfl)
                ((try simp only [Act.put]); (try simp only [List.setIfInBounds_toArray]); (try simp only [List.set_cons_succ]); (try simp only [List.set_cons_zero]))
                refine wpAnyH_take (i := 17) (oi := { dst := some 98, op := Op.binOp BinOp.neq 30 (Operand.tmp 87) (Operand.tmp 97) 30, type := 4, pos := "more.go:28", after := #[{ on := 6, ground := Ground.data }, { on := 16, ground := Ground.data }], guard := none }) (v := ?_) rfl (by kernel_rfl) (by kernel_rfl) (by kernel_rfl) (fun _ _ _ h => h) (Or.inl ⟨by rfl, ?_⟩) (by assumption) ?_
                rotate_left
                · (intro w hSw; (try dsimp only at hSw); go_simp; try with_reducible rfl)
                ((try simp only [Act.put]); (try simp only [List.setIfInBounds_toArray]); (try simp only [List.set_cons_succ]); (try simp only [List.set_cons_zero]))
                refine wpAnyH_take (i := 18) (oi := { dst := some 99, op := Op.move (Operand.tmp 98), type := 4, pos := "more.go:28", after := #[{ on := 17, ground := Ground.data }, { on := 13, ground := Ground.chain }], guard := none }) (v := ?_) rfl (by kernel_rfl) (by kernel_rfl) (by kernel_rfl) (fun _ _ _ h => h) (Or.inl ⟨by rfl, ?_⟩) (by assumption) ?_
                rotate_left
                · (intro w hSw; (try dsimp only at hSw); go_simp; try with_reducible rfl)
                ((try simp only [Act.put]); (try simp only [List.setIfInBounds_toArray]); (try simp only [List.set_cons_succ]); (try simp only [List.set_cons_zero]))
                refine wpAnyH_take (i := 19) (oi := { dst := some 100, op := Op.move (Operand.tmp 13), type := 4, pos := "more.go:28", after := #[{ on := 18, ground := Ground.guard }], guard := some (18, false) }) (v := ?_) rfl (by kernel_rfl) (by kernel_rfl) (by kernel_rfl) (fun _ _ _ h => h) (Or.inl ⟨by rfl, ?_⟩) (by assumption) ?_
                rotate_left
                · (intro w hSw; (try dsimp only at hSw); go_simp; try with_reducible rfl)
                ((try simp only [Act.put]); (try simp only [List.setIfInBounds_toArray]); (try simp only [List.set_cons_succ]); (try simp only [List.set_cons_zero]))
                refine wpAnyH_take (i := 20) (oi := { dst := some 101, op := Op.load 25 (Operand.tmp 11), type := 25, pos := "more.go:28", after := #[{ on := 18, ground := Ground.guard }], guard := some (18, false) }) (v := ?_) rfl (by kernel_rfl) (by kernel_rfl) (by kernel_rfl) (fun _ _ _ h => h) (Or.inl ⟨by rfl, ?_⟩) (by assumption) ?_
                rotate_left
                · (intro w hSw; (try dsimp only at hSw); go_simp; try with_reducible rfl)
                ((try simp only [Act.put]); (try simp only [List.setIfInBounds_toArray]); (try simp only [List.set_cons_succ]); (try simp only [List.set_cons_zero]))
                refine wpAnyH_take (i := 21) (oi := { dst := some 102, op := Op.move (Operand.tmp 12), type := 3, pos := "more.go:28", after := #[{ on := 18, ground := Ground.guard }], guard := some (18, false) }) (v := ?_) rfl (by kernel_rfl) (by kernel_rfl) (by kernel_rfl) (fun _ _ _ h => h) (Or.inl ⟨by rfl, ?_⟩) (by assumption) ?_
                rotate_left
                · (intro w hSw; (try dsimp only at hSw); go_simp; try with_reducible rfl)
                ((try simp only [Act.put]); (try simp only [List.setIfInBounds_toArray]); (try simp only [List.set_cons_succ]); (try simp only [List.set_cons_zero]))
                refine wpAnyH_take (i := 23) (oi := { dst := some 104, op := Op.load 25 (Operand.tmp 7), type := 25, pos := "more.go:28", after := #[{ on := 18, ground := Ground.guard }], guard := some (18, false) }) (v := ?_) rfl (by kernel_rfl) (by kernel_rfl) (by kernel_rfl) (fun _ _ _ h => h) (Or.inl ⟨by rfl, ?_⟩) (by assumption) ?_
                rotate_left
                · (intro w hSw; (try dsimp only at hSw); go_simp; try with_reducible rfl)
                ((try simp only [Act.put]); (try simp only [List.setIfInBounds_toArray]); (try simp only [List.set_cons_succ]); (try simp only [List.set_cons_zero]))
                refine wpAnyH_take (i := 24) (oi := { dst := some 105, op := Op.move (Operand.tmp 12), type := 3, pos := "more.go:28", after := #[{ on := 18, ground := Ground.guard }], guard := some (18, false) }) (v := ?_) rfl (by kernel_rfl) (by kernel_rfl) (by kernel_rfl) (fun _ _ _ h => h) (Or.inl ⟨by rfl, ?_⟩) (by assumption) ?_
                rotate_left
                · (intro w hSw; (try dsimp only at hSw); go_simp; try with_reducible rfl)
                ((try simp only [Act.put]); (try simp only [List.setIfInBounds_toArray]); (try simp only [List.set_cons_succ]); (try simp only [List.set_cons_zero]))
                refine wpAnyH_ready (rs := [22]) (by kernel_rfl) (by simp) ?_
                refine AllReadyH.cons (o := { dst := some 103, op := Op.call { callee := Callee.value (Operand.func 15), args := #[Operand.tmp 101, Operand.tmp 102], argTypes := #[25, 3] }, type := 39, pos := "more.go:28", after := #[{ on := 20, ground := Ground.data }, { on := 21, ground := Ground.data }, { on := 18, ground := Ground.chain }, { on := 18, ground := Ground.guard }], guard := some (18, false) }) rfl (fun K hK => ?_) AllReadyH.nil
                go_simp
                refine (mcol_at (k := n) (IN.out.q.s.below (Hid.out hHeld.2.2.2.2.2)) HC1.out CE1.out).mono ?_
                rintro e w5 ⟨d1, g1, rfl, hs, hb⟩
                have R1 := Lib.hid hs
                clear hs
                try go_wp2_with fail
                refine hK.out _ _ ?_ (fun hNew => ?_)
                · first | exact hHeld | exact ⟨cell_go hHeld.1 hb, cell_go hHeld.2.1 hb, cell_go hHeld.2.2.1 hb, cell_go hHeld.2.2.2.1 hb, cell_go hHeld.2.2.2.2.1 hb, Lib.hid ((Hid.out hHeld.2.2.2.2.2).trans (hb.mono (Hid.out hHeld.2.2.2.2.2).size))⟩
                clear hK K
                replace hHeld := hNew
                clear hNew
                ((try simp only [Act.put]); (try simp only [List.setIfInBounds_toArray]); (try simp only [List.set_cons_succ]); (try simp only [List.set_cons_zero]))
                refine wpAnyH_ready (rs := [25]) (by kernel_rfl) (by simp) ?_
                refine AllReadyH.cons (o := { dst := some 106, op := Op.call { callee := Callee.value (Operand.func 15), args := #[Operand.tmp 104, Operand.tmp 105], argTypes := #[25, 3] }, type := 39, pos := "more.go:28", after := #[{ on := 23, ground := Ground.data }, { on := 24, ground := Ground.data }, { on := 22, ground := Ground.chain }, { on := 18, ground := Ground.guard }], guard := some (18, false) }) rfl (fun K hK => ?_) AllReadyH.nil
                go_simp
                refine (mcol_at (k := n) (IN.out.m.s.below (Hid.out hHeld.2.2.2.2.2)) HC2.out CE2.out).mono ?_
                rintro e w5 ⟨d2, g2, rfl, hs, hb⟩
                have R2 := Lib.hid hs
                replace R1 := Lib.hid (R1.out.below hb)
                clear hs
                try go_wp2_with fail
                refine hK.out _ _ ?_ (fun hNew => ?_)
                · first | exact hHeld | exact ⟨cell_go hHeld.1 hb, cell_go hHeld.2.1 hb, cell_go hHeld.2.2.1 hb, cell_go hHeld.2.2.2.1 hb, cell_go hHeld.2.2.2.2.1 hb, Lib.hid ((Hid.out hHeld.2.2.2.2.2).trans (hb.mono (Hid.out hHeld.2.2.2.2.2).size))⟩
                clear hK K
                replace hHeld := hNew
                clear hNew
                ((try simp only [Act.put]); (try simp only [List.setIfInBounds_toArray]); (try simp only [List.set_cons_succ]); (try simp only [List.set_cons_zero]))
                refine wpAnyH_ready (rs := [26]) (by kernel_rfl) (by simp) ?_
                refine AllReadyH.cons (o := { dst := some 107, op := Op.call { callee := Callee.value (Operand.func 26), args := #[Operand.tmp 103, Operand.tmp 106], argTypes := #[39, 39] }, type := 3, pos := "more.go:28", after := #[{ on := 22, ground := Ground.data }, { on := 25, ground := Ground.data }, { on := 25, ground := Ground.chain }, { on := 18, ground := Ground.guard }], guard := some (18, false) }) rfl (fun K hK => ?_) AllReadyH.nil
                go_simp
                refine (vcmp_any (z := -1) R1.out R2.out CE1.out CE2.out CC2.out).mono ?_
                rintro e w5 ⟨rfl, hw⟩
                subst hw
                try go_wp2_with fail
                refine hK.out _ _ ?_ (fun hNew => ?_)
                · first | exact hHeld | exact ⟨cell_go hHeld.1 hb, cell_go hHeld.2.1 hb, cell_go hHeld.2.2.1 hb, cell_go hHeld.2.2.2.1 hb, cell_go hHeld.2.2.2.2.1 hb, Lib.hid ((Hid.out hHeld.2.2.2.2.2).trans (hb.mono (Hid.out hHeld.2.2.2.2.2).size))⟩
                clear hK K
                replace hHeld := hNew
                clear hNew
                ((try simp only [Act.put]); (try simp only [List.setIfInBounds_toArray]); (try simp only [List.set_cons_succ]); (try simp only [List.set_cons_zero]))
                refine wpAnyH_take (i := 27) (oi := { dst := some 108, op := Op.binOp BinOp.eql 3 (Operand.tmp 107) (Operand.const (Value.int IntKind.i64 (-1))) 3, type := 4, pos := "more.go:28", after := #[{ on := 26, ground := Ground.data }, { on := 18, ground := Ground.guard }], guard := some (18, false) }) (v := ?_) rfl (by kernel_rfl) (by kernel_rfl) (by kernel_rfl) (fun _ _ _ h => h) (Or.inl ⟨by rfl, ?_⟩) (by assumption) ?_
                rotate_left
                · (intro w hSw; (try dsimp only at hSw); go_simp; try with_reducible rfl)
                ((try simp only [Act.put]); (try simp only [List.setIfInBounds_toArray]); (try simp only [List.set_cons_succ]); (try simp only [List.set_cons_zero]))
                refine wpAnyH_take (i := 28) (oi := { dst := some 109, op := Op.binOp BinOp.neq 4 (Operand.tmp 100) (Operand.tmp 108) 4, type := 4, pos := "more.go:28", after := #[{ on := 19, ground := Ground.data }, { on := 27, ground := Ground.data }, { on := 18, ground := Ground.guard }], guard := some (18, false) }) (v := ?_) rfl (by kernel_rfl) (by kernel_rfl) (by kernel_rfl) (fun _ _ _ h => h) (Or.inl ⟨by rfl, ?_⟩) (by assumption) ?_
                rotate_left
                · (intro w hSw; (try dsimp only at hSw); go_simp; try with_reducible rfl)
                ((try simp only [Act.put]); (try simp only [List.setIfInBounds_toArray]); (try simp only [List.set_cons_succ]); (try simp only [List.set_cons_zero]))
                refine wpAnyH_take (i := 29) (oi := { dst := some 110, op := Op.pick (Operand.tmp 99) (Operand.const (Value.bool true)) (Operand.tmp 109), type := 4, pos := "more.go:28", after := #[{ on := 18, ground := Ground.data }, { on := 28, ground := Ground.data }], guard := none }) (v := ?_) rfl (by kernel_rfl) (by kernel_rfl) (by kernel_rfl) (fun _ _ _ h => h) (Or.inl ⟨by rfl, ?_⟩) (by assumption) ?_
                rotate_left
                · (intro w hSw; (try dsimp only at hSw); go_simp; try with_reducible rfl)
                ((try simp only [Act.put]); (try simp only [List.setIfInBounds_toArray]); (try simp only [List.set_cons_succ]); (try simp only [List.set_cons_zero]))
                refine wpAnyH_done (by kernel_rfl) ?_ _
                refine NoPanic.normal ?_
                have IF := Lib.hid (IN.out.below (Hid.out hHeld.2.2.2.2.2))
                go_wp2_with fail
                go_roundw
                case rel => exact ⟨j + 1, by omega, by go_num, IF.out⟩
                case measure => simp only [intOf]; omega
          · obtain rfl : j = n := by omega
            have dj : decide ((j : Int) < (j : Int)) = false := decide_eq_false (by omega)
            have M := Lib.hid IN.out.m
            have O := Lib.hid IN.out.o
            have B := Lib.hid IN.out.b
            clear IN GM GU ATS ATL COL CL1 CLU hj hlt2
            have y0 := O.out.c0
            have y1 := O.out.c1
            have yr := cell_go CR2.out B.out
            have yl := cell_go CL2.out B.out
            go_upto_region 21 with fail
            have UO2 := Lib.hid (show Ups j (upM (j : Int) oo x2 t2) ((R.zip L).reverse.take (k + 1)) from by rw [PK2.out]; exact UO.out.more PL2.out)
            refine wp_region_noPanic ?_
            refine wp_region_z (S := (fun w' => w'.cell? ⟨p9, 0, none⟩ = some (.int .i64 (j : Int)) ∧ w'.cell? ⟨p9, 1, none⟩ = some (.slice ax j cx) ∧ w'.cell? ⟨rb, ro + j2, none⟩ = some (.int .i64 x2) ∧ w'.cell? ⟨lb, lo + j2, none⟩ = some (.int .u64 (t2 : Int)) ∧ Hid (Below wr.heap.size wr w'))) (z := 18) (by kernel_rfl) ?_ (fun hHeld => ?_)
            · exact ⟨y0, y1, yr, yl, Lib.hid (drew_below wr)⟩
            refine anyZ_take (i := 0) (oi := { dst := some 111, op := Op.load 25 (Operand.tmp 9), type := 25, pos := "more.go:32", after := #[], guard := none }) (v := ?_) rfl (by kernel_rfl) (by kernel_rfl) (by kernel_rfl) (by kernel_rfl) (fun _ _ _ h => h) (Or.inl ⟨by rfl, ?_⟩) (by assumption) ?_
            rotate_left
            · (intro w hSw; (try dsimp only at hSw); go_simp; try with_reducible rfl)
            ((try simp only [Act.put]); (try simp only [List.setIfInBounds_toArray]); (try simp only [List.set_cons_succ]); (try simp only [List.set_cons_zero]))
            refine anyZ_take (i := 1) (oi := { dst := some 112, op := Op.move (Operand.tmp 2), type := 52, pos := "more.go:32", after := #[], guard := none }) (v := ?_) rfl (by kernel_rfl) (by kernel_rfl) (by kernel_rfl) (by kernel_rfl) (fun _ _ _ h => h) (Or.inl ⟨by rfl, ?_⟩) (by assumption) ?_
            rotate_left
            · (intro w hSw; (try dsimp only at hSw); go_simp; try with_reducible rfl)
            ((try simp only [Act.put]); (try simp only [List.setIfInBounds_toArray]); (try simp only [List.set_cons_succ]); (try simp only [List.set_cons_zero]))
            refine anyZ_take (i := 2) (oi := { dst := some 113, op := Op.move (Operand.tmp 1), type := 37, pos := "more.go:32", after := #[], guard := none }) (v := ?_) rfl (by kernel_rfl) (by kernel_rfl) (by kernel_rfl) (by kernel_rfl) (fun _ _ _ h => h) (Or.inl ⟨by rfl, ?_⟩) (by assumption) ?_
            rotate_left
            · (intro w hSw; (try dsimp only at hSw); go_simp; try with_reducible rfl)
            ((try simp only [Act.put]); (try simp only [List.setIfInBounds_toArray]); (try simp only [List.set_cons_succ]); (try simp only [List.set_cons_zero]))
            refine anyZ_take (i := 3) (oi := { dst := some 114, op := Op.call { callee := Callee.builtin Builtin.len, args := #[Operand.tmp 113], argTypes := #[37] }, type := 3, pos := "more.go:32", after := #[{ on := 2, ground := Ground.data }], guard := none }) (v := ?_) rfl (by kernel_rfl) (by kernel_rfl) (by kernel_rfl) (by kernel_rfl) (fun _ _ _ h => h) (Or.inl ⟨by rfl, ?_⟩) (by assumption) ?_
            rotate_left
            · (intro w hSw; (try dsimp only at hSw); go_simp; try with_reducible rfl)
            ((try simp only [Act.put]); (try simp only [List.setIfInBounds_toArray]); (try simp only [List.set_cons_succ]); (try simp only [List.set_cons_zero]))
            refine anyZ_take (i := 4) (oi := { dst := some 115, op := Op.binOp BinOp.sub 3 (Operand.tmp 114) (Operand.const (Value.int IntKind.i64 1)) 3, type := 3, pos := "more.go:32", after := #[{ on := 3, ground := Ground.data }], guard := none }) (v := ?_) rfl (by kernel_rfl) (by kernel_rfl) (by kernel_rfl) (by kernel_rfl) (fun _ _ _ h => h) (Or.inl ⟨by rfl, ?_⟩) (by assumption) ?_
            rotate_left
            · (intro w hSw; (try dsimp only at hSw); go_simp; try with_reducible rfl)
            ((try simp only [Act.put]); (try simp only [List.setIfInBounds_toArray]); (try simp only [List.set_cons_succ]); (try simp only [List.set_cons_zero]))
            refine anyZ_take (i := 5) (oi := { dst := some 116, op := Op.move (Operand.tmp 10), type := 3, pos := "more.go:32", after := #[], guard := none }) (v := ?_) rfl (by kernel_rfl) (by kernel_rfl) (by kernel_rfl) (by kernel_rfl) (fun _ _ _ h => h) (Or.inl ⟨by rfl, ?_⟩) (by assumption) ?_
            rotate_left
            · (intro w hSw; (try dsimp only at hSw); go_simp; try with_reducible rfl)
            ((try simp only [Act.put]); (try simp only [List.setIfInBounds_toArray]); (try simp only [List.set_cons_succ]); (try simp only [List.set_cons_zero]))
            refine anyZ_take (i := 6) (oi := { dst := some 117, op := Op.binOp BinOp.sub 3 (Operand.tmp 115) (Operand.tmp 116) 3, type := 3, pos := "more.go:32", after := #[{ on := 4, ground := Ground.data }, { on := 5, ground := Ground.data }], guard := none }) (v := ?_) rfl (by kernel_rfl) (by kernel_rfl) (by kernel_rfl) (by kernel_rfl) (fun _ _ _ h => h) (Or.inl ⟨by rfl, ?_⟩) (by assumption) ?_
            rotate_left
            · (intro w hSw; (try dsimp only at hSw); go_simp; try with_reducible rfl)
            ((try simp only [Act.put]); (try simp only [List.setIfInBounds_toArray]); (try simp only [List.set_cons_succ]); (try simp only [List.set_cons_zero]))
            refine anyZ_take (i := 7) (oi := { dst := some 118, op := Op.indexAddr 52 (Operand.tmp 112) (Operand.tmp 117), type := 0, pos := "more.go:32", after := #[{ on := 1, ground := Ground.data }, { on := 6, ground := Ground.data }], guard := none }) (v := ?_) rfl (by kernel_rfl) (by kernel_rfl) (by kernel_rfl) (by kernel_rfl) (fun _ _ _ h => h) (Or.inl ⟨by rfl, ?_⟩) (by assumption) ?_
            rotate_left
            · (intro w hSw; (try dsimp only at hSw); go_simp; try with_reducible rfl)
            ((try simp only [Act.put]); (try simp only [List.setIfInBounds_toArray]); (try simp only [List.set_cons_succ]); (try simp only [List.set_cons_zero]))
            refine anyZ_take (i := 8) (oi := { dst := some 119, op := Op.load 3 (Operand.tmp 118), type := 3, pos := "more.go:32", after := #[{ on := 7, ground := Ground.data }], guard := none }) (v := ?_) rfl (by kernel_rfl) (by kernel_rfl) (by kernel_rfl) (by kernel_rfl) (fun _ _ _ h => h) (Or.inl ⟨by rfl, ?_⟩) (by assumption) ?_
            rotate_left
            · (intro w hSw; (try dsimp only at hSw); go_simp; try with_reducible rfl)
            ((try simp only [Act.put]); (try simp only [List.setIfInBounds_toArray]); (try simp only [List.set_cons_succ]); (try simp only [List.set_cons_zero]))
            refine anyZ_take (i := 9) (oi := { dst := some 120, op := Op.move (Operand.tmp 1), type := 37, pos := "more.go:32", after := #[], guard := none }) (v := ?_) rfl (by kernel_rfl) (by kernel_rfl) (by kernel_rfl) (by kernel_rfl) (fun _ _ _ h => h) (Or.inl ⟨by rfl, ?_⟩) (by assumption) ?_
            rotate_left
            · (intro w hSw; (try dsimp only at hSw); go_simp; try with_reducible rfl)
            ((try simp only [Act.put]); (try simp only [List.setIfInBounds_toArray]); (try simp only [List.set_cons_succ]); (try simp only [List.set_cons_zero]))
            refine anyZ_take (i := 10) (oi := { dst := some 121, op := Op.move (Operand.tmp 1), type := 37, pos := "more.go:32", after := #[], guard := none }) (v := ?_) rfl (by kernel_rfl) (by kernel_rfl) (by kernel_rfl) (by kernel_rfl) (fun _ _ _ h => h) (Or.inl ⟨by rfl, ?_⟩) (by assumption) ?_
            rotate_left
            · (intro w hSw; (try dsimp only at hSw); go_simp; try with_reducible rfl)
            ((try simp only [Act.put]); (try simp only [List.setIfInBounds_toArray]); (try simp only [List.set_cons_succ]); (try simp only [List.set_cons_zero]))
            refine anyZ_take (i := 11) (oi := { dst := some 122, op := Op.call { callee := Callee.builtin Builtin.len, args := #[Operand.tmp 121], argTypes := #[37] }, type := 3, pos := "more.go:32", after := #[{ on := 10, ground := Ground.data }], guard := none }) (v := ?_) rfl (by kernel_rfl) (by kernel_rfl) (by kernel_rfl) (by kernel_rfl) (fun _ _ _ h => h) (Or.inl ⟨by rfl, ?_⟩) (by assumption) ?_
            rotate_left
            · (intro w hSw; (try dsimp only at hSw); go_simp; try with_reducible rfl)
            ((try simp only [Act.put]); (try simp only [List.setIfInBounds_toArray]); (try simp only [List.set_cons_succ]); (try simp only [List.set_cons_zero]))
            refine anyZ_take (i := 12) (oi := { dst := some 123, op := Op.binOp BinOp.sub 3 (Operand.tmp 122) (Operand.const (Value.int IntKind.i64 1)) 3, type := 3, pos := "more.go:32", after := #[{ on := 11, ground := Ground.data }], guard := none }) (v := ?_) rfl (by kernel_rfl) (by kernel_rfl) (by kernel_rfl) (by kernel_rfl) (fun _ _ _ h => h) (Or.inl ⟨by rfl, ?_⟩) (by assumption) ?_
            rotate_left
            · (intro w hSw; (try dsimp only at hSw); go_simp; try with_reducible rfl)
            ((try simp only [Act.put]); (try simp only [List.setIfInBounds_toArray]); (try simp only [List.set_cons_succ]); (try simp only [List.set_cons_zero]))
            refine anyZ_take (i := 13) (oi := { dst := some 124, op := Op.move (Operand.tmp 10), type := 3, pos := "more.go:32", after := #[], guard := none }) (v := ?_) rfl (by kernel_rfl) (by kernel_rfl) (by kernel_rfl) (by kernel_rfl) (fun _ _ _ h => h) (Or.inl ⟨by rfl, ?_⟩) (by assumption) ?_
            rotate_left
            · (intro w hSw; (try dsimp only at hSw); go_simp; try with_reducible rfl)
            ((try simp only [Act.put]); (try simp only [List.setIfInBounds_toArray]); (try simp only [List.set_cons_succ]); (try simp only [List.set_cons_zero]))
            refine anyZ_take (i := 14) (oi := { dst := some 125, op := Op.binOp BinOp.sub 3 (Operand.tmp 123) (Operand.tmp 124) 3, type := 3, pos := "more.go:32", after := #[{ on := 12, ground := Ground.data }, { on := 13, ground := Ground.data }], guard := none }) (v := ?_) rfl (by kernel_rfl) (by kernel_rfl) (by kernel_rfl) (by kernel_rfl) (fun _ _ _ h => h) (Or.inl ⟨by rfl, ?_⟩) (by assumption) ?_
            rotate_left
            · (intro w hSw; (try dsimp only at hSw); go_simp; try with_reducible rfl)
            ((try simp only [Act.put]); (try simp only [List.setIfInBounds_toArray]); (try simp only [List.set_cons_succ]); (try simp only [List.set_cons_zero]))
            refine anyZ_take (i := 15) (oi := { dst := some 126, op := Op.indexAddr 37 (Operand.tmp 120) (Operand.tmp 125), type := 0, pos := "more.go:32", after := #[{ on := 9, ground := Ground.data }, { on := 14, ground := Ground.data }], guard := none }) (v := ?_) rfl (by kernel_rfl) (by kernel_rfl) (by kernel_rfl) (by kernel_rfl) (fun _ _ _ h => h) (Or.inl ⟨by rfl, ?_⟩) (by assumption) ?_
            rotate_left
            · (intro w hSw; (try dsimp only at hSw); go_simp; try with_reducible rfl)
            ((try simp only [Act.put]); (try simp only [List.setIfInBounds_toArray]); (try simp only [List.set_cons_succ]); (try simp only [List.set_cons_zero]))
            refine anyZ_take (i := 16) (oi := { dst := some 127, op := Op.load 30 (Operand.tmp 126), type := 30, pos := "more.go:32", after := #[{ on := 15, ground := Ground.data }], guard := none }) (v := ?_) rfl (by kernel_rfl) (by kernel_rfl) (by kernel_rfl) (by kernel_rfl) (fun _ _ _ h => h) (Or.inl ⟨by rfl, ?_⟩) (by assumption) ?_
            rotate_left
            · (intro w hSw; (try dsimp only at hSw); go_simp; try with_reducible rfl)
            ((try simp only [Act.put]); (try simp only [List.setIfInBounds_toArray]); (try simp only [List.set_cons_succ]); (try simp only [List.set_cons_zero]))
            refine anyZ_ready (rs := [17]) (by kernel_rfl) (by simp) ?_
            refine AllZ.cons (o := { dst := some 128, op := Op.call { callee := Callee.value (Operand.func 9), args := #[Operand.tmp 111, Operand.tmp 119, Operand.tmp 127], argTypes := #[25, 3, 31] }, type := 25, pos := "more.go:32", after := #[{ on := 0, ground := Ground.data }, { on := 8, ground := Ground.data }, { on := 16, ground := Ground.data }], guard := none }) rfl (fun K hK => ?_) AllZ.nil
            go_simp
            refine (mup_at (O.out.s.below (Hid.out hHeld.2.2.2.2)) (by omega) ROW2.out TT2.out).mono ?_
            rintro e w5 ⟨a8, c8, rfl, h5⟩
            have hb := h5.2
            have MF := Lib.hid ((O.out.c.below (Hid.out hHeld.2.2.2.2)).below hb)
            have f0 := MF.out.fz 0
            have f1 := MF.out.fz 1
            have BW := Lib.hid ((Hid.out hHeld.2.2.2.2).trans (hb.mono (Hid.out hHeld.2.2.2.2).size))
            have SZ := Lib.hid (Hid.out hHeld.2.2.2.2).size
            have H5 := Lib.hid h5.1
            clear h5
            refine hK.out _ _ ?_ (fun hNew => ?_)
            · first | exact hHeld | exact ⟨cell_go hHeld.1 hb, cell_go hHeld.2.1 hb, cell_go hHeld.2.2.1 hb, cell_go hHeld.2.2.2.1 hb, Lib.hid ((Hid.out hHeld.2.2.2.2).trans (hb.mono (Hid.out hHeld.2.2.2.2).size))⟩
            clear hK K
            replace hHeld := hNew
            clear hNew
            ((try simp only [Act.put]); (try simp only [List.setIfInBounds_toArray]); (try simp only [List.set_cons_succ]); (try simp only [List.set_cons_zero]))
            refine anyZ_ready (rs := [18]) (by kernel_rfl) (by simp) ?_
            refine AllZ.last (o := { dst := none, op := Op.store 25 (Operand.tmp 9) (Operand.tmp 128), type := 0, pos := "more.go:32", after := #[{ on := 17, ground := Ground.data }, { on := 17, ground := Ground.chain }, { on := 0, ground := Ground.phase }, { on := 1, ground := Ground.phase }, { on := 2, ground := Ground.phase }, { on := 3, ground := Ground.phase }, { on := 4, ground := Ground.phase }, { on := 5, ground := Ground.phase }, { on := 6, ground := Ground.phase }, { on := 7, ground := Ground.phase }, { on := 8, ground := Ground.phase }, { on := 9, ground := Ground.phase }, { on := 10, ground := Ground.phase }, { on := 11, ground := Ground.phase }, { on := 12, ground := Ground.phase }, { on := 13, ground := Ground.phase }, { on := 14, ground := Ground.phase }, { on := 15, ground := Ground.phase }, { on := 16, ground := Ground.phase }, { on := 17, ground := Ground.phase }], guard := none }) rfl (fun K hK => ?_)
            go_simp
            refine hK.out _ _ ?_
            clear hK K
            ((try simp only [Act.put]); (try simp only [List.setIfInBounds_toArray]); (try simp only [List.set_cons_succ]); (try simp only [List.set_cons_zero]))
            refine anyZ_done (by kernel_rfl) ?_ _
            refine NoPanic.normal ?_
            have H6 := H5.out.mono (A' := fun k => k ≠ p7 ∧ k ≠ p9) (fun k _ h => h.elim id (fun h => by have := M.out.c.lt; have := O.out.c.lt; have := SZ.out; constructor <;> omega))
            have RR := Lib.hid (show UpsW W p7 p9 j (R.zip L) (k + 1) _ from ⟨m2, _, a5, c5, a8, c8, (M.out.below BW.out).far N79.out.1 (fun h => h.2 rfl), MtV.store MF.out H6 (fun h => h.2 rfl), U2.out, UO2.out, ((B.out.trans (BW.out.mono B.out.size)).setCell (by exact N79.out.2.2) _).setCell (by exact N79.out.2.2) _⟩)
            clear H6
            go_wp2_with fail
            go_roundw
            case rel => exact ⟨k + 1, by omega, by go_num, RR.out⟩
            case measure => simp only [intOf]; omega
    · obtain rfl : k = ln := by omega
      have dk : decide ((k : Int) < (k : Int)) = false := decide_eq_false (by omega)
      have uM := UM.out
      have uO := UO.out
      rw [List.take_of_length_le (by rw [QL.out]; exact Nat.le_refl _)] at uM
      rw [List.take_of_length_le (by rw [List.length_reverse, QL.out]; exact Nat.le_refl _)] at uO
      have W1 := Lib.hid (uO.within uM (fun r j => cntS_rev _ r j))
      have W2 := Lib.hid (uM.within uO (fun r j => (cntS_rev _ r j).symm))
      clear uM uO UM UO
      have y0 := O.out.c0
      have y1 := O.out.c1
      have y2 := M.out.c0
      have y3 := M.out.c1
      go_wp2_with fail
      refine (mwi_at (r := true) O.out.s M.out.s W1.out).mono ?_
      rintro e w5 ⟨rfl, hb⟩
      replace O := Lib.hid (O.out.below hb)
      replace M := Lib.hid (M.out.below hb)
      replace B := Lib.hid (B.out.trans (hb.mono B.out.size))
      clear hb y0 y1 y2 y3
      have y0 := O.out.c0
      have y1 := O.out.c1
      have y2 := M.out.c0
      have y3 := M.out.c1
      go_wp2_with fail
      refine (mwi_at (r := true) M.out.s O.out.s W2.out).mono ?_
      rintro e w6 ⟨rfl, hb⟩
      replace B := Lib.hid (B.out.trans (hb.mono B.out.size))
      clear hb
      go_wp2_with fail
      go_ret
      exact ⟨rfl, B.out⟩

end Go.Proofs.Ytfiamomadicbpaa
