/-
  Frames that are unlike have unlike bytes: the walk of the statement FrameTold.
-/
import Derived.Test.YthnglifjijfplaaFaw
import Derived.Deep.RegionHeld3
namespace Go.Proofs.Ythnglifjijfplaa
open Go.RowKit

theorem both {W w' : World} {N A B : Nat} {f g : Frm} {a b : Option Addr} {c d : Nat} (hx : Hid (Fun W N A f a c w')) (hy : Hid (Fun W N B g b d w')) :
    w'.cell? ⟨A, 0, none⟩ = some (.bool f.ack) ∧ w'.cell? ⟨A, 1, none⟩ = some (.int .u64 (f.num : Nat)) ∧ w'.cell? ⟨A, 2, none⟩ = some (.slice a f.bod.length c) ∧ w'.cell? ⟨B, 0, none⟩ = some (.bool g.ack) ∧ w'.cell? ⟨B, 1, none⟩ = some (.int .u64 (g.num : Nat)) ∧ w'.cell? ⟨B, 2, none⟩ = some (.slice b g.bod.length d) ∧ Hid (Fun W N A f a c w') ∧ Hid (Fun W N B g b d w') :=
  ⟨hx.out.bx.c0, hx.out.bx.c1, hx.out.bx.c2, hy.out.bx.c0, hy.out.bx.c1, hy.out.bx.c2, hx, hy⟩

theorem list_ne {a b : ByteArray} (h : a ≠ b) : (a.toList == b.toList) = false := by
  refine beq_eq_false_iff_ne.2 fun e => h ?_
  rw [ByteArray.toList_eq, ByteArray.toList_eq] at e
  exact ByteArray.ext (Array.ext' e)
theorem str_eq {xs ys : List Nat} (hx : ∀ x ∈ xs, x < 256) (hy : ∀ y ∈ ys, y < 256) (h : strB xs = strB ys) : xs = ys := by
  have e : (strB xs).data.toList = (strB ys).data.toList := by rw [h]
  unfold strB at e
  rw [strOfNums_data, strOfNums_data, List.map_map, List.map_map] at e
  clear h
  induction xs generalizing ys with
  | nil => cases ys with
    | nil => rfl
    | cons y r => simp at e
  | cons x r ih => cases ys with
    | nil => simp at e
    | cons y s =>
      simp only [List.map_cons, List.cons.injEq, Function.comp_apply, Int.toNat_natCast] at e
      have h0 : x = y := by
        have := congrArg UInt8.toNat e.1
        simp only [UInt8.toNat_ofNat'] at this
        have h1 := hx x (by simp)
        have h2 := hy y (by simp)
        omega
      rw [h0, ih (fun z hz => hx z (by simp [hz])) (fun z hz => hy z (by simp [hz])) e.2]

set_option maxRecDepth 20000 in
set_option maxHeartbeats 16000000 in
theorem law_FrameTold (f : Frm) (a : Option Addr) (c : Nat) (g : Frm) (b : Option Addr) (d : Nat) (W : World) (hs : SlAt bV 256 W a c f.bod) (hn : f.num < 18446744073709551616) (ht : SlAt bV 256 W b d g.bod) (hm : g.num < 18446744073709551616) :
    Calls Try.prog 6 #[.agg (frmA f a c), .agg (frmA g b d)] W (Ok W) := by
  have hf := hs.fit
  have hx := hs.max
  have hf2 := ht.fit
  have hx2 := ht.max
  unfold maxLen at hx hx2
  have X1 := Fun.alloc (o := .cells (frmA g b d) 27) (Fun.new hs 27)
  have Y1 := Fun.lay (w := W) (w' := W.alloc (.cells (frmA f a c) 27)) (N := W.heap.size) (Below.refl _ W) (Nat.le_refl _) (below_alloc (Below.refl _ W) _) (ht.below (below_alloc (Below.refl _ W) (.cells (frmA f a c) 27))) 27
  rw [show (W.alloc (.cells (frmA f a c) 27)).heap.size = W.heap.size + 1 by simp] at Y1
  have O1 := Lib.hid hn
  have O2 := Lib.hid hm
  have L1 := Lib.hid hs.lt
  have L2 := Lib.hid ht.lt
  clear hs hn ht hm
  obtain ⟨p, hp⟩ : ∃ p, bytesF f = p := ⟨_, rfl⟩
  obtain ⟨q, hq⟩ : ∃ q, bytesF g = q := ⟨_, rfl⟩
  have E1 := Lib.hid hp
  have E2 := Lib.hid hq
  clear hp hq
  go_enter Try.func6, Try.ntmps6
  go_wp2_with fail
  generalize (W.alloc (.cells (frmA f a c) 27)).alloc (.cells (frmA g b d) 27) = w0 at X1 Y1 ⊢
  generalize hB : W.heap.size + 1 = B at Y1 ⊢
  obtain ⟨A, hA⟩ : ∃ A, A = W.heap.size := ⟨_, rfl⟩
  have X1' : Hid (Fun W W.heap.size A f a c w0) := hA ▸ X1
  clear X1 hB
  refine (awake_any _).mono ?_
  rintro e w1 ⟨rfl, hb⟩
  have X2 := Fun.of hb X1'
  have Y2 := Fun.of hb Y1
  clear hb X1' Y1
  go_wp2_with fail
  rw [← hA]
  clear hA
  refine wp_region_noPanic ?_
  refine wp_region_held_drew (S := (fun w' => w'.cell? ⟨A, 0, none⟩ = some (.bool f.ack) ∧ w'.cell? ⟨A, 1, none⟩ = some (.int .u64 (f.num : Nat)) ∧ w'.cell? ⟨A, 2, none⟩ = some (.slice a f.bod.length c) ∧ w'.cell? ⟨B, 0, none⟩ = some (.bool g.ack) ∧ w'.cell? ⟨B, 1, none⟩ = some (.int .u64 (g.num : Nat)) ∧ w'.cell? ⟨B, 2, none⟩ = some (.slice b g.bod.length d) ∧ Hid (Fun W W.heap.size A f a c w') ∧ Hid (Fun W W.heap.size B g b d w'))) (by kernel_rfl) ?_ (fun hHeld => ?_)
  · exact both (Fun.drew X2) (Fun.drew Y2)
  refine wpAnyH_take (i := 0) (oi := { dst := some 10, op := Op.load 27 (Operand.tmp 2), type := 27, pos := "more.go:33", after := #[], guard := none }) (v := ?_) rfl (by kernel_rfl) (by kernel_rfl) (by kernel_rfl) (fun _ _ _ h => h) (Or.inl ⟨by rfl, ?_⟩) (by assumption) ?_
  rotate_left
  · (intro w hSw; (try dsimp only at hSw); go_simp; try with_reducible rfl)
  ((try simp only [Act.put]); (try simp only [List.setIfInBounds_toArray]); (try simp only [List.set_cons_succ]); (try simp only [List.set_cons_zero]))
  refine wpAnyH_take (i := 2) (oi := { dst := some 12, op := Op.load 27 (Operand.tmp 3), type := 27, pos := "more.go:33", after := #[], guard := none }) (v := ?_) rfl (by kernel_rfl) (by kernel_rfl) (by kernel_rfl) (fun _ _ _ h => h) (Or.inl ⟨by rfl, ?_⟩) (by assumption) ?_
  rotate_left
  · (intro w hSw; (try dsimp only at hSw); go_simp; try with_reducible rfl)
  ((try simp only [Act.put]); (try simp only [List.setIfInBounds_toArray]); (try simp only [List.set_cons_succ]); (try simp only [List.set_cons_zero]))
  refine wpAnyH_ready (rs := [1]) (by kernel_rfl) (by simp) ?_
  refine AllReadyH.cons (o := { dst := some 11, op := Op.call { callee := Callee.value (Operand.func 9), args := #[Operand.tmp 10], argTypes := #[27] }, type := 23, pos := "more.go:33", after := #[{ on := 0, ground := Ground.data }], guard := none }) rfl (fun K hK => ?_) AllReadyH.nil
  go_simp
  refine (fput_is (f := f) hHeld.2.2.2.2.2.2.1.out.sl O1.out E1.out).mono ?_
  rintro e w' ⟨a5, c5, rfl, hsp, hb⟩
  have SP := Lib.hid hsp
  clear hsp
  try go_wp2_with fail
  refine hK.out _ _ ?_ (fun hNew => ?_)
  · first | exact hHeld | exact both (Fun.of hb hHeld.2.2.2.2.2.2.1) (Fun.of hb hHeld.2.2.2.2.2.2.2)
  clear hK K
  replace hHeld := hNew
  clear hNew
  ((try simp only [Act.put]); (try simp only [List.setIfInBounds_toArray]); (try simp only [List.set_cons_succ]); (try simp only [List.set_cons_zero]))
  refine wpAnyH_ready (rs := [3]) (by kernel_rfl) (by simp) ?_
  refine AllReadyH.cons (o := { dst := some 13, op := Op.call { callee := Callee.value (Operand.func 9), args := #[Operand.tmp 12], argTypes := #[27] }, type := 23, pos := "more.go:33", after := #[{ on := 2, ground := Ground.data }, { on := 1, ground := Ground.chain }], guard := none }) rfl (fun K hK => ?_) AllReadyH.nil
  go_simp
  refine (fput_is (f := g) hHeld.2.2.2.2.2.2.2.out.sl O2.out E2.out).mono ?_
  rintro e w' ⟨a6, c6, rfl, hsq, hb⟩
  replace SP := Lib.hid (SP.out.below hb)
  have SQ := Lib.hid hsq
  clear hsq
  try go_wp2_with fail
  refine hK.out _ _ ?_ (fun hNew => ?_)
  · first | exact hHeld | exact both (Fun.of hb hHeld.2.2.2.2.2.2.1) (Fun.of hb hHeld.2.2.2.2.2.2.2)
  clear hK K
  replace hHeld := hNew
  clear hNew
  ((try simp only [Act.put]); (try simp only [List.setIfInBounds_toArray]); (try simp only [List.set_cons_succ]); (try simp only [List.set_cons_zero]))
  refine wpAnyH_take (i := 4) (oi := { dst := some 5, op := Op.assign (Operand.tmp 11), type := 23, pos := "more.go:33", after := #[{ on := 1, ground := Ground.data }, { on := 3, ground := Ground.chain }, { on := 0, ground := Ground.phase }, { on := 1, ground := Ground.phase }, { on := 2, ground := Ground.textOnly Departure.lateStores }, { on := 3, ground := Ground.textOnly Departure.lateStoresUnsure }], guard := none }) (v := ?_) rfl (by kernel_rfl) (by kernel_rfl) (by kernel_rfl) (fun _ _ _ h => h) (Or.inl ⟨by rfl, ?_⟩) (by assumption) ?_
  rotate_left
  · (intro w hSw; (try dsimp only at hSw); go_simp; try with_reducible rfl)
  ((try simp only [Act.put]); (try simp only [List.setIfInBounds_toArray]); (try simp only [List.set_cons_succ]); (try simp only [List.set_cons_zero]))
  refine wpAnyH_take (i := 5) (oi := { dst := some 6, op := Op.assign (Operand.tmp 13), type := 23, pos := "more.go:33", after := #[{ on := 3, ground := Ground.data }, { on := 4, ground := Ground.chain }, { on := 0, ground := Ground.phase }, { on := 1, ground := Ground.phase }, { on := 2, ground := Ground.phase }, { on := 3, ground := Ground.phase }, { on := 4, ground := Ground.phase }], guard := none }) (v := ?_) rfl (by kernel_rfl) (by kernel_rfl) (by kernel_rfl) (fun _ _ _ h => h) (Or.inl ⟨by rfl, ?_⟩) (by assumption) ?_
  rotate_left
  · (intro w hSw; (try dsimp only at hSw); go_simp; try with_reducible rfl)
  ((try simp only [Act.put]); (try simp only [List.setIfInBounds_toArray]); (try simp only [List.set_cons_succ]); (try simp only [List.set_cons_zero]))
  refine wpAnyH_done (by kernel_rfl) ?_ _
  refine NoPanic.normal ?_
  have X3 := hHeld.2.2.2.2.2.2.1
  have Y3 := hHeld.2.2.2.2.2.2.2
  clear hHeld X2 Y2
  obtain ⟨j0, j1, j2⟩ := X3.out.bx
  obtain ⟨i0, i1, i2⟩ := Y3.out.bx
  by_cases l1 : 300 < f.bod.length
  · have d1 : decide ((300 : Int) < (f.bod.length : Int)) = true := decide_eq_true (by omega)
    have d1' : decide (300 < f.bod.length) = true := decide_eq_true l1
    go_wp2_with fail
    go_ret
    exact ⟨rfl, X3.out.be⟩
  have d1 : decide ((300 : Int) < (f.bod.length : Int)) = false := decide_eq_false (by omega)
  have d1' : decide (300 < f.bod.length) = false := decide_eq_false l1
  by_cases l2 : 300 < g.bod.length
  · have d2 : decide ((300 : Int) < (g.bod.length : Int)) = true := decide_eq_true (by omega)
    have d2' : decide (300 < g.bod.length) = true := decide_eq_true l2
    go_wp2_with fail
    go_ret
    exact ⟨rfl, X3.out.be⟩
  have d2 : decide ((300 : Int) < (g.bod.length : Int)) = false := decide_eq_false (by omega)
  have d2' : decide (300 < g.bod.length) = false := decide_eq_false l2
  by_cases l3 : p = []
  · subst l3
    go_wp2_with fail
    go_ret
    exact ⟨rfl, X3.out.be⟩
  have d3 : ((p.length : Int) == 0) = false := by simp [l3]
  by_cases l4 : q = []
  · subst l4
    go_wp2_with fail
    go_ret
    exact ⟨rfl, X3.out.be⟩
  have d4 : ((q.length : Int) == 0) = false := by simp [l4]
  have G1 := Lib.hid (show goodF f = true by
    cases hg : goodF f with
    | true => rfl
    | false => exact absurd (by rw [← E1.out]; unfold bytesF; rw [hg]; rfl) l3)
  have G2 := Lib.hid (show goodF g = true by
    cases hg : goodF g with
    | true => rfl
    | false => exact absurd (by rw [← E2.out]; unfold bytesF; rw [hg]; rfl) l4)
  have P1 := Lib.hid (show putF f = p by rw [← E1.out]; unfold bytesF; rw [G1.out]; rfl)
  have P2 := Lib.hid (show putF g = q by rw [← E2.out]; unfold bytesF; rw [G2.out]; rfl)
  have cf := conv_any X3.out.sl rfl
  have cg := conv_any Y3.out.sl rfl
  have cp := conv_any SP.out rfl
  have cq := conv_any SQ.out rfl
  obtain ⟨s1, e1⟩ : ∃ s, strB f.bod = s := ⟨_, rfl⟩
  obtain ⟨s2, e2⟩ : ∃ s, strB g.bod = s := ⟨_, rfl⟩
  obtain ⟨s3, e3⟩ : ∃ s, strB p = s := ⟨_, rfl⟩
  obtain ⟨s4, e4⟩ : ∃ s, strB q = s := ⟨_, rfl⟩
  rw [e1] at cf
  rw [e2] at cg
  rw [e3] at cp
  rw [e4] at cq
  have LP := SP.out.lt
  have LQ := SQ.out.lt
  clear l1 l2 l3 l4
  by_cases h1 : f.ack = g.ack ∧ f.num = g.num ∧ f.bod = g.bod
  · obtain ⟨h1, h2, h3⟩ := h1
    have hpq : p = q := by
      rw [← P1.out, ← P2.out]
      unfold putF
      rw [h1, h2, h3]
    have e12 : s1 = s2 := by rw [← e1, ← e2, h3]
    have e34 : s3 = s4 := by rw [← e3, ← e4, hpq]
    rw [h1] at j0
    rw [h2] at j1
    subst e12 e34
    clear h1 h2 h3 hpq e1 e2 e3 e4 LP LQ
    go_wp2_with fail
    go_ret
    exact ⟨rfl, X3.out.be⟩
  have n34 : s3 ≠ s4 := fun e => by
    have e5 := putF_inj O1.out O2.out G1.out G2.out (by rw [P1.out, P2.out]; exact str_eq LP LQ (by rw [e3, e4, e]))
    exact h1 ⟨by rw [e5], by rw [e5], by rw [e5]⟩
  have d5 := list_ne n34
  have H := Lib.hid (show f.bod = g.bod ∨ s1 ≠ s2 from (Decidable.em (f.bod = g.bod)).imp id (fun h e => h (str_eq L1.out L2.out (by rw [e1, e2, e]))))
  clear n34 e3 e4 LP LQ
  by_cases h2 : f.ack = g.ack
  · by_cases h3 : f.num = g.num
    · have n12 : s1 ≠ s2 := H.out.elim (fun h => absurd ⟨h2, h3, h⟩ h1) id
      have d7 := list_ne n12
      rw [h2] at j0
      rw [h3] at j1
      clear h1 h2 h3 n12 e1 e2 H
      go_wp2_with fail
      go_ret
      exact ⟨rfl, X3.out.be⟩
    · have d7 : ((f.num : Int) == (g.num : Int)) = false := by simp; omega
      rw [h2] at j0
      clear h1 h2 h3 e1 e2 H
      go_wp2_with fail
      go_ret
      exact ⟨rfl, X3.out.be⟩
  · have d7 : (f.ack == g.ack) = false := by simp [h2]
    clear h1 h2 e1 e2 H
    go_wp2_with fail
    go_ret
    exact ⟨rfl, X3.out.be⟩

end Go.Proofs.Ythnglifjijfplaa
