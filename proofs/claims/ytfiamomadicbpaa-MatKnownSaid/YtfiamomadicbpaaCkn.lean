/-
  MatKnown.
-/
import Derived.Test.YtfiamomadicbpaaCjo
namespace Go.Proofs.Ytfiamomadicbpaa
open Go.RowKit

theorem of_cells {w : World} {b : Nat} {xs : List Int} {n s : Nat} (h : SlV w (some ⟨b, 0, none⟩) n (xs.map iV)) (hl : xs.length = n) (hx : ∀ x ∈ xs, IntOk x) (hs : ofN xs = s) :
    Calls Try.prog 10 #[.slice (some ⟨b, 0, none⟩) n n] w fun e w' => e = .returned (.int .u64 (s : Nat)) ∧ w = w' := of_end h hx hl hs
theorem four_cells {w : World} {b : Nat} {c0 c1 c2 c3 : Int} (h0 : w.cell? ⟨b, 0, none⟩ = some (.int .i64 c0)) (h1 : w.cell? ⟨b, 1, none⟩ = some (.int .i64 c1)) (h2 : w.cell? ⟨b, 2, none⟩ = some (.int .i64 c2)) (h3 : w.cell? ⟨b, 3, none⟩ = some (.int .i64 c3)) :
    SlV w (some ⟨b, 0, none⟩) 4 ([c0, c1, c2, c3].map iV) :=
  ⟨by simp, by unfold maxLen; omega, (fun e => by cases e), fun i hi => ⟨b, 0, rfl, cell_lt h0, by
    rcases (show i = 0 ∨ i = 1 ∨ i = 2 ∨ i = 3 by simp at hi; omega) with rfl | rfl | rfl | rfl
    · exact h0
    · exact h1
    · exact h2
    · exact h3⟩⟩

theorem two_rd {w : World} {x y : Rd} (hx : SlAt qV QM w x.a x.c x.l) (hy : SlAt qV QM w y.a y.c y.l) : ∀ r ∈ [x, y], SlAt qV QM w r.a r.c r.l := fun r hr => by
  rcases List.mem_cons.1 hr with rfl | hr
  · exact hx
  · rw [List.mem_singleton.1 hr]; exact hy

/-! A long drawn region's ways meet at necks. -/
theorem neck4 {S : World → Prop} {R : Prop} {G : Value → Value → Value → Value → World → Prop} (use : (∀ a b c d w, S w → G a b c d w) → R) (pf : ∀ a b c d w, S w → G a b c d w) : R := use pf
theorem neck2 {S : World → Prop} {R : Prop} {G : Value → Value → World → Prop} (use : (∀ a b w, S w → G a b w) → R) (pf : ∀ a b w, S w → G a b w) : R := use pf
section
variable {P : Program} {md : Region.Mode} {ops : Array Oper} {Q : Exit → Act → World → Prop} {S : World → Prop} {n : Nat} {l l' : Array Bool} {a : Act} {w : World}
theorem gen1 (k : Nat) (h : a.put (some k) (a.tmps.getD k undef) = a) (g : ∀ v, wpAnyH P md ops Q S n l (a.put (some k) v) w) : wpAnyH P md ops Q S n l a w := by
  have := g (a.tmps.getD k undef)
  rwa [h] at this
theorem listed_to (h : l = l') (g : wpAnyH P md ops Q S n l' a w) : wpAnyH P md ops Q S n l a w := h ▸ g
theorem genw (h : S w) (g : ∀ u, S u → wpAnyH P md ops Q S n l a u) : wpAnyH P md ops Q S n l a w := g w h
end

set_option maxRecDepth 20000 in
set_option maxHeartbeats 32000000 in
theorem law_MatKnown (W : World) : Calls Try.prog 3 #[] W (VOk W) := by
  go_enter Try.func3, Try.ntmps3
  go_wp2_with fail
  refine (mawake_any W).mono ?_
  rintro e w0 ⟨rfl, hb⟩
  have B := Lib.hid hb
  clear hb
  go_wp2_with fail
  refine (mnew_no (z := 0) (by decide)).mono ?_
  rintro e w1 ⟨rfl, hb⟩
  replace B := Lib.hid ((B.out.trans (hb.mono B.out.size)).alloc (B.out.trans (hb.mono B.out.size)).size (.cells #[.int .i64 0, .slice none 0 0] 25))
  clear hb
  go_wp2_with fail
  generalize hw : w1.alloc (.cells #[.int .i64 0, .slice none 0 0] 25) = w51 at *
  generalize hq : w1.heap.size = p1 at *
  clear hw hq
  refine (mnew_no (z := 17) (by decide)).mono ?_
  rintro e w2 ⟨rfl, hb⟩
  replace B := Lib.hid ((B.out.trans (hb.mono B.out.size)).alloc (B.out.trans (hb.mono B.out.size)).size (.cells #[.int .i64 0, .slice none 0 0] 25))
  clear hb
  go_wp2_with fail
  generalize hw : w2.alloc (.cells #[.int .i64 0, .slice none 0 0] 25) = w52 at *
  generalize hq : w2.heap.size = p2 at *
  clear hw hq
  refine (mnew_yes (n := 2) (z := 2) rfl (by decide) (by decide)).mono ?_
  rintro e w3 ⟨aM, cM, rfl, h⟩
  have hb := h.2
  have M := Lib.hid (MtV.new (z := 2) h.1 25)
  replace B := Lib.hid ((B.out.trans (hb.mono B.out.size)).alloc (B.out.trans (hb.mono B.out.size)).size (.cells #[.int .i64 2, .slice aM 2 cM] 25))
  clear hb h
  have kM0 := M.out.c0
  have kM1 := M.out.c1
  go_wp2_with fail
  generalize hw : w3.alloc (.cells #[.int .i64 2, .slice aM 2 cM] 25) = w53 at *
  generalize hq : w3.heap.size = pM at *
  clear hw hq
  refine (mup_at (i := 2) M.out.s (by decide) (by decide) (by decide)).mono ?_
  rintro e w4 ⟨aC, cC, rfl, h⟩
  have hb := h.2
  rw [show upM 2 (zerosM 2) 2 3 = zerosM 2 by decide] at h
  clear kM0 kM1
  replace M := Lib.hid ((M.out.below hb).below (below_alloc (Below.refl _ _) (.cells #[.int .i64 2, .slice aC 2 cC] 25)))
  have C := Lib.hid (MtV.new (z := 2) h.1 25)
  replace B := Lib.hid ((B.out.trans (hb.mono B.out.size)).alloc (B.out.trans (hb.mono B.out.size)).size (.cells #[.int .i64 2, .slice aC 2 cC] 25))
  clear hb h
  have kM0 := M.out.c0
  have kM1 := M.out.c1
  go_upto_region 7 with fail
  generalize hw : w4.alloc (.cells #[.int .i64 2, .slice aC 2 cC] 25) = w54 at *
  generalize hq : w4.heap.size = pC at *
  clear hw hq
  have WL := Lib.hid (show ∃ w7 : World, w7 = w54 from ⟨_, rfl⟩)
  replace M := Lib.hid (show MtV (fun k => k < w54.heap.size) w54 pM 2 aM cM 2 (zerosM 2) from ⟨M.out.c, M.out.s.mono (fun k hk _ => hk)⟩)
  have kp := M.out.c.lt
  clear WL
  go_cut [8] from 31 to 34 (fun v wx => ∃ q a c, v = .pointer (some ⟨q, 0, none⟩) ∧ (∃ A, MtV A wx q 2 a c 2 (upM 2 (zerosM 2) 1 519)) ∧ Below w54.heap.size w54 wx)
  case first =>
    refine wp_region_noPanic ?_
    refine wp_region_held_drew (S := (fun w' => w'.cell? ⟨pM, 0, none⟩ = some (.int .i64 2) ∧ w'.cell? ⟨pM, 1, none⟩ = some (.slice aM 2 cM) ∧ Hid (Below w54.heap.size w54 w'))) (by kernel_rfl) ?_ (fun hHeld => ?_)
    · exact ⟨kM0, kM1, Lib.hid (drew_below w54)⟩
    refine wpAnyH_take (i := 0) (oi := { dst := some 31, op := Op.load 25 (Operand.tmp 5), type := 25, pos := "law.go:84", after := #[], guard := none }) (v := ?_) rfl (by kernel_rfl) (by kernel_rfl) (by kernel_rfl) (fun _ _ _ h => h) (Or.inl ⟨by rfl, ?_⟩) (by assumption) ?_
    rotate_left
    · (intro w hSw; (try dsimp only at hSw); go_simp; try with_reducible rfl)
    ((try simp only [Act.put]); (try simp only [List.setIfInBounds_toArray]); (try simp only [List.set_cons_succ]); (try simp only [List.set_cons_zero]))
    refine wpAnyH_ready (rs := [1, 4]) (by kernel_rfl) (by simp) ?_
    refine AllReadyH.cons (o := { dst := some 32, op := Op.buildSlice 52 4 #[(0, Operand.const (Value.int IntKind.i64 0)), (1, Operand.const (Value.int IntKind.i64 1)), (2, Operand.const (Value.int IntKind.i64 2)), (3, Operand.const (Value.int IntKind.i64 9))], type := 52, pos := "law.go:84", after := #[], guard := none }) rfl (fun K hK => ?_) (AllReadyH.cons (o := { dst := some 8, op := Op.alloc 25, type := 0, pos := "law.go:84", after := #[], guard := none }) rfl (fun K hK => ?_) AllReadyH.nil)
    · skip
      go_simp
      refine hK.out _ _ ?_ (fun hNew => ?_)
      · first | exact hHeld | exact ⟨cell_go hHeld.1 hb, cell_go hHeld.2.1 hb, Lib.hid ((Hid.out hHeld.2.2).trans (hb.mono (Hid.out hHeld.2.2).size))⟩ | exact ⟨cell_go hHeld.1 (below_alloc (Below.refl _ _) _), cell_go hHeld.2.1 (below_alloc (Below.refl _ _) _), Lib.hid (below_alloc (Hid.out hHeld.2.2) _)⟩ | exact ⟨cell_go HS.1 (below_alloc (Below.refl _ _) _), cell_go HS.2.1 (below_alloc (Below.refl _ _) _), Lib.hid (below_alloc (Hid.out HS.2.2) _)⟩ | exact ⟨(cell_far (by omega)).trans HS.1, (cell_far (by omega)).trans HS.2.1, Lib.hid (((Hid.out HS.2.2).setCell (by simp) _).setCell (by simp) _)⟩
      clear hK K
      replace hHeld := hNew
      clear hNew
      ((try simp only [Act.put]); (try simp only [List.setIfInBounds_toArray]); (try simp only [List.set_cons_succ]); (try simp only [List.set_cons_zero]))
      refine wpAnyH_ready (rs := [2, 4]) (by kernel_rfl) (by simp) ?_
      refine AllReadyH.cons (o := { dst := some 33, op := Op.call { callee := Callee.value (Operand.func 10), args := #[Operand.tmp 32], argTypes := #[52] }, type := 31, pos := "law.go:84", after := #[{ on := 1, ground := Ground.data }], guard := none }) rfl (fun K hK => ?_) (AllReadyH.cons (o := { dst := some 8, op := Op.alloc 25, type := 0, pos := "law.go:84", after := #[], guard := none }) rfl (fun K hK => ?_) AllReadyH.nil)
      · skip
        go_simp
        refine (of_cells (xs := [0, 1, 2, 9]) (s := 519) (four_cells (by simp) (by simp) (by simp) (by simp)) rfl (fun x hx => by simp at hx; rcases hx with rfl | rfl | rfl | rfl <;> exact ⟨by decide, by decide⟩) (by decide)).mono ?_
        rintro e w' ⟨rfl, rfl⟩
        try go_wp2_with fail
        refine hK.out _ _ ?_ (fun hNew => ?_)
        · first | exact hHeld | exact ⟨cell_go hHeld.1 hb, cell_go hHeld.2.1 hb, Lib.hid ((Hid.out hHeld.2.2).trans (hb.mono (Hid.out hHeld.2.2).size))⟩ | exact ⟨cell_go hHeld.1 (below_alloc (Below.refl _ _) _), cell_go hHeld.2.1 (below_alloc (Below.refl _ _) _), Lib.hid (below_alloc (Hid.out hHeld.2.2) _)⟩ | exact ⟨cell_go HS.1 (below_alloc (Below.refl _ _) _), cell_go HS.2.1 (below_alloc (Below.refl _ _) _), Lib.hid (below_alloc (Hid.out HS.2.2) _)⟩ | exact ⟨(cell_far (by omega)).trans HS.1, (cell_far (by omega)).trans HS.2.1, Lib.hid (((Hid.out HS.2.2).setCell (by simp) _).setCell (by simp) _)⟩
        clear hK K
        replace hHeld := hNew
        clear hNew
        ((try simp only [Act.put]); (try simp only [List.setIfInBounds_toArray]); (try simp only [List.set_cons_succ]); (try simp only [List.set_cons_zero]))
        refine wpAnyH_ready (rs := [3, 4]) (by kernel_rfl) (by simp) ?_
        refine AllReadyH.cons (o := { dst := some 34, op := Op.call { callee := Callee.value (Operand.func 9), args := #[Operand.tmp 31, Operand.const (Value.int IntKind.i64 1), Operand.tmp 33], argTypes := #[25, 3, 31] }, type := 25, pos := "law.go:84", after := #[{ on := 0, ground := Ground.data }, { on := 2, ground := Ground.data }, { on := 2, ground := Ground.chain }], guard := none }) rfl (fun K hK => ?_) (AllReadyH.cons (o := { dst := some 8, op := Op.alloc 25, type := 0, pos := "law.go:84", after := #[], guard := none }) rfl (fun K hK => ?_) AllReadyH.nil)
        · skip
          go_simp
          refine (mup_at (i := 1) (M.out.s.below (Hid.out hHeld.2.2)) (by decide) (by decide) (by decide)).mono ?_
          rintro e w5 ⟨a5, c5, rfl, h5⟩
          have H5 := Lib.hid h5.1
          have hb := h5.2
          clear h5
          try go_wp2_with fail
          refine hK.out _ _ ?_ (fun hNew => ?_)
          · first | exact hHeld | exact ⟨cell_go hHeld.1 hb, cell_go hHeld.2.1 hb, Lib.hid ((Hid.out hHeld.2.2).trans (hb.mono (Hid.out hHeld.2.2).size))⟩ | exact ⟨cell_go hHeld.1 (below_alloc (Below.refl _ _) _), cell_go hHeld.2.1 (below_alloc (Below.refl _ _) _), Lib.hid (below_alloc (Hid.out hHeld.2.2) _)⟩ | exact ⟨cell_go HS.1 (below_alloc (Below.refl _ _) _), cell_go HS.2.1 (below_alloc (Below.refl _ _) _), Lib.hid (below_alloc (Hid.out HS.2.2) _)⟩ | exact ⟨(cell_far (by omega)).trans HS.1, (cell_far (by omega)).trans HS.2.1, Lib.hid (((Hid.out HS.2.2).setCell (by simp) _).setCell (by simp) _)⟩
          clear hK K
          replace hHeld := hNew
          clear hNew
          ((try simp only [Act.put]); (try simp only [List.setIfInBounds_toArray]); (try simp only [List.set_cons_succ]); (try simp only [List.set_cons_zero]))
          refine wpAnyH_ready (rs := [4]) (by kernel_rfl) (by simp) ?_
          refine AllReadyH.cons (o := { dst := some 8, op := Op.alloc 25, type := 0, pos := "law.go:84", after := #[], guard := none }) rfl (fun K hK => ?_) AllReadyH.nil
          go_simp
          have HS := hHeld
          try go_wp2_with fail
          refine hK.out _ _ ?_ (fun hNew => ?_)
          · first | exact hHeld | exact ⟨cell_go hHeld.1 hb, cell_go hHeld.2.1 hb, Lib.hid ((Hid.out hHeld.2.2).trans (hb.mono (Hid.out hHeld.2.2).size))⟩ | exact ⟨cell_go hHeld.1 (below_alloc (Below.refl _ _) _), cell_go hHeld.2.1 (below_alloc (Below.refl _ _) _), Lib.hid (below_alloc (Hid.out hHeld.2.2) _)⟩ | exact ⟨cell_go HS.1 (below_alloc (Below.refl _ _) _), cell_go HS.2.1 (below_alloc (Below.refl _ _) _), Lib.hid (below_alloc (Hid.out HS.2.2) _)⟩ | exact ⟨(cell_far (by omega)).trans HS.1, (cell_far (by omega)).trans HS.2.1, Lib.hid (((Hid.out HS.2.2).setCell (by simp) _).setCell (by simp) _)⟩
          clear hK K
          replace hHeld := hNew
          clear hNew
          ((try simp only [Act.put]); (try simp only [List.setIfInBounds_toArray]); (try simp only [List.set_cons_succ]); (try simp only [List.set_cons_zero]))
          refine wpAnyH_ready (rs := [5]) (by kernel_rfl) (by simp) ?_
          refine AllReadyH.cons (o := { dst := none, op := Op.store 25 (Operand.tmp 8) (Operand.tmp 34), type := 0, pos := "law.go:84", after := #[{ on := 4, ground := Ground.data }, { on := 3, ground := Ground.data }, { on := 3, ground := Ground.chain }, { on := 0, ground := Ground.phase }, { on := 1, ground := Ground.phase }, { on := 2, ground := Ground.phase }, { on := 3, ground := Ground.phase }, { on := 4, ground := Ground.phase }], guard := none }) rfl (fun K hK => ?_) AllReadyH.nil
          go_simp
          refine hK.out _ _ ?_ (fun hNew => ?_)
          · first | exact hHeld | exact ⟨cell_go hHeld.1 hb, cell_go hHeld.2.1 hb, Lib.hid ((Hid.out hHeld.2.2).trans (hb.mono (Hid.out hHeld.2.2).size))⟩ | exact ⟨cell_go hHeld.1 (below_alloc (Below.refl _ _) _), cell_go hHeld.2.1 (below_alloc (Below.refl _ _) _), Lib.hid (below_alloc (Hid.out hHeld.2.2) _)⟩ | exact ⟨cell_go HS.1 (below_alloc (Below.refl _ _) _), cell_go HS.2.1 (below_alloc (Below.refl _ _) _), Lib.hid (below_alloc (Hid.out HS.2.2) _)⟩ | exact ⟨(cell_far (by omega)).trans HS.1, (cell_far (by omega)).trans HS.2.1, Lib.hid (((Hid.out HS.2.2).setCell (by simp) _).setCell (by simp) _)⟩
          clear hK K
          replace hHeld := hNew
          clear hNew
          ((try simp only [Act.put]); (try simp only [List.setIfInBounds_toArray]); (try simp only [List.set_cons_succ]); (try simp only [List.set_cons_zero]))
          refine wpAnyH_done (by kernel_rfl) ?_ _
          refine NoPanic.normal ?_
          go_wp2_with fail
          go_meet
          refine ⟨w5.heap.size, a5, c5, rfl, ⟨_, MtV.new H5.out _⟩, below_alloc (Hid.out HS.2.2) _⟩
        · skip
          go_simp
          refine hK.out _ _ ?_ (fun hNew => ?_)
          · first | exact hHeld | exact ⟨cell_go hHeld.1 hb, cell_go hHeld.2.1 hb, Lib.hid ((Hid.out hHeld.2.2).trans (hb.mono (Hid.out hHeld.2.2).size))⟩ | exact ⟨cell_go hHeld.1 (below_alloc (Below.refl _ _) _), cell_go hHeld.2.1 (below_alloc (Below.refl _ _) _), Lib.hid (below_alloc (Hid.out hHeld.2.2) _)⟩ | exact ⟨cell_go HS.1 (below_alloc (Below.refl _ _) _), cell_go HS.2.1 (below_alloc (Below.refl _ _) _), Lib.hid (below_alloc (Hid.out HS.2.2) _)⟩ | exact ⟨(cell_far (by omega)).trans HS.1, (cell_far (by omega)).trans HS.2.1, Lib.hid (((Hid.out HS.2.2).setCell (by simp) _).setCell (by simp) _)⟩
          clear hK K
          replace hHeld := hNew
          clear hNew
          ((try simp only [Act.put]); (try simp only [List.setIfInBounds_toArray]); (try simp only [List.set_cons_succ]); (try simp only [List.set_cons_zero]))
          refine wpAnyH_ready (rs := [3]) (by kernel_rfl) (by simp) ?_
          refine AllReadyH.cons (o := { dst := some 34, op := Op.call { callee := Callee.value (Operand.func 9), args := #[Operand.tmp 31, Operand.const (Value.int IntKind.i64 1), Operand.tmp 33], argTypes := #[25, 3, 31] }, type := 25, pos := "law.go:84", after := #[{ on := 0, ground := Ground.data }, { on := 2, ground := Ground.data }, { on := 2, ground := Ground.chain }], guard := none }) rfl (fun K hK => ?_) AllReadyH.nil
          go_simp
          refine (mup_at (i := 1) (M.out.s.below (Hid.out hHeld.2.2)) (by decide) (by decide) (by decide)).mono ?_
          rintro e w5 ⟨a5, c5, rfl, h5⟩
          have Z := two_go (q := w54.heap.size + 1) (u := .int .i64 0) (v := .slice none 0 0) (by simp) (by simp) (by simp) h5.2
          have z0 := Z.c 0 (by decide)
          have z1 := Z.c 1 (by decide)
          have zf0 := Z.fz 0
          have zf1 := Z.fz 1
          simp only at z0 z1
          have ZC := Lib.hid Z
          have H5 : Hid (∃ A, SqAt A w5 a5 c5 2 (upM 2 (zerosM 2) 1 519) ∧ ¬ A (w54.heap.size + 1)) := Lib.hid ⟨_, h5.1, fun h => Or.elim h (fun h => by omega) (fun h => by have h2 := h; simp at h2; try omega)⟩
          have hb := h5.2
          clear Z h5
          try go_wp2_with fail
          refine hK.out _ _ ?_ (fun hNew => ?_)
          · first | exact hHeld | exact ⟨cell_go hHeld.1 hb, cell_go hHeld.2.1 hb, Lib.hid ((Hid.out hHeld.2.2).trans (hb.mono (Hid.out hHeld.2.2).size))⟩ | exact ⟨cell_go hHeld.1 (below_alloc (Below.refl _ _) _), cell_go hHeld.2.1 (below_alloc (Below.refl _ _) _), Lib.hid (below_alloc (Hid.out hHeld.2.2) _)⟩ | exact ⟨cell_go HS.1 (below_alloc (Below.refl _ _) _), cell_go HS.2.1 (below_alloc (Below.refl _ _) _), Lib.hid (below_alloc (Hid.out HS.2.2) _)⟩ | exact ⟨(cell_far (by omega)).trans HS.1, (cell_far (by omega)).trans HS.2.1, Lib.hid (((Hid.out HS.2.2).setCell (by simp) _).setCell (by simp) _)⟩
          clear hK K
          replace hHeld := hNew
          clear hNew
          ((try simp only [Act.put]); (try simp only [List.setIfInBounds_toArray]); (try simp only [List.set_cons_succ]); (try simp only [List.set_cons_zero]))
          refine wpAnyH_ready (rs := [5]) (by kernel_rfl) (by simp) ?_
          refine AllReadyH.cons (o := { dst := none, op := Op.store 25 (Operand.tmp 8) (Operand.tmp 34), type := 0, pos := "law.go:84", after := #[{ on := 4, ground := Ground.data }, { on := 3, ground := Ground.data }, { on := 3, ground := Ground.chain }, { on := 0, ground := Ground.phase }, { on := 1, ground := Ground.phase }, { on := 2, ground := Ground.phase }, { on := 3, ground := Ground.phase }, { on := 4, ground := Ground.phase }], guard := none }) rfl (fun K hK => ?_) AllReadyH.nil
          go_simp
          have HS := hHeld
          try go_wp2_with fail
          refine hK.out _ _ ?_ (fun hNew => ?_)
          · first | exact hHeld | exact ⟨cell_go hHeld.1 hb, cell_go hHeld.2.1 hb, Lib.hid ((Hid.out hHeld.2.2).trans (hb.mono (Hid.out hHeld.2.2).size))⟩ | exact ⟨cell_go hHeld.1 (below_alloc (Below.refl _ _) _), cell_go hHeld.2.1 (below_alloc (Below.refl _ _) _), Lib.hid (below_alloc (Hid.out hHeld.2.2) _)⟩ | exact ⟨cell_go HS.1 (below_alloc (Below.refl _ _) _), cell_go HS.2.1 (below_alloc (Below.refl _ _) _), Lib.hid (below_alloc (Hid.out HS.2.2) _)⟩ | exact ⟨(cell_far (by omega)).trans HS.1, (cell_far (by omega)).trans HS.2.1, Lib.hid (((Hid.out HS.2.2).setCell (by simp) _).setCell (by simp) _)⟩
          clear hK K
          replace hHeld := hNew
          clear hNew
          ((try simp only [Act.put]); (try simp only [List.setIfInBounds_toArray]); (try simp only [List.set_cons_succ]); (try simp only [List.set_cons_zero]))
          refine wpAnyH_done (by kernel_rfl) ?_ _
          refine NoPanic.normal ?_
          go_wp2_with fail
          go_meet
          refine ⟨w54.heap.size + 1, a5, c5, rfl, H5.out.elim fun A h => ⟨A, MtV.store ZC.out h.1 h.2⟩, ?_⟩
          exact ((Hid.out HS.2.2).setCell (by simp) _).setCell (by simp) _
      · skip
        go_simp
        refine hK.out _ _ ?_ (fun hNew => ?_)
        · first | exact hHeld | exact ⟨cell_go hHeld.1 hb, cell_go hHeld.2.1 hb, Lib.hid ((Hid.out hHeld.2.2).trans (hb.mono (Hid.out hHeld.2.2).size))⟩ | exact ⟨cell_go hHeld.1 (below_alloc (Below.refl _ _) _), cell_go hHeld.2.1 (below_alloc (Below.refl _ _) _), Lib.hid (below_alloc (Hid.out hHeld.2.2) _)⟩ | exact ⟨cell_go HS.1 (below_alloc (Below.refl _ _) _), cell_go HS.2.1 (below_alloc (Below.refl _ _) _), Lib.hid (below_alloc (Hid.out HS.2.2) _)⟩ | exact ⟨(cell_far (by omega)).trans HS.1, (cell_far (by omega)).trans HS.2.1, Lib.hid (((Hid.out HS.2.2).setCell (by simp) _).setCell (by simp) _)⟩
        clear hK K
        replace hHeld := hNew
        clear hNew
        ((try simp only [Act.put]); (try simp only [List.setIfInBounds_toArray]); (try simp only [List.set_cons_succ]); (try simp only [List.set_cons_zero]))
        refine wpAnyH_ready (rs := [2]) (by kernel_rfl) (by simp) ?_
        refine AllReadyH.cons (o := { dst := some 33, op := Op.call { callee := Callee.value (Operand.func 10), args := #[Operand.tmp 32], argTypes := #[52] }, type := 31, pos := "law.go:84", after := #[{ on := 1, ground := Ground.data }], guard := none }) rfl (fun K hK => ?_) AllReadyH.nil
        go_simp
        refine (of_cells (xs := [0, 1, 2, 9]) (s := 519) (four_cells (by simp) (by simp) (by simp) (by simp)) rfl (fun x hx => by simp at hx; rcases hx with rfl | rfl | rfl | rfl <;> exact ⟨by decide, by decide⟩) (by decide)).mono ?_
        rintro e w' ⟨rfl, rfl⟩
        try go_wp2_with fail
        refine hK.out _ _ ?_ (fun hNew => ?_)
        · first | exact hHeld | exact ⟨cell_go hHeld.1 hb, cell_go hHeld.2.1 hb, Lib.hid ((Hid.out hHeld.2.2).trans (hb.mono (Hid.out hHeld.2.2).size))⟩ | exact ⟨cell_go hHeld.1 (below_alloc (Below.refl _ _) _), cell_go hHeld.2.1 (below_alloc (Below.refl _ _) _), Lib.hid (below_alloc (Hid.out hHeld.2.2) _)⟩ | exact ⟨cell_go HS.1 (below_alloc (Below.refl _ _) _), cell_go HS.2.1 (below_alloc (Below.refl _ _) _), Lib.hid (below_alloc (Hid.out HS.2.2) _)⟩ | exact ⟨(cell_far (by omega)).trans HS.1, (cell_far (by omega)).trans HS.2.1, Lib.hid (((Hid.out HS.2.2).setCell (by simp) _).setCell (by simp) _)⟩
        clear hK K
        replace hHeld := hNew
        clear hNew
        ((try simp only [Act.put]); (try simp only [List.setIfInBounds_toArray]); (try simp only [List.set_cons_succ]); (try simp only [List.set_cons_zero]))
        refine wpAnyH_ready (rs := [3]) (by kernel_rfl) (by simp) ?_
        refine AllReadyH.cons (o := { dst := some 34, op := Op.call { callee := Callee.value (Operand.func 9), args := #[Operand.tmp 31, Operand.const (Value.int IntKind.i64 1), Operand.tmp 33], argTypes := #[25, 3, 31] }, type := 25, pos := "law.go:84", after := #[{ on := 0, ground := Ground.data }, { on := 2, ground := Ground.data }, { on := 2, ground := Ground.chain }], guard := none }) rfl (fun K hK => ?_) AllReadyH.nil
        go_simp
        refine (mup_at (i := 1) (M.out.s.below (Hid.out hHeld.2.2)) (by decide) (by decide) (by decide)).mono ?_
        rintro e w5 ⟨a5, c5, rfl, h5⟩
        have Z := two_go (q := w54.heap.size + 1) (u := .int .i64 0) (v := .slice none 0 0) (by simp) (by simp) (by simp) h5.2
        have z0 := Z.c 0 (by decide)
        have z1 := Z.c 1 (by decide)
        have zf0 := Z.fz 0
        have zf1 := Z.fz 1
        simp only at z0 z1
        have ZC := Lib.hid Z
        have H5 : Hid (∃ A, SqAt A w5 a5 c5 2 (upM 2 (zerosM 2) 1 519) ∧ ¬ A (w54.heap.size + 1)) := Lib.hid ⟨_, h5.1, fun h => Or.elim h (fun h => by omega) (fun h => by have h2 := h; simp at h2; try omega)⟩
        have hb := h5.2
        clear Z h5
        try go_wp2_with fail
        refine hK.out _ _ ?_ (fun hNew => ?_)
        · first | exact hHeld | exact ⟨cell_go hHeld.1 hb, cell_go hHeld.2.1 hb, Lib.hid ((Hid.out hHeld.2.2).trans (hb.mono (Hid.out hHeld.2.2).size))⟩ | exact ⟨cell_go hHeld.1 (below_alloc (Below.refl _ _) _), cell_go hHeld.2.1 (below_alloc (Below.refl _ _) _), Lib.hid (below_alloc (Hid.out hHeld.2.2) _)⟩ | exact ⟨cell_go HS.1 (below_alloc (Below.refl _ _) _), cell_go HS.2.1 (below_alloc (Below.refl _ _) _), Lib.hid (below_alloc (Hid.out HS.2.2) _)⟩ | exact ⟨(cell_far (by omega)).trans HS.1, (cell_far (by omega)).trans HS.2.1, Lib.hid (((Hid.out HS.2.2).setCell (by simp) _).setCell (by simp) _)⟩
        clear hK K
        replace hHeld := hNew
        clear hNew
        ((try simp only [Act.put]); (try simp only [List.setIfInBounds_toArray]); (try simp only [List.set_cons_succ]); (try simp only [List.set_cons_zero]))
        refine wpAnyH_ready (rs := [5]) (by kernel_rfl) (by simp) ?_
        refine AllReadyH.cons (o := { dst := none, op := Op.store 25 (Operand.tmp 8) (Operand.tmp 34), type := 0, pos := "law.go:84", after := #[{ on := 4, ground := Ground.data }, { on := 3, ground := Ground.data }, { on := 3, ground := Ground.chain }, { on := 0, ground := Ground.phase }, { on := 1, ground := Ground.phase }, { on := 2, ground := Ground.phase }, { on := 3, ground := Ground.phase }, { on := 4, ground := Ground.phase }], guard := none }) rfl (fun K hK => ?_) AllReadyH.nil
        go_simp
        have HS := hHeld
        try go_wp2_with fail
        refine hK.out _ _ ?_ (fun hNew => ?_)
        · first | exact hHeld | exact ⟨cell_go hHeld.1 hb, cell_go hHeld.2.1 hb, Lib.hid ((Hid.out hHeld.2.2).trans (hb.mono (Hid.out hHeld.2.2).size))⟩ | exact ⟨cell_go hHeld.1 (below_alloc (Below.refl _ _) _), cell_go hHeld.2.1 (below_alloc (Below.refl _ _) _), Lib.hid (below_alloc (Hid.out hHeld.2.2) _)⟩ | exact ⟨cell_go HS.1 (below_alloc (Below.refl _ _) _), cell_go HS.2.1 (below_alloc (Below.refl _ _) _), Lib.hid (below_alloc (Hid.out HS.2.2) _)⟩ | exact ⟨(cell_far (by omega)).trans HS.1, (cell_far (by omega)).trans HS.2.1, Lib.hid (((Hid.out HS.2.2).setCell (by simp) _).setCell (by simp) _)⟩
        clear hK K
        replace hHeld := hNew
        clear hNew
        ((try simp only [Act.put]); (try simp only [List.setIfInBounds_toArray]); (try simp only [List.set_cons_succ]); (try simp only [List.set_cons_zero]))
        refine wpAnyH_done (by kernel_rfl) ?_ _
        refine NoPanic.normal ?_
        go_wp2_with fail
        go_meet
        refine ⟨w54.heap.size + 1, a5, c5, rfl, H5.out.elim fun A h => ⟨A, MtV.store ZC.out h.1 h.2⟩, ?_⟩
        exact ((Hid.out HS.2.2).setCell (by simp) _).setCell (by simp) _
    · skip
      go_simp
      refine hK.out _ _ ?_ (fun hNew => ?_)
      · first | exact hHeld | exact ⟨cell_go hHeld.1 hb, cell_go hHeld.2.1 hb, Lib.hid ((Hid.out hHeld.2.2).trans (hb.mono (Hid.out hHeld.2.2).size))⟩ | exact ⟨cell_go hHeld.1 (below_alloc (Below.refl _ _) _), cell_go hHeld.2.1 (below_alloc (Below.refl _ _) _), Lib.hid (below_alloc (Hid.out hHeld.2.2) _)⟩ | exact ⟨cell_go HS.1 (below_alloc (Below.refl _ _) _), cell_go HS.2.1 (below_alloc (Below.refl _ _) _), Lib.hid (below_alloc (Hid.out HS.2.2) _)⟩ | exact ⟨(cell_far (by omega)).trans HS.1, (cell_far (by omega)).trans HS.2.1, Lib.hid (((Hid.out HS.2.2).setCell (by simp) _).setCell (by simp) _)⟩
      clear hK K
      replace hHeld := hNew
      clear hNew
      ((try simp only [Act.put]); (try simp only [List.setIfInBounds_toArray]); (try simp only [List.set_cons_succ]); (try simp only [List.set_cons_zero]))
      refine wpAnyH_ready (rs := [1]) (by kernel_rfl) (by simp) ?_
      refine AllReadyH.cons (o := { dst := some 32, op := Op.buildSlice 52 4 #[(0, Operand.const (Value.int IntKind.i64 0)), (1, Operand.const (Value.int IntKind.i64 1)), (2, Operand.const (Value.int IntKind.i64 2)), (3, Operand.const (Value.int IntKind.i64 9))], type := 52, pos := "law.go:84", after := #[], guard := none }) rfl (fun K hK => ?_) AllReadyH.nil
      go_simp
      refine hK.out _ _ ?_ (fun hNew => ?_)
      · first | exact hHeld | exact ⟨cell_go hHeld.1 hb, cell_go hHeld.2.1 hb, Lib.hid ((Hid.out hHeld.2.2).trans (hb.mono (Hid.out hHeld.2.2).size))⟩ | exact ⟨cell_go hHeld.1 (below_alloc (Below.refl _ _) _), cell_go hHeld.2.1 (below_alloc (Below.refl _ _) _), Lib.hid (below_alloc (Hid.out hHeld.2.2) _)⟩ | exact ⟨cell_go HS.1 (below_alloc (Below.refl _ _) _), cell_go HS.2.1 (below_alloc (Below.refl _ _) _), Lib.hid (below_alloc (Hid.out HS.2.2) _)⟩ | exact ⟨(cell_far (by omega)).trans HS.1, (cell_far (by omega)).trans HS.2.1, Lib.hid (((Hid.out HS.2.2).setCell (by simp) _).setCell (by simp) _)⟩
      clear hK K
      replace hHeld := hNew
      clear hNew
      ((try simp only [Act.put]); (try simp only [List.setIfInBounds_toArray]); (try simp only [List.set_cons_succ]); (try simp only [List.set_cons_zero]))
      refine wpAnyH_ready (rs := [2]) (by kernel_rfl) (by simp) ?_
      refine AllReadyH.cons (o := { dst := some 33, op := Op.call { callee := Callee.value (Operand.func 10), args := #[Operand.tmp 32], argTypes := #[52] }, type := 31, pos := "law.go:84", after := #[{ on := 1, ground := Ground.data }], guard := none }) rfl (fun K hK => ?_) AllReadyH.nil
      go_simp
      refine (of_cells (xs := [0, 1, 2, 9]) (s := 519) (four_cells (by simp) (by simp) (by simp) (by simp)) rfl (fun x hx => by simp at hx; rcases hx with rfl | rfl | rfl | rfl <;> exact ⟨by decide, by decide⟩) (by decide)).mono ?_
      rintro e w' ⟨rfl, rfl⟩
      try go_wp2_with fail
      refine hK.out _ _ ?_ (fun hNew => ?_)
      · first | exact hHeld | exact ⟨cell_go hHeld.1 hb, cell_go hHeld.2.1 hb, Lib.hid ((Hid.out hHeld.2.2).trans (hb.mono (Hid.out hHeld.2.2).size))⟩ | exact ⟨cell_go hHeld.1 (below_alloc (Below.refl _ _) _), cell_go hHeld.2.1 (below_alloc (Below.refl _ _) _), Lib.hid (below_alloc (Hid.out hHeld.2.2) _)⟩ | exact ⟨cell_go HS.1 (below_alloc (Below.refl _ _) _), cell_go HS.2.1 (below_alloc (Below.refl _ _) _), Lib.hid (below_alloc (Hid.out HS.2.2) _)⟩ | exact ⟨(cell_far (by omega)).trans HS.1, (cell_far (by omega)).trans HS.2.1, Lib.hid (((Hid.out HS.2.2).setCell (by simp) _).setCell (by simp) _)⟩
      clear hK K
      replace hHeld := hNew
      clear hNew
      ((try simp only [Act.put]); (try simp only [List.setIfInBounds_toArray]); (try simp only [List.set_cons_succ]); (try simp only [List.set_cons_zero]))
      refine wpAnyH_ready (rs := [3]) (by kernel_rfl) (by simp) ?_
      refine AllReadyH.cons (o := { dst := some 34, op := Op.call { callee := Callee.value (Operand.func 9), args := #[Operand.tmp 31, Operand.const (Value.int IntKind.i64 1), Operand.tmp 33], argTypes := #[25, 3, 31] }, type := 25, pos := "law.go:84", after := #[{ on := 0, ground := Ground.data }, { on := 2, ground := Ground.data }, { on := 2, ground := Ground.chain }], guard := none }) rfl (fun K hK => ?_) AllReadyH.nil
      go_simp
      refine (mup_at (i := 1) (M.out.s.below (Hid.out hHeld.2.2)) (by decide) (by decide) (by decide)).mono ?_
      rintro e w5 ⟨a5, c5, rfl, h5⟩
      have Z := two_go (q := w54.heap.size) (u := .int .i64 0) (v := .slice none 0 0) (by simp) (by simp) (by simp) h5.2
      have z0 := Z.c 0 (by decide)
      have z1 := Z.c 1 (by decide)
      have zf0 := Z.fz 0
      have zf1 := Z.fz 1
      simp only at z0 z1
      have ZC := Lib.hid Z
      have H5 : Hid (∃ A, SqAt A w5 a5 c5 2 (upM 2 (zerosM 2) 1 519) ∧ ¬ A (w54.heap.size)) := Lib.hid ⟨_, h5.1, fun h => Or.elim h (fun h => by omega) (fun h => by have h2 := h; simp at h2; try omega)⟩
      have hb := h5.2
      clear Z h5
      try go_wp2_with fail
      refine hK.out _ _ ?_ (fun hNew => ?_)
      · first | exact hHeld | exact ⟨cell_go hHeld.1 hb, cell_go hHeld.2.1 hb, Lib.hid ((Hid.out hHeld.2.2).trans (hb.mono (Hid.out hHeld.2.2).size))⟩ | exact ⟨cell_go hHeld.1 (below_alloc (Below.refl _ _) _), cell_go hHeld.2.1 (below_alloc (Below.refl _ _) _), Lib.hid (below_alloc (Hid.out hHeld.2.2) _)⟩ | exact ⟨cell_go HS.1 (below_alloc (Below.refl _ _) _), cell_go HS.2.1 (below_alloc (Below.refl _ _) _), Lib.hid (below_alloc (Hid.out HS.2.2) _)⟩ | exact ⟨(cell_far (by omega)).trans HS.1, (cell_far (by omega)).trans HS.2.1, Lib.hid (((Hid.out HS.2.2).setCell (by simp) _).setCell (by simp) _)⟩
      clear hK K
      replace hHeld := hNew
      clear hNew
      ((try simp only [Act.put]); (try simp only [List.setIfInBounds_toArray]); (try simp only [List.set_cons_succ]); (try simp only [List.set_cons_zero]))
      refine wpAnyH_ready (rs := [5]) (by kernel_rfl) (by simp) ?_
      refine AllReadyH.cons (o := { dst := none, op := Op.store 25 (Operand.tmp 8) (Operand.tmp 34), type := 0, pos := "law.go:84", after := #[{ on := 4, ground := Ground.data }, { on := 3, ground := Ground.data }, { on := 3, ground := Ground.chain }, { on := 0, ground := Ground.phase }, { on := 1, ground := Ground.phase }, { on := 2, ground := Ground.phase }, { on := 3, ground := Ground.phase }, { on := 4, ground := Ground.phase }], guard := none }) rfl (fun K hK => ?_) AllReadyH.nil
      go_simp
      have HS := hHeld
      try go_wp2_with fail
      refine hK.out _ _ ?_ (fun hNew => ?_)
      · first | exact hHeld | exact ⟨cell_go hHeld.1 hb, cell_go hHeld.2.1 hb, Lib.hid ((Hid.out hHeld.2.2).trans (hb.mono (Hid.out hHeld.2.2).size))⟩ | exact ⟨cell_go hHeld.1 (below_alloc (Below.refl _ _) _), cell_go hHeld.2.1 (below_alloc (Below.refl _ _) _), Lib.hid (below_alloc (Hid.out hHeld.2.2) _)⟩ | exact ⟨cell_go HS.1 (below_alloc (Below.refl _ _) _), cell_go HS.2.1 (below_alloc (Below.refl _ _) _), Lib.hid (below_alloc (Hid.out HS.2.2) _)⟩ | exact ⟨(cell_far (by omega)).trans HS.1, (cell_far (by omega)).trans HS.2.1, Lib.hid (((Hid.out HS.2.2).setCell (by simp) _).setCell (by simp) _)⟩
      clear hK K
      replace hHeld := hNew
      clear hNew
      ((try simp only [Act.put]); (try simp only [List.setIfInBounds_toArray]); (try simp only [List.set_cons_succ]); (try simp only [List.set_cons_zero]))
      refine wpAnyH_done (by kernel_rfl) ?_ _
      refine NoPanic.normal ?_
      go_wp2_with fail
      go_meet
      refine ⟨w54.heap.size, a5, c5, rfl, H5.out.elim fun A h => ⟨A, MtV.store ZC.out h.1 h.2⟩, ?_⟩
      exact ((Hid.out HS.2.2).setCell (by simp) _).setCell (by simp) _
  case rest =>
    as_aux_lemma =>
      obtain ⟨pD, aD, cD, rfl, ⟨AD, h3⟩, hb⟩ := hcut
      rw [show upM 2 (zerosM 2) 1 519 = [[0, 0], [1, 1]] by decide] at h3
      replace B := Lib.hid (B.out.trans (hb.mono B.out.size))
      have D := Lib.hid h3
      replace M := Lib.hid (M.out.below hb)
      replace C := Lib.hid (C.out.below hb)
      clear h3 hb kp kM0 kM1
      go_wp2_with fail
      refine (mnew_yes (n := 3) (z := 3) rfl (by decide) (by decide)).mono ?_
      rintro e w5 ⟨aO, cO, rfl, h⟩
      have hb := h.2
      replace M := Lib.hid ((M.out.below hb).below (below_alloc (Below.refl _ _) (.cells #[.int .i64 3, .slice aO 3 cO] 25)))
      replace C := Lib.hid ((C.out.below hb).below (below_alloc (Below.refl _ _) (.cells #[.int .i64 3, .slice aO 3 cO] 25)))
      replace D := Lib.hid ((D.out.below hb).below (below_alloc (Below.refl _ _) (.cells #[.int .i64 3, .slice aO 3 cO] 25)))
      have O := Lib.hid (MtV.new (z := 3) h.1 25)
      replace B := Lib.hid ((B.out.trans (hb.mono B.out.size)).alloc (B.out.trans (hb.mono B.out.size)).size (.cells #[.int .i64 3, .slice aO 3 cO] 25))
      clear hb h
      have kM0 := M.out.c0
      have kM1 := M.out.c1
      have kO0 := O.out.c0
      have kO1 := O.out.c1
      go_wp2_with fail
      generalize hw : w5.alloc (.cells #[.int .i64 3, .slice aO 3 cO] 25) = w55 at *
      generalize hq : w5.heap.size = pO at *
      clear hw hq
      clear kM0 kM1 kO0 kO1
      refine (mjoin_no (z1 := 2) (z2 := 3) M.out.s O.out.s (by decide)).mono ?_
      rintro e w6 ⟨rfl, hb⟩
      replace M := Lib.hid ((M.out.below hb).below (below_alloc (Below.refl _ _) (.cells #[.int .i64 0, .slice none 0 0] 25)))
      replace C := Lib.hid ((C.out.below hb).below (below_alloc (Below.refl _ _) (.cells #[.int .i64 0, .slice none 0 0] 25)))
      replace D := Lib.hid ((D.out.below hb).below (below_alloc (Below.refl _ _) (.cells #[.int .i64 0, .slice none 0 0] 25)))
      replace O := Lib.hid ((O.out.below hb).below (below_alloc (Below.refl _ _) (.cells #[.int .i64 0, .slice none 0 0] 25)))
      replace B := Lib.hid ((B.out.trans (hb.mono B.out.size)).alloc (B.out.trans (hb.mono B.out.size)).size (.cells #[.int .i64 0, .slice none 0 0] 25))
      clear hb
      have kM0 := M.out.c0
      have kM1 := M.out.c1
      have kD0 := D.out.c0
      have kD1 := D.out.c1
      go_upto_region 10 with fail
      generalize hw : w6.alloc (.cells #[.int .i64 0, .slice none 0 0] 25) = w56 at *
      generalize hq : w6.heap.size = pE at *
      clear hw hq
      replace M := Lib.hid (show MtV (fun k => k < w56.heap.size) w56 pM 2 aM cM 2 (zerosM 2) from ⟨M.out.c, M.out.s.mono (fun k hk _ => hk)⟩)
      replace D := Lib.hid (show MtV (fun k => k < w56.heap.size) w56 pD 2 aD cD 2 [[0, 0], [1, 1]] from ⟨D.out.c, D.out.s.mono (fun k hk _ => hk)⟩)
      have kp := M.out.c.lt
      have kq := D.out.c.lt
      go_cut [13, 14] from 45 to 51 (fun v13 v14 wx => v14 = .int .i64 0 ∧ ∃ q a c, v13 = .pointer (some ⟨q, 0, none⟩) ∧ (∃ A, MtV A wx q 2 a c 2 [[1, 0], [1, 1]]) ∧ Below w56.heap.size w56 wx)
      case first =>
        refine wp_region_noPanic ?_
        refine wp_region_held_drew (S := (fun w' => w'.cell? ⟨pM, 0, none⟩ = some (.int .i64 2) ∧ w'.cell? ⟨pM, 1, none⟩ = some (.slice aM 2 cM) ∧ w'.cell? ⟨pD, 0, none⟩ = some (.int .i64 2) ∧ w'.cell? ⟨pD, 1, none⟩ = some (.slice aD 2 cD) ∧ Hid (Below w56.heap.size w56 w'))) (by kernel_rfl) ?_ (fun hHeld => ?_)
        · exact ⟨kM0, kM1, kD0, kD1, Lib.hid (drew_below w56)⟩
        refine wpAnyH_take (i := 0) (oi := { dst := some 46, op := Op.load 25 (Operand.tmp 8), type := 25, pos := "law.go:87", after := #[], guard := none }) (v := ?_) rfl (by kernel_rfl) (by kernel_rfl) (by kernel_rfl) (fun _ _ _ h => h) (Or.inl ⟨by rfl, ?_⟩) (by assumption) ?_
        rotate_left
        · (intro w hSw; (try dsimp only at hSw); go_simp; try with_reducible rfl)
        ((try simp only [Act.put]); (try simp only [List.setIfInBounds_toArray]); (try simp only [List.set_cons_succ]); (try simp only [List.set_cons_zero]))
        refine wpAnyH_take (i := 1) (oi := { dst := some 47, op := Op.load 25 (Operand.tmp 5), type := 25, pos := "law.go:87", after := #[], guard := none }) (v := ?_) rfl (by kernel_rfl) (by kernel_rfl) (by kernel_rfl) (fun _ _ _ h => h) (Or.inl ⟨by rfl, ?_⟩) (by assumption) ?_
        rotate_left
        · (intro w hSw; (try dsimp only at hSw); go_simp; try with_reducible rfl)
        ((try simp only [Act.put]); (try simp only [List.setIfInBounds_toArray]); (try simp only [List.set_cons_succ]); (try simp only [List.set_cons_zero]))
        refine wpAnyH_ready (rs := [2, 7]) (by kernel_rfl) (by simp) ?_
        refine AllReadyH.cons (o := { dst := some 48, op := Op.call { callee := Callee.value (Operand.func 9), args := #[Operand.tmp 47, Operand.const (Value.int IntKind.i64 0), Operand.const (Value.int IntKind.u64 1)], argTypes := #[25, 3, 31] }, type := 25, pos := "law.go:87", after := #[{ on := 1, ground := Ground.data }], guard := none }) rfl (fun K hK => ?_) (AllReadyH.cons (o := { dst := some 13, op := Op.alloc 25, type := 0, pos := "law.go:87", after := #[], guard := none }) rfl (fun K hK => ?_) AllReadyH.nil)
        · skip
          go_simp
          refine (mup_at (i := 0) (M.out.s.below (Hid.out hHeld.2.2.2.2)) (by decide) (by decide) (by decide)).mono ?_
          rintro e w5 ⟨a5, c5, rfl, h5⟩
          have hb := h5.2
          rw [show upM 2 (zerosM 2) 0 1 = [[1, 0], [0, 0]] by decide] at h5
          have U5 := Lib.hid (h5.1.mono (A' := fun k => k < w5.heap.size) (fun k hk _ => hk))
          clear h5
          try go_wp2_with fail
          refine hK.out _ _ ?_ (fun hNew => ?_)
          · first | exact hHeld | exact ⟨cell_go hHeld.1 hb, cell_go hHeld.2.1 hb, cell_go hHeld.2.2.1 hb, cell_go hHeld.2.2.2.1 hb, Lib.hid ((Hid.out hHeld.2.2.2.2).trans (hb.mono (Hid.out hHeld.2.2.2.2).size))⟩ | exact ⟨cell_go hHeld.1 (below_alloc (Below.refl _ _) _), cell_go hHeld.2.1 (below_alloc (Below.refl _ _) _), cell_go hHeld.2.2.1 (below_alloc (Below.refl _ _) _), cell_go hHeld.2.2.2.1 (below_alloc (Below.refl _ _) _), Lib.hid (below_alloc (Hid.out hHeld.2.2.2.2) _)⟩ | exact ⟨cell_go HS.1 (below_alloc (Below.refl _ _) _), cell_go HS.2.1 (below_alloc (Below.refl _ _) _), cell_go HS.2.2.1 (below_alloc (Below.refl _ _) _), cell_go HS.2.2.2.1 (below_alloc (Below.refl _ _) _), Lib.hid (below_alloc (Hid.out HS.2.2.2.2) _)⟩ | exact ⟨(cell_far (by omega)).trans HS.1, (cell_far (by omega)).trans HS.2.1, (cell_far (by omega)).trans HS.2.2.1, (cell_far (by omega)).trans HS.2.2.2.1, Lib.hid (((Hid.out HS.2.2.2.2).setCell (by first | omega | (simp; done) | (simp; omega)) _).setCell (by first | omega | (simp; done) | (simp; omega)) _)⟩
          clear hK K
          replace hHeld := hNew
          clear hNew
          ((try simp only [Act.put]); (try simp only [List.setIfInBounds_toArray]); (try simp only [List.set_cons_succ]); (try simp only [List.set_cons_zero]))
          refine wpAnyH_ready (rs := [3, 7]) (by kernel_rfl) (by simp) ?_
          refine AllReadyH.cons (o := { dst := some 49, op := Op.call { callee := Callee.value (Operand.func 11), args := #[Operand.tmp 46, Operand.tmp 48], argTypes := #[25, 25] }, type := 27, pos := "law.go:87", after := #[{ on := 0, ground := Ground.data }, { on := 2, ground := Ground.data }, { on := 2, ground := Ground.chain }], guard := none }) rfl (fun K hK => ?_) (AllReadyH.cons (o := { dst := some 13, op := Op.alloc 25, type := 0, pos := "law.go:87", after := #[], guard := none }) rfl (fun K hK => ?_) AllReadyH.nil)
          · skip
            go_simp
            refine (mjoin_yes (z1 := 2) (z2 := 2) (D.out.s.below (Hid.out hHeld.2.2.2.2)) U5.out (by decide)).mono ?_
            rintro e w6 ⟨a6, c6, rfl, h6⟩
            rw [show joinM [[0, 0], [1, 1]] [[1, 0], [0, 0]] = [[1, 0], [1, 1]] by decide] at h6
            have H6 := Lib.hid h6.1
            have hb := h6.2
            clear h6
            try go_wp2_with fail
            refine hK.out _ _ ?_ (fun hNew => ?_)
            · first | exact hHeld | exact ⟨cell_go hHeld.1 hb, cell_go hHeld.2.1 hb, cell_go hHeld.2.2.1 hb, cell_go hHeld.2.2.2.1 hb, Lib.hid ((Hid.out hHeld.2.2.2.2).trans (hb.mono (Hid.out hHeld.2.2.2.2).size))⟩ | exact ⟨cell_go hHeld.1 (below_alloc (Below.refl _ _) _), cell_go hHeld.2.1 (below_alloc (Below.refl _ _) _), cell_go hHeld.2.2.1 (below_alloc (Below.refl _ _) _), cell_go hHeld.2.2.2.1 (below_alloc (Below.refl _ _) _), Lib.hid (below_alloc (Hid.out hHeld.2.2.2.2) _)⟩ | exact ⟨cell_go HS.1 (below_alloc (Below.refl _ _) _), cell_go HS.2.1 (below_alloc (Below.refl _ _) _), cell_go HS.2.2.1 (below_alloc (Below.refl _ _) _), cell_go HS.2.2.2.1 (below_alloc (Below.refl _ _) _), Lib.hid (below_alloc (Hid.out HS.2.2.2.2) _)⟩ | exact ⟨(cell_far (by omega)).trans HS.1, (cell_far (by omega)).trans HS.2.1, (cell_far (by omega)).trans HS.2.2.1, (cell_far (by omega)).trans HS.2.2.2.1, Lib.hid (((Hid.out HS.2.2.2.2).setCell (by first | omega | (simp; done) | (simp; omega)) _).setCell (by first | omega | (simp; done) | (simp; omega)) _)⟩
            clear hK K
            replace hHeld := hNew
            clear hNew
            ((try simp only [Act.put]); (try simp only [List.setIfInBounds_toArray]); (try simp only [List.set_cons_succ]); (try simp only [List.set_cons_zero]))
            refine wpAnyH_take (i := 4) (oi := { dst := some 45, op := Op.move (Operand.tmp 49), type := 27, pos := "law.go:87", after := #[{ on := 3, ground := Ground.data }], guard := none }) (v := ?_) rfl (by kernel_rfl) (by kernel_rfl) (by kernel_rfl) (fun _ _ _ h => h) (Or.inl ⟨by rfl, ?_⟩) (by assumption) ?_
            rotate_left
            · (intro w hSw; (try dsimp only at hSw); go_simp; try with_reducible rfl)
            ((try simp only [Act.put]); (try simp only [List.setIfInBounds_toArray]); (try simp only [List.set_cons_succ]); (try simp only [List.set_cons_zero]))
            refine wpAnyH_take (i := 5) (oi := { dst := some 50, op := Op.extract (Operand.tmp 45) 0, type := 25, pos := "law.go:87", after := #[{ on := 4, ground := Ground.data }], guard := none }) (v := ?_) rfl (by kernel_rfl) (by kernel_rfl) (by kernel_rfl) (fun _ _ _ h => h) (Or.inl ⟨by rfl, ?_⟩) (by assumption) ?_
            rotate_left
            · (intro w hSw; (try dsimp only at hSw); go_simp; try with_reducible rfl)
            ((try simp only [Act.put]); (try simp only [List.setIfInBounds_toArray]); (try simp only [List.set_cons_succ]); (try simp only [List.set_cons_zero]))
            refine wpAnyH_take (i := 6) (oi := { dst := some 51, op := Op.extract (Operand.tmp 45) 1, type := 26, pos := "law.go:87", after := #[{ on := 4, ground := Ground.data }, { on := 8, ground := Ground.gcOnly Departure.lateStores }], guard := none }) (v := ?_) rfl (by kernel_rfl) (by kernel_rfl) (by kernel_rfl) (fun _ _ _ h => h) (Or.inl ⟨by rfl, ?_⟩) (by assumption) ?_
            rotate_left
            · (intro w hSw; (try dsimp only at hSw); go_simp; try with_reducible rfl)
            ((try simp only [Act.put]); (try simp only [List.setIfInBounds_toArray]); (try simp only [List.set_cons_succ]); (try simp only [List.set_cons_zero]))
            refine wpAnyH_ready (rs := [7]) (by kernel_rfl) (by simp) ?_
            refine AllReadyH.cons (o := { dst := some 13, op := Op.alloc 25, type := 0, pos := "law.go:87", after := #[], guard := none }) rfl (fun K hK => ?_) AllReadyH.nil
            go_simp
            have HS := hHeld
            try go_wp2_with fail
            refine hK.out _ _ ?_ (fun hNew => ?_)
            · first | exact hHeld | exact ⟨cell_go hHeld.1 hb, cell_go hHeld.2.1 hb, cell_go hHeld.2.2.1 hb, cell_go hHeld.2.2.2.1 hb, Lib.hid ((Hid.out hHeld.2.2.2.2).trans (hb.mono (Hid.out hHeld.2.2.2.2).size))⟩ | exact ⟨cell_go hHeld.1 (below_alloc (Below.refl _ _) _), cell_go hHeld.2.1 (below_alloc (Below.refl _ _) _), cell_go hHeld.2.2.1 (below_alloc (Below.refl _ _) _), cell_go hHeld.2.2.2.1 (below_alloc (Below.refl _ _) _), Lib.hid (below_alloc (Hid.out hHeld.2.2.2.2) _)⟩ | exact ⟨cell_go HS.1 (below_alloc (Below.refl _ _) _), cell_go HS.2.1 (below_alloc (Below.refl _ _) _), cell_go HS.2.2.1 (below_alloc (Below.refl _ _) _), cell_go HS.2.2.2.1 (below_alloc (Below.refl _ _) _), Lib.hid (below_alloc (Hid.out HS.2.2.2.2) _)⟩ | exact ⟨(cell_far (by omega)).trans HS.1, (cell_far (by omega)).trans HS.2.1, (cell_far (by omega)).trans HS.2.2.1, (cell_far (by omega)).trans HS.2.2.2.1, Lib.hid (((Hid.out HS.2.2.2.2).setCell (by first | omega | (simp; done) | (simp; omega)) _).setCell (by first | omega | (simp; done) | (simp; omega)) _)⟩
            clear hK K
            replace hHeld := hNew
            clear hNew
            ((try simp only [Act.put]); (try simp only [List.setIfInBounds_toArray]); (try simp only [List.set_cons_succ]); (try simp only [List.set_cons_zero]))
            refine wpAnyH_ready (rs := [8]) (by kernel_rfl) (by simp) ?_
            refine AllReadyH.cons (o := { dst := none, op := Op.store 25 (Operand.tmp 13) (Operand.tmp 50), type := 0, pos := "law.go:87", after := #[{ on := 7, ground := Ground.data }, { on := 5, ground := Ground.data }, { on := 3, ground := Ground.chain }, { on := 0, ground := Ground.phase }, { on := 1, ground := Ground.phase }, { on := 2, ground := Ground.phase }, { on := 3, ground := Ground.phase }, { on := 4, ground := Ground.phase }, { on := 5, ground := Ground.phase }, { on := 6, ground := Ground.textOnly Departure.lateStores }, { on := 7, ground := Ground.phase }], guard := none }) rfl (fun K hK => ?_) AllReadyH.nil
            go_simp
            refine hK.out _ _ ?_ (fun hNew => ?_)
            · first | exact hHeld | exact ⟨cell_go hHeld.1 hb, cell_go hHeld.2.1 hb, cell_go hHeld.2.2.1 hb, cell_go hHeld.2.2.2.1 hb, Lib.hid ((Hid.out hHeld.2.2.2.2).trans (hb.mono (Hid.out hHeld.2.2.2.2).size))⟩ | exact ⟨cell_go hHeld.1 (below_alloc (Below.refl _ _) _), cell_go hHeld.2.1 (below_alloc (Below.refl _ _) _), cell_go hHeld.2.2.1 (below_alloc (Below.refl _ _) _), cell_go hHeld.2.2.2.1 (below_alloc (Below.refl _ _) _), Lib.hid (below_alloc (Hid.out hHeld.2.2.2.2) _)⟩ | exact ⟨cell_go HS.1 (below_alloc (Below.refl _ _) _), cell_go HS.2.1 (below_alloc (Below.refl _ _) _), cell_go HS.2.2.1 (below_alloc (Below.refl _ _) _), cell_go HS.2.2.2.1 (below_alloc (Below.refl _ _) _), Lib.hid (below_alloc (Hid.out HS.2.2.2.2) _)⟩ | exact ⟨(cell_far (by omega)).trans HS.1, (cell_far (by omega)).trans HS.2.1, (cell_far (by omega)).trans HS.2.2.1, (cell_far (by omega)).trans HS.2.2.2.1, Lib.hid (((Hid.out HS.2.2.2.2).setCell (by first | omega | (simp; done) | (simp; omega)) _).setCell (by first | omega | (simp; done) | (simp; omega)) _)⟩
            clear hK K
            replace hHeld := hNew
            clear hNew
            ((try simp only [Act.put]); (try simp only [List.setIfInBounds_toArray]); (try simp only [List.set_cons_succ]); (try simp only [List.set_cons_zero]))
            refine wpAnyH_take (i := 9) (oi := { dst := some 14, op := Op.assign (Operand.tmp 51), type := 26, pos := "law.go:87", after := #[{ on := 6, ground := Ground.data }, { on := 8, ground := Ground.chain }, { on := 0, ground := Ground.phase }, { on := 1, ground := Ground.phase }, { on := 2, ground := Ground.phase }, { on := 3, ground := Ground.phase }, { on := 4, ground := Ground.phase }, { on := 5, ground := Ground.phase }, { on := 6, ground := Ground.phase }, { on := 7, ground := Ground.phase }, { on := 8, ground := Ground.phase }], guard := none }) (v := ?_) rfl (by kernel_rfl) (by kernel_rfl) (by kernel_rfl) (fun _ _ _ h => h) (Or.inl ⟨by rfl, ?_⟩) (by assumption) ?_
            rotate_left
            · (intro w hSw; (try dsimp only at hSw); go_simp; try with_reducible rfl)
            ((try simp only [Act.put]); (try simp only [List.setIfInBounds_toArray]); (try simp only [List.set_cons_succ]); (try simp only [List.set_cons_zero]))
            refine wpAnyH_done (by kernel_rfl) ?_ _
            refine NoPanic.normal ?_
            go_wp2_with fail
            go_meet
            refine ⟨rfl, w6.heap.size, a6, c6, rfl, ⟨_, MtV.new H6.out _⟩, below_alloc (Hid.out HS.2.2.2.2) _⟩
          · skip
            go_simp
            have HS := hHeld
            have SZ := (Hid.out HS.2.2.2.2).size
            try go_wp2_with fail
            refine hK.out _ _ ?_ (fun hNew => ?_)
            · first | exact hHeld | exact ⟨cell_go hHeld.1 hb, cell_go hHeld.2.1 hb, cell_go hHeld.2.2.1 hb, cell_go hHeld.2.2.2.1 hb, Lib.hid ((Hid.out hHeld.2.2.2.2).trans (hb.mono (Hid.out hHeld.2.2.2.2).size))⟩ | exact ⟨cell_go hHeld.1 (below_alloc (Below.refl _ _) _), cell_go hHeld.2.1 (below_alloc (Below.refl _ _) _), cell_go hHeld.2.2.1 (below_alloc (Below.refl _ _) _), cell_go hHeld.2.2.2.1 (below_alloc (Below.refl _ _) _), Lib.hid (below_alloc (Hid.out hHeld.2.2.2.2) _)⟩ | exact ⟨cell_go HS.1 (below_alloc (Below.refl _ _) _), cell_go HS.2.1 (below_alloc (Below.refl _ _) _), cell_go HS.2.2.1 (below_alloc (Below.refl _ _) _), cell_go HS.2.2.2.1 (below_alloc (Below.refl _ _) _), Lib.hid (below_alloc (Hid.out HS.2.2.2.2) _)⟩ | exact ⟨(cell_far (by omega)).trans HS.1, (cell_far (by omega)).trans HS.2.1, (cell_far (by omega)).trans HS.2.2.1, (cell_far (by omega)).trans HS.2.2.2.1, Lib.hid (((Hid.out HS.2.2.2.2).setCell (by first | omega | (simp; done) | (simp; omega)) _).setCell (by first | omega | (simp; done) | (simp; omega)) _)⟩
            clear hK K
            replace hHeld := hNew
            clear hNew
            ((try simp only [Act.put]); (try simp only [List.setIfInBounds_toArray]); (try simp only [List.set_cons_succ]); (try simp only [List.set_cons_zero]))
            refine wpAnyH_ready (rs := [3]) (by kernel_rfl) (by simp) ?_
            refine AllReadyH.cons (o := { dst := some 49, op := Op.call { callee := Callee.value (Operand.func 11), args := #[Operand.tmp 46, Operand.tmp 48], argTypes := #[25, 25] }, type := 27, pos := "law.go:87", after := #[{ on := 0, ground := Ground.data }, { on := 2, ground := Ground.data }, { on := 2, ground := Ground.chain }], guard := none }) rfl (fun K hK => ?_) AllReadyH.nil
            go_simp
            refine (mjoin_yes (z1 := 2) (z2 := 2) (D.out.s.below (Hid.out hHeld.2.2.2.2)) (U5.out.below (below_alloc (Below.refl _ _) _)) (by decide)).mono ?_
            rintro e w6 ⟨a6, c6, rfl, h6⟩
            rw [show joinM [[0, 0], [1, 1]] [[1, 0], [0, 0]] = [[1, 0], [1, 1]] by decide] at h6
            have Z := two_go (q := w5.heap.size) (u := .int .i64 0) (v := .slice none 0 0) (by simp) (by simp) (by simp) h6.2
            have z0 := Z.c 0 (by decide)
            have z1 := Z.c 1 (by decide)
            have zf0 := Z.fz 0
            have zf1 := Z.fz 1
            simp only at z0 z1
            have ZC := Lib.hid Z
            have H6 : Hid (∃ A, SqAt A w6 a6 c6 2 [[1, 0], [1, 1]] ∧ ¬ A (w5.heap.size)) := Lib.hid ⟨_, h6.1, fun h => Or.elim h (fun h => Or.elim h (fun h => by omega) (fun h => by omega)) (fun h => by have h2 := h; simp at h2; try omega)⟩
            have hb := h6.2
            clear Z h6 HS
            try go_wp2_with fail
            refine hK.out _ _ ?_ (fun hNew => ?_)
            · first | exact hHeld | exact ⟨cell_go hHeld.1 hb, cell_go hHeld.2.1 hb, cell_go hHeld.2.2.1 hb, cell_go hHeld.2.2.2.1 hb, Lib.hid ((Hid.out hHeld.2.2.2.2).trans (hb.mono (Hid.out hHeld.2.2.2.2).size))⟩ | exact ⟨cell_go hHeld.1 (below_alloc (Below.refl _ _) _), cell_go hHeld.2.1 (below_alloc (Below.refl _ _) _), cell_go hHeld.2.2.1 (below_alloc (Below.refl _ _) _), cell_go hHeld.2.2.2.1 (below_alloc (Below.refl _ _) _), Lib.hid (below_alloc (Hid.out hHeld.2.2.2.2) _)⟩ | exact ⟨cell_go HS.1 (below_alloc (Below.refl _ _) _), cell_go HS.2.1 (below_alloc (Below.refl _ _) _), cell_go HS.2.2.1 (below_alloc (Below.refl _ _) _), cell_go HS.2.2.2.1 (below_alloc (Below.refl _ _) _), Lib.hid (below_alloc (Hid.out HS.2.2.2.2) _)⟩ | exact ⟨(cell_far (by omega)).trans HS.1, (cell_far (by omega)).trans HS.2.1, (cell_far (by omega)).trans HS.2.2.1, (cell_far (by omega)).trans HS.2.2.2.1, Lib.hid (((Hid.out HS.2.2.2.2).setCell (by first | omega | (simp; done) | (simp; omega)) _).setCell (by first | omega | (simp; done) | (simp; omega)) _)⟩
            clear hK K
            replace hHeld := hNew
            clear hNew
            ((try simp only [Act.put]); (try simp only [List.setIfInBounds_toArray]); (try simp only [List.set_cons_succ]); (try simp only [List.set_cons_zero]))
            refine wpAnyH_take (i := 4) (oi := { dst := some 45, op := Op.move (Operand.tmp 49), type := 27, pos := "law.go:87", after := #[{ on := 3, ground := Ground.data }], guard := none }) (v := ?_) rfl (by kernel_rfl) (by kernel_rfl) (by kernel_rfl) (fun _ _ _ h => h) (Or.inl ⟨by rfl, ?_⟩) (by assumption) ?_
            rotate_left
            · (intro w hSw; (try dsimp only at hSw); go_simp; try with_reducible rfl)
            ((try simp only [Act.put]); (try simp only [List.setIfInBounds_toArray]); (try simp only [List.set_cons_succ]); (try simp only [List.set_cons_zero]))
            refine wpAnyH_take (i := 5) (oi := { dst := some 50, op := Op.extract (Operand.tmp 45) 0, type := 25, pos := "law.go:87", after := #[{ on := 4, ground := Ground.data }], guard := none }) (v := ?_) rfl (by kernel_rfl) (by kernel_rfl) (by kernel_rfl) (fun _ _ _ h => h) (Or.inl ⟨by rfl, ?_⟩) (by assumption) ?_
            rotate_left
            · (intro w hSw; (try dsimp only at hSw); go_simp; try with_reducible rfl)
            ((try simp only [Act.put]); (try simp only [List.setIfInBounds_toArray]); (try simp only [List.set_cons_succ]); (try simp only [List.set_cons_zero]))
            refine wpAnyH_take (i := 6) (oi := { dst := some 51, op := Op.extract (Operand.tmp 45) 1, type := 26, pos := "law.go:87", after := #[{ on := 4, ground := Ground.data }, { on := 8, ground := Ground.gcOnly Departure.lateStores }], guard := none }) (v := ?_) rfl (by kernel_rfl) (by kernel_rfl) (by kernel_rfl) (fun _ _ _ h => h) (Or.inl ⟨by rfl, ?_⟩) (by assumption) ?_
            rotate_left
            · (intro w hSw; (try dsimp only at hSw); go_simp; try with_reducible rfl)
            ((try simp only [Act.put]); (try simp only [List.setIfInBounds_toArray]); (try simp only [List.set_cons_succ]); (try simp only [List.set_cons_zero]))
            refine wpAnyH_ready (rs := [8]) (by kernel_rfl) (by simp) ?_
            refine AllReadyH.cons (o := { dst := none, op := Op.store 25 (Operand.tmp 13) (Operand.tmp 50), type := 0, pos := "law.go:87", after := #[{ on := 7, ground := Ground.data }, { on := 5, ground := Ground.data }, { on := 3, ground := Ground.chain }, { on := 0, ground := Ground.phase }, { on := 1, ground := Ground.phase }, { on := 2, ground := Ground.phase }, { on := 3, ground := Ground.phase }, { on := 4, ground := Ground.phase }, { on := 5, ground := Ground.phase }, { on := 6, ground := Ground.textOnly Departure.lateStores }, { on := 7, ground := Ground.phase }], guard := none }) rfl (fun K hK => ?_) AllReadyH.nil
            go_simp
            have HS := hHeld
            try go_wp2_with fail
            refine hK.out _ _ ?_ (fun hNew => ?_)
            · first | exact hHeld | exact ⟨cell_go hHeld.1 hb, cell_go hHeld.2.1 hb, cell_go hHeld.2.2.1 hb, cell_go hHeld.2.2.2.1 hb, Lib.hid ((Hid.out hHeld.2.2.2.2).trans (hb.mono (Hid.out hHeld.2.2.2.2).size))⟩ | exact ⟨cell_go hHeld.1 (below_alloc (Below.refl _ _) _), cell_go hHeld.2.1 (below_alloc (Below.refl _ _) _), cell_go hHeld.2.2.1 (below_alloc (Below.refl _ _) _), cell_go hHeld.2.2.2.1 (below_alloc (Below.refl _ _) _), Lib.hid (below_alloc (Hid.out hHeld.2.2.2.2) _)⟩ | exact ⟨cell_go HS.1 (below_alloc (Below.refl _ _) _), cell_go HS.2.1 (below_alloc (Below.refl _ _) _), cell_go HS.2.2.1 (below_alloc (Below.refl _ _) _), cell_go HS.2.2.2.1 (below_alloc (Below.refl _ _) _), Lib.hid (below_alloc (Hid.out HS.2.2.2.2) _)⟩ | exact ⟨(cell_far (by omega)).trans HS.1, (cell_far (by omega)).trans HS.2.1, (cell_far (by omega)).trans HS.2.2.1, (cell_far (by omega)).trans HS.2.2.2.1, Lib.hid (((Hid.out HS.2.2.2.2).setCell (by first | omega | (simp; done) | (simp; omega)) _).setCell (by first | omega | (simp; done) | (simp; omega)) _)⟩
            clear hK K
            replace hHeld := hNew
            clear hNew
            ((try simp only [Act.put]); (try simp only [List.setIfInBounds_toArray]); (try simp only [List.set_cons_succ]); (try simp only [List.set_cons_zero]))
            refine wpAnyH_take (i := 9) (oi := { dst := some 14, op := Op.assign (Operand.tmp 51), type := 26, pos := "law.go:87", after := #[{ on := 6, ground := Ground.data }, { on := 8, ground := Ground.chain }, { on := 0, ground := Ground.phase }, { on := 1, ground := Ground.phase }, { on := 2, ground := Ground.phase }, { on := 3, ground := Ground.phase }, { on := 4, ground := Ground.phase }, { on := 5, ground := Ground.phase }, { on := 6, ground := Ground.phase }, { on := 7, ground := Ground.phase }, { on := 8, ground := Ground.phase }], guard := none }) (v := ?_) rfl (by kernel_rfl) (by kernel_rfl) (by kernel_rfl) (fun _ _ _ h => h) (Or.inl ⟨by rfl, ?_⟩) (by assumption) ?_
            rotate_left
            · (intro w hSw; (try dsimp only at hSw); go_simp; try with_reducible rfl)
            ((try simp only [Act.put]); (try simp only [List.setIfInBounds_toArray]); (try simp only [List.set_cons_succ]); (try simp only [List.set_cons_zero]))
            refine wpAnyH_done (by kernel_rfl) ?_ _
            refine NoPanic.normal ?_
            go_wp2_with fail
            go_meet
            refine ⟨rfl, w5.heap.size, a6, c6, rfl, H6.out.elim fun A h => ⟨A, MtV.store ZC.out h.1 h.2⟩, ?_⟩
            exact ((Hid.out HS.2.2.2.2).setCell (by first | omega | (simp; done) | (simp; omega)) _).setCell (by first | omega | (simp; done) | (simp; omega)) _
        · skip
          go_simp
          refine hK.out _ _ ?_ (fun hNew => ?_)
          · first | exact hHeld | exact ⟨cell_go hHeld.1 hb, cell_go hHeld.2.1 hb, cell_go hHeld.2.2.1 hb, cell_go hHeld.2.2.2.1 hb, Lib.hid ((Hid.out hHeld.2.2.2.2).trans (hb.mono (Hid.out hHeld.2.2.2.2).size))⟩ | exact ⟨cell_go hHeld.1 (below_alloc (Below.refl _ _) _), cell_go hHeld.2.1 (below_alloc (Below.refl _ _) _), cell_go hHeld.2.2.1 (below_alloc (Below.refl _ _) _), cell_go hHeld.2.2.2.1 (below_alloc (Below.refl _ _) _), Lib.hid (below_alloc (Hid.out hHeld.2.2.2.2) _)⟩ | exact ⟨cell_go HS.1 (below_alloc (Below.refl _ _) _), cell_go HS.2.1 (below_alloc (Below.refl _ _) _), cell_go HS.2.2.1 (below_alloc (Below.refl _ _) _), cell_go HS.2.2.2.1 (below_alloc (Below.refl _ _) _), Lib.hid (below_alloc (Hid.out HS.2.2.2.2) _)⟩ | exact ⟨(cell_far (by omega)).trans HS.1, (cell_far (by omega)).trans HS.2.1, (cell_far (by omega)).trans HS.2.2.1, (cell_far (by omega)).trans HS.2.2.2.1, Lib.hid (((Hid.out HS.2.2.2.2).setCell (by first | omega | (simp; done) | (simp; omega)) _).setCell (by first | omega | (simp; done) | (simp; omega)) _)⟩
          clear hK K
          replace hHeld := hNew
          clear hNew
          ((try simp only [Act.put]); (try simp only [List.setIfInBounds_toArray]); (try simp only [List.set_cons_succ]); (try simp only [List.set_cons_zero]))
          refine wpAnyH_ready (rs := [2]) (by kernel_rfl) (by simp) ?_
          refine AllReadyH.cons (o := { dst := some 48, op := Op.call { callee := Callee.value (Operand.func 9), args := #[Operand.tmp 47, Operand.const (Value.int IntKind.i64 0), Operand.const (Value.int IntKind.u64 1)], argTypes := #[25, 3, 31] }, type := 25, pos := "law.go:87", after := #[{ on := 1, ground := Ground.data }], guard := none }) rfl (fun K hK => ?_) AllReadyH.nil
          go_simp
          refine (mup_at (i := 0) (M.out.s.below (Hid.out hHeld.2.2.2.2)) (by decide) (by decide) (by decide)).mono ?_
          rintro e w5 ⟨a5, c5, rfl, h5⟩
          have hb := h5.2
          have Z := two_go (q := w56.heap.size) (u := .int .i64 0) (v := .slice none 0 0) (by simp) (by simp) (by simp) h5.2
          have z0 := Z.c 0 (by decide)
          have z1 := Z.c 1 (by decide)
          have zf0 := Z.fz 0
          have zf1 := Z.fz 1
          simp only at z0 z1
          have ZC := Lib.hid Z
          rw [show upM 2 (zerosM 2) 0 1 = [[1, 0], [0, 0]] by decide] at h5
          have H5 : Hid (∃ A, SqAt A w5 a5 c5 2 [[1, 0], [0, 0]] ∧ ¬ A (w56.heap.size)) := Lib.hid ⟨_, h5.1, fun h => Or.elim h (fun h => by omega) (fun h => by have h2 := h; simp at h2; try omega)⟩
          clear Z h5
          try go_wp2_with fail
          refine hK.out _ _ ?_ (fun hNew => ?_)
          · first | exact hHeld | exact ⟨cell_go hHeld.1 hb, cell_go hHeld.2.1 hb, cell_go hHeld.2.2.1 hb, cell_go hHeld.2.2.2.1 hb, Lib.hid ((Hid.out hHeld.2.2.2.2).trans (hb.mono (Hid.out hHeld.2.2.2.2).size))⟩ | exact ⟨cell_go hHeld.1 (below_alloc (Below.refl _ _) _), cell_go hHeld.2.1 (below_alloc (Below.refl _ _) _), cell_go hHeld.2.2.1 (below_alloc (Below.refl _ _) _), cell_go hHeld.2.2.2.1 (below_alloc (Below.refl _ _) _), Lib.hid (below_alloc (Hid.out hHeld.2.2.2.2) _)⟩ | exact ⟨cell_go HS.1 (below_alloc (Below.refl _ _) _), cell_go HS.2.1 (below_alloc (Below.refl _ _) _), cell_go HS.2.2.1 (below_alloc (Below.refl _ _) _), cell_go HS.2.2.2.1 (below_alloc (Below.refl _ _) _), Lib.hid (below_alloc (Hid.out HS.2.2.2.2) _)⟩ | exact ⟨(cell_far (by omega)).trans HS.1, (cell_far (by omega)).trans HS.2.1, (cell_far (by omega)).trans HS.2.2.1, (cell_far (by omega)).trans HS.2.2.2.1, Lib.hid (((Hid.out HS.2.2.2.2).setCell (by first | omega | (simp; done) | (simp; omega)) _).setCell (by first | omega | (simp; done) | (simp; omega)) _)⟩
          clear hK K
          replace hHeld := hNew
          clear hNew
          ((try simp only [Act.put]); (try simp only [List.setIfInBounds_toArray]); (try simp only [List.set_cons_succ]); (try simp only [List.set_cons_zero]))
          refine wpAnyH_ready (rs := [3]) (by kernel_rfl) (by simp) ?_
          refine AllReadyH.cons (o := { dst := some 49, op := Op.call { callee := Callee.value (Operand.func 11), args := #[Operand.tmp 46, Operand.tmp 48], argTypes := #[25, 25] }, type := 27, pos := "law.go:87", after := #[{ on := 0, ground := Ground.data }, { on := 2, ground := Ground.data }, { on := 2, ground := Ground.chain }], guard := none }) rfl (fun K hK => ?_) AllReadyH.nil
          go_simp
          obtain ⟨A5, s5, n5⟩ := H5.out
          have LT5 := ZC.out.lt
          refine (mjoin_yes (z1 := 2) (z2 := 2) (D.out.s.below (Hid.out hHeld.2.2.2.2)) s5 (by decide)).mono ?_
          rintro e w6 ⟨a6, c6, rfl, h6⟩
          rw [show joinM [[0, 0], [1, 1]] [[1, 0], [0, 0]] = [[1, 0], [1, 1]] by decide] at h6
          have Z := ZC.out.below h6.2
          clear ZC z0 z1 zf0 zf1
          have z0 := Z.c 0 (by decide)
          have z1 := Z.c 1 (by decide)
          have zf0 := Z.fz 0
          have zf1 := Z.fz 1
          simp only at z0 z1
          have ZC := Lib.hid Z
          have H6 : Hid (∃ A, SqAt A w6 a6 c6 2 [[1, 0], [1, 1]] ∧ ¬ A (w56.heap.size)) := Lib.hid ⟨_, h6.1, fun h => Or.elim h (fun h => Or.elim h (fun h => by omega) n5) (fun h => by have := LT5; omega)⟩
          have hb := h6.2
          clear Z h6 H5 s5 n5 LT5
          try go_wp2_with fail
          refine hK.out _ _ ?_ (fun hNew => ?_)
          · first | exact hHeld | exact ⟨cell_go hHeld.1 hb, cell_go hHeld.2.1 hb, cell_go hHeld.2.2.1 hb, cell_go hHeld.2.2.2.1 hb, Lib.hid ((Hid.out hHeld.2.2.2.2).trans (hb.mono (Hid.out hHeld.2.2.2.2).size))⟩ | exact ⟨cell_go hHeld.1 (below_alloc (Below.refl _ _) _), cell_go hHeld.2.1 (below_alloc (Below.refl _ _) _), cell_go hHeld.2.2.1 (below_alloc (Below.refl _ _) _), cell_go hHeld.2.2.2.1 (below_alloc (Below.refl _ _) _), Lib.hid (below_alloc (Hid.out hHeld.2.2.2.2) _)⟩ | exact ⟨cell_go HS.1 (below_alloc (Below.refl _ _) _), cell_go HS.2.1 (below_alloc (Below.refl _ _) _), cell_go HS.2.2.1 (below_alloc (Below.refl _ _) _), cell_go HS.2.2.2.1 (below_alloc (Below.refl _ _) _), Lib.hid (below_alloc (Hid.out HS.2.2.2.2) _)⟩ | exact ⟨(cell_far (by omega)).trans HS.1, (cell_far (by omega)).trans HS.2.1, (cell_far (by omega)).trans HS.2.2.1, (cell_far (by omega)).trans HS.2.2.2.1, Lib.hid (((Hid.out HS.2.2.2.2).setCell (by first | omega | (simp; done) | (simp; omega)) _).setCell (by first | omega | (simp; done) | (simp; omega)) _)⟩
          clear hK K
          replace hHeld := hNew
          clear hNew
          ((try simp only [Act.put]); (try simp only [List.setIfInBounds_toArray]); (try simp only [List.set_cons_succ]); (try simp only [List.set_cons_zero]))
          refine wpAnyH_take (i := 4) (oi := { dst := some 45, op := Op.move (Operand.tmp 49), type := 27, pos := "law.go:87", after := #[{ on := 3, ground := Ground.data }], guard := none }) (v := ?_) rfl (by kernel_rfl) (by kernel_rfl) (by kernel_rfl) (fun _ _ _ h => h) (Or.inl ⟨by rfl, ?_⟩) (by assumption) ?_
          rotate_left
          · (intro w hSw; (try dsimp only at hSw); go_simp; try with_reducible rfl)
          ((try simp only [Act.put]); (try simp only [List.setIfInBounds_toArray]); (try simp only [List.set_cons_succ]); (try simp only [List.set_cons_zero]))
          refine wpAnyH_take (i := 5) (oi := { dst := some 50, op := Op.extract (Operand.tmp 45) 0, type := 25, pos := "law.go:87", after := #[{ on := 4, ground := Ground.data }], guard := none }) (v := ?_) rfl (by kernel_rfl) (by kernel_rfl) (by kernel_rfl) (fun _ _ _ h => h) (Or.inl ⟨by rfl, ?_⟩) (by assumption) ?_
          rotate_left
          · (intro w hSw; (try dsimp only at hSw); go_simp; try with_reducible rfl)
          ((try simp only [Act.put]); (try simp only [List.setIfInBounds_toArray]); (try simp only [List.set_cons_succ]); (try simp only [List.set_cons_zero]))
          refine wpAnyH_take (i := 6) (oi := { dst := some 51, op := Op.extract (Operand.tmp 45) 1, type := 26, pos := "law.go:87", after := #[{ on := 4, ground := Ground.data }, { on := 8, ground := Ground.gcOnly Departure.lateStores }], guard := none }) (v := ?_) rfl (by kernel_rfl) (by kernel_rfl) (by kernel_rfl) (fun _ _ _ h => h) (Or.inl ⟨by rfl, ?_⟩) (by assumption) ?_
          rotate_left
          · (intro w hSw; (try dsimp only at hSw); go_simp; try with_reducible rfl)
          ((try simp only [Act.put]); (try simp only [List.setIfInBounds_toArray]); (try simp only [List.set_cons_succ]); (try simp only [List.set_cons_zero]))
          refine wpAnyH_ready (rs := [8]) (by kernel_rfl) (by simp) ?_
          refine AllReadyH.cons (o := { dst := none, op := Op.store 25 (Operand.tmp 13) (Operand.tmp 50), type := 0, pos := "law.go:87", after := #[{ on := 7, ground := Ground.data }, { on := 5, ground := Ground.data }, { on := 3, ground := Ground.chain }, { on := 0, ground := Ground.phase }, { on := 1, ground := Ground.phase }, { on := 2, ground := Ground.phase }, { on := 3, ground := Ground.phase }, { on := 4, ground := Ground.phase }, { on := 5, ground := Ground.phase }, { on := 6, ground := Ground.textOnly Departure.lateStores }, { on := 7, ground := Ground.phase }], guard := none }) rfl (fun K hK => ?_) AllReadyH.nil
          go_simp
          have HS := hHeld
          try go_wp2_with fail
          refine hK.out _ _ ?_ (fun hNew => ?_)
          · first | exact hHeld | exact ⟨cell_go hHeld.1 hb, cell_go hHeld.2.1 hb, cell_go hHeld.2.2.1 hb, cell_go hHeld.2.2.2.1 hb, Lib.hid ((Hid.out hHeld.2.2.2.2).trans (hb.mono (Hid.out hHeld.2.2.2.2).size))⟩ | exact ⟨cell_go hHeld.1 (below_alloc (Below.refl _ _) _), cell_go hHeld.2.1 (below_alloc (Below.refl _ _) _), cell_go hHeld.2.2.1 (below_alloc (Below.refl _ _) _), cell_go hHeld.2.2.2.1 (below_alloc (Below.refl _ _) _), Lib.hid (below_alloc (Hid.out hHeld.2.2.2.2) _)⟩ | exact ⟨cell_go HS.1 (below_alloc (Below.refl _ _) _), cell_go HS.2.1 (below_alloc (Below.refl _ _) _), cell_go HS.2.2.1 (below_alloc (Below.refl _ _) _), cell_go HS.2.2.2.1 (below_alloc (Below.refl _ _) _), Lib.hid (below_alloc (Hid.out HS.2.2.2.2) _)⟩ | exact ⟨(cell_far (by omega)).trans HS.1, (cell_far (by omega)).trans HS.2.1, (cell_far (by omega)).trans HS.2.2.1, (cell_far (by omega)).trans HS.2.2.2.1, Lib.hid (((Hid.out HS.2.2.2.2).setCell (by first | omega | (simp; done) | (simp; omega)) _).setCell (by first | omega | (simp; done) | (simp; omega)) _)⟩
          clear hK K
          replace hHeld := hNew
          clear hNew
          ((try simp only [Act.put]); (try simp only [List.setIfInBounds_toArray]); (try simp only [List.set_cons_succ]); (try simp only [List.set_cons_zero]))
          refine wpAnyH_take (i := 9) (oi := { dst := some 14, op := Op.assign (Operand.tmp 51), type := 26, pos := "law.go:87", after := #[{ on := 6, ground := Ground.data }, { on := 8, ground := Ground.chain }, { on := 0, ground := Ground.phase }, { on := 1, ground := Ground.phase }, { on := 2, ground := Ground.phase }, { on := 3, ground := Ground.phase }, { on := 4, ground := Ground.phase }, { on := 5, ground := Ground.phase }, { on := 6, ground := Ground.phase }, { on := 7, ground := Ground.phase }, { on := 8, ground := Ground.phase }], guard := none }) (v := ?_) rfl (by kernel_rfl) (by kernel_rfl) (by kernel_rfl) (fun _ _ _ h => h) (Or.inl ⟨by rfl, ?_⟩) (by assumption) ?_
          rotate_left
          · (intro w hSw; (try dsimp only at hSw); go_simp; try with_reducible rfl)
          ((try simp only [Act.put]); (try simp only [List.setIfInBounds_toArray]); (try simp only [List.set_cons_succ]); (try simp only [List.set_cons_zero]))
          refine wpAnyH_done (by kernel_rfl) ?_ _
          refine NoPanic.normal ?_
          go_wp2_with fail
          go_meet
          refine ⟨rfl, w56.heap.size, a6, c6, rfl, H6.out.elim fun A h => ⟨A, MtV.store ZC.out h.1 h.2⟩, ?_⟩
          exact ((Hid.out HS.2.2.2.2).setCell (by first | omega | (simp; done) | (simp; omega)) _).setCell (by first | omega | (simp; done) | (simp; omega)) _
      case rest =>
        as_aux_lemma =>
          obtain ⟨rfl, pF, aF, cF, rfl, ⟨AF, h3⟩, hb⟩ := hcut
          have F := Lib.hid h3
          clear kp kq kM0 kM1 kD0 kD1
          replace M := Lib.hid (M.out.below hb)
          replace C := Lib.hid (C.out.below hb)
          replace D := Lib.hid (D.out.below hb)
          replace O := Lib.hid (O.out.below hb)
          replace B := Lib.hid (B.out.trans (hb.mono B.out.size))
          clear h3 hb
          have kM0 := M.out.c0
          have kM1 := M.out.c1
          have kC0 := C.out.c0
          have kC1 := C.out.c1
          have kD0 := D.out.c0
          have kD1 := D.out.c1
          have kO0 := O.out.c0
          have kO1 := O.out.c1
          have kF0 := F.out.c0
          have kF1 := F.out.c1
          go_upto_region 11 with fail
          refine wp_region_noPanic ?_
          refine wp_region_held_drew (S := (fun w' => w'.cell? ⟨pC, 0, none⟩ = some (.int .i64 2) ∧ w'.cell? ⟨pC, 1, none⟩ = some (.slice aC 2 cC) ∧ w'.cell? ⟨pM, 0, none⟩ = some (.int .i64 2) ∧ w'.cell? ⟨pM, 1, none⟩ = some (.slice aM 2 cM) ∧ w'.cell? ⟨pD, 0, none⟩ = some (.int .i64 2) ∧ w'.cell? ⟨pD, 1, none⟩ = some (.slice aD 2 cD) ∧ w'.cell? ⟨pO, 0, none⟩ = some (.int .i64 3) ∧ w'.cell? ⟨pO, 1, none⟩ = some (.slice aO 3 cO) ∧ w'.cell? ⟨pF, 0, none⟩ = some (.int .i64 2) ∧ w'.cell? ⟨pF, 1, none⟩ = some (.slice aF 2 cF) ∧ Hid (Below wc.heap.size wc w'))) (by kernel_rfl) ?_ (fun hHeld => ?_)
          · exact ⟨kC0, kC1, kM0, kM1, kD0, kD1, kO0, kO1, kF0, kF1, Lib.hid (drew_below wc)⟩
          refine wpAnyH_take (i := 0) (oi := { dst := some 52, op := Op.move (Operand.tmp 2), type := 26, pos := "law.go:88", after := #[], guard := none }) (v := ?_) rfl (by kernel_rfl) (by kernel_rfl) (by kernel_rfl) (fun _ _ _ h => h) (Or.inl ⟨by rfl, ?_⟩) (by assumption) ?_
          rotate_left
          · (intro w hSw; (try dsimp only at hSw); go_simp; try with_reducible rfl)
          ((try simp only [Act.put]); (try simp only [List.setIfInBounds_toArray]); (try simp only [List.set_cons_succ]); (try simp only [List.set_cons_zero]))
          refine wpAnyH_take (i := 1) (oi := { dst := some 53, op := Op.binOp BinOp.eql 26 (Operand.tmp 52) (Operand.const (Value.int IntKind.i64 1)) 26, type := 4, pos := "law.go:88", after := #[{ on := 0, ground := Ground.data }], guard := none }) (v := ?_) rfl (by kernel_rfl) (by kernel_rfl) (by kernel_rfl) (fun _ _ _ h => h) (Or.inl ⟨by rfl, ?_⟩) (by assumption) ?_
          rotate_left
          · (intro w hSw; (try dsimp only at hSw); go_simp; try with_reducible rfl)
          ((try simp only [Act.put]); (try simp only [List.setIfInBounds_toArray]); (try simp only [List.set_cons_succ]); (try simp only [List.set_cons_zero]))
          refine wpAnyH_take (i := 2) (oi := { dst := some 54, op := Op.move (Operand.tmp 53), type := 4, pos := "law.go:88", after := #[{ on := 1, ground := Ground.data }], guard := none }) (v := ?_) rfl (by kernel_rfl) (by kernel_rfl) (by kernel_rfl) (fun _ _ _ h => h) (Or.inl ⟨by rfl, ?_⟩) (by assumption) ?_
          rotate_left
          · (intro w hSw; (try dsimp only at hSw); go_simp; try with_reducible rfl)
          ((try simp only [Act.put]); (try simp only [List.setIfInBounds_toArray]); (try simp only [List.set_cons_succ]); (try simp only [List.set_cons_zero]))
          refine wpAnyH_take (i := 3) (oi := { dst := some 55, op := Op.move (Operand.tmp 4), type := 26, pos := "law.go:88", after := #[{ on := 2, ground := Ground.guard }], guard := some (2, true) }) (v := ?_) rfl (by kernel_rfl) (by kernel_rfl) (by kernel_rfl) (fun _ _ _ h => h) (Or.inl ⟨by rfl, ?_⟩) (by assumption) ?_
          rotate_left
          · (intro w hSw; (try dsimp only at hSw); go_simp; try with_reducible rfl)
          ((try simp only [Act.put]); (try simp only [List.setIfInBounds_toArray]); (try simp only [List.set_cons_succ]); (try simp only [List.set_cons_zero]))
          refine wpAnyH_take (i := 4) (oi := { dst := some 56, op := Op.binOp BinOp.eql 26 (Operand.tmp 55) (Operand.const (Value.int IntKind.i64 1)) 26, type := 4, pos := "law.go:88", after := #[{ on := 3, ground := Ground.data }, { on := 2, ground := Ground.guard }], guard := some (2, true) }) (v := ?_) rfl (by kernel_rfl) (by kernel_rfl) (by kernel_rfl) (fun _ _ _ h => h) (Or.inl ⟨by rfl, ?_⟩) (by assumption) ?_
          rotate_left
          · (intro w hSw; (try dsimp only at hSw); go_simp; try with_reducible rfl)
          ((try simp only [Act.put]); (try simp only [List.setIfInBounds_toArray]); (try simp only [List.set_cons_succ]); (try simp only [List.set_cons_zero]))
          refine wpAnyH_take (i := 5) (oi := { dst := some 57, op := Op.pick (Operand.tmp 54) (Operand.tmp 56) (Operand.const (Value.bool false)), type := 4, pos := "law.go:88", after := #[{ on := 2, ground := Ground.data }, { on := 4, ground := Ground.data }], guard := none }) (v := ?_) rfl (by kernel_rfl) (by kernel_rfl) (by kernel_rfl) (fun _ _ _ h => h) (Or.inl ⟨by rfl, ?_⟩) (by assumption) ?_
          rotate_left
          · (intro w hSw; (try dsimp only at hSw); go_simp; try with_reducible rfl)
          ((try simp only [Act.put]); (try simp only [List.setIfInBounds_toArray]); (try simp only [List.set_cons_succ]); (try simp only [List.set_cons_zero]))
          refine wpAnyH_take (i := 6) (oi := { dst := some 58, op := Op.move (Operand.tmp 57), type := 4, pos := "law.go:88", after := #[{ on := 5, ground := Ground.data }, { on := 2, ground := Ground.chain }], guard := none }) (v := ?_) rfl (by kernel_rfl) (by kernel_rfl) (by kernel_rfl) (fun _ _ _ h => h) (Or.inl ⟨by rfl, ?_⟩) (by assumption) ?_
          rotate_left
          · (intro w hSw; (try dsimp only at hSw); go_simp; try with_reducible rfl)
          ((try simp only [Act.put]); (try simp only [List.setIfInBounds_toArray]); (try simp only [List.set_cons_succ]); (try simp only [List.set_cons_zero]))
          refine wpAnyH_take (i := 7) (oi := { dst := some 59, op := Op.load 25 (Operand.tmp 7), type := 25, pos := "law.go:88", after := #[{ on := 6, ground := Ground.guard }], guard := some (6, true) }) (v := ?_) rfl (by kernel_rfl) (by kernel_rfl) (by kernel_rfl) (fun _ _ _ h => h) (Or.inl ⟨by rfl, ?_⟩) (by assumption) ?_
          rotate_left
          · (intro w hSw; (try dsimp only at hSw); go_simp; try with_reducible rfl)
          ((try simp only [Act.put]); (try simp only [List.setIfInBounds_toArray]); (try simp only [List.set_cons_succ]); (try simp only [List.set_cons_zero]))
          refine wpAnyH_take (i := 9) (oi := { dst := some 61, op := Op.load 25 (Operand.tmp 5), type := 25, pos := "law.go:88", after := #[{ on := 6, ground := Ground.guard }], guard := some (6, true) }) (v := ?_) rfl (by kernel_rfl) (by kernel_rfl) (by kernel_rfl) (fun _ _ _ h => h) (Or.inl ⟨by rfl, ?_⟩) (by assumption) ?_
          rotate_left
          · (intro w hSw; (try dsimp only at hSw); go_simp; try with_reducible rfl)
          ((try simp only [Act.put]); (try simp only [List.setIfInBounds_toArray]); (try simp only [List.set_cons_succ]); (try simp only [List.set_cons_zero]))
          refine wpAnyH_ready (rs := [8]) (by kernel_rfl) (by simp) ?_
          refine AllReadyH.cons (o := { dst := some 60, op := Op.call { callee := Callee.value (Operand.func 13), args := #[Operand.tmp 59], argTypes := #[25] }, type := 35, pos := "law.go:88", after := #[{ on := 7, ground := Ground.data }, { on := 6, ground := Ground.chain }, { on := 6, ground := Ground.guard }], guard := some (6, true) }) rfl (fun K hK => ?_) AllReadyH.nil
          go_simp
          refine (rows_at 2 (C.out.s.below (Hid.out hHeld.2.2.2.2.2.2.2.2.2.2)) (by decide)).mono ?_
          rintro e v8 ⟨a8, c8, rfl, h5⟩
          have hb := h5.2
          have R1 := Lib.hid h5.1
          clear h5
          try go_wp2_with fail
          refine hK.out _ _ ?_ (fun hNew => ?_)
          · exact ⟨cell_go hHeld.1 hb, cell_go hHeld.2.1 hb, cell_go hHeld.2.2.1 hb, cell_go hHeld.2.2.2.1 hb, cell_go hHeld.2.2.2.2.1 hb, cell_go hHeld.2.2.2.2.2.1 hb, cell_go hHeld.2.2.2.2.2.2.1 hb, cell_go hHeld.2.2.2.2.2.2.2.1 hb, cell_go hHeld.2.2.2.2.2.2.2.2.1 hb, cell_go hHeld.2.2.2.2.2.2.2.2.2.1 hb, Lib.hid ((Hid.out hHeld.2.2.2.2.2.2.2.2.2.2).trans (hb.mono (Hid.out hHeld.2.2.2.2.2.2.2.2.2.2).size))⟩
          clear hK K
          replace hHeld := hNew
          clear hNew
          ((try simp only [Act.put]); (try simp only [List.setIfInBounds_toArray]); (try simp only [List.set_cons_succ]); (try simp only [List.set_cons_zero]))
          refine wpAnyH_ready (rs := [10]) (by kernel_rfl) (by simp) ?_
          refine AllReadyH.cons (o := { dst := some 62, op := Op.call { callee := Callee.value (Operand.func 13), args := #[Operand.tmp 61], argTypes := #[25] }, type := 35, pos := "law.go:88", after := #[{ on := 9, ground := Ground.data }, { on := 8, ground := Ground.chain }, { on := 6, ground := Ground.guard }], guard := some (6, true) }) rfl (fun K hK => ?_) AllReadyH.nil
          go_simp
          refine (rows_at 2 (M.out.s.below (Hid.out hHeld.2.2.2.2.2.2.2.2.2.2)) (by decide)).mono ?_
          rintro e v10 ⟨a10, c10, rfl, h5⟩
          have hb := h5.2
          replace R1 := Lib.hid (R1.out.below hb)
          have R2 := Lib.hid h5.1
          clear h5
          try go_wp2_with fail
          refine hK.out _ _ ?_ (fun hNew => ?_)
          · exact ⟨cell_go hHeld.1 hb, cell_go hHeld.2.1 hb, cell_go hHeld.2.2.1 hb, cell_go hHeld.2.2.2.1 hb, cell_go hHeld.2.2.2.2.1 hb, cell_go hHeld.2.2.2.2.2.1 hb, cell_go hHeld.2.2.2.2.2.2.1 hb, cell_go hHeld.2.2.2.2.2.2.2.1 hb, cell_go hHeld.2.2.2.2.2.2.2.2.1 hb, cell_go hHeld.2.2.2.2.2.2.2.2.2.1 hb, Lib.hid ((Hid.out hHeld.2.2.2.2.2.2.2.2.2.2).trans (hb.mono (Hid.out hHeld.2.2.2.2.2.2.2.2.2.2).size))⟩
          clear hK K
          replace hHeld := hNew
          clear hNew
          ((try simp only [Act.put]); (try simp only [List.setIfInBounds_toArray]); (try simp only [List.set_cons_succ]); (try simp only [List.set_cons_zero]))
          refine wpAnyH_ready (rs := [11]) (by kernel_rfl) (by simp) ?_
          refine AllReadyH.cons (o := { dst := some 63, op := Op.call { callee := Callee.value (Operand.func 12), args := #[Operand.tmp 60, Operand.tmp 62], argTypes := #[35, 35] }, type := 4, pos := "law.go:88", after := #[{ on := 8, ground := Ground.data }, { on := 10, ground := Ground.data }, { on := 10, ground := Ground.chain }, { on := 6, ground := Ground.guard }], guard := some (6, true) }) rfl (fun K hK => ?_) AllReadyH.nil
          go_simp
          refine (squares_at (r := true) R1.out R2.out (by decide)).mono ?_
          rintro e v11 ⟨rfl, nn, hw⟩
          have hb := drew_b hw
          clear hw R1 R2
          try go_wp2_with fail
          refine hK.out _ _ ?_ (fun hNew => ?_)
          · exact ⟨cell_go hHeld.1 hb, cell_go hHeld.2.1 hb, cell_go hHeld.2.2.1 hb, cell_go hHeld.2.2.2.1 hb, cell_go hHeld.2.2.2.2.1 hb, cell_go hHeld.2.2.2.2.2.1 hb, cell_go hHeld.2.2.2.2.2.2.1 hb, cell_go hHeld.2.2.2.2.2.2.2.1 hb, cell_go hHeld.2.2.2.2.2.2.2.2.1 hb, cell_go hHeld.2.2.2.2.2.2.2.2.2.1 hb, Lib.hid ((Hid.out hHeld.2.2.2.2.2.2.2.2.2.2).trans (hb.mono (Hid.out hHeld.2.2.2.2.2.2.2.2.2.2).size))⟩
          clear hK K
          replace hHeld := hNew
          clear hNew
          ((try simp only [Act.put]); (try simp only [List.setIfInBounds_toArray]); (try simp only [List.set_cons_succ]); (try simp only [List.set_cons_zero]))
          refine wpAnyH_take (i := 12) (oi := { dst := some 64, op := Op.pick (Operand.tmp 58) (Operand.tmp 63) (Operand.const (Value.bool false)), type := 4, pos := "law.go:88", after := #[{ on := 6, ground := Ground.data }, { on := 11, ground := Ground.data }], guard := none }) (v := ?_) rfl (by kernel_rfl) (by kernel_rfl) (by kernel_rfl) (fun _ _ _ h => h) (Or.inl ⟨by rfl, ?_⟩) (by assumption) ?_
          rotate_left
          · (intro w hSw; (try dsimp only at hSw); go_simp; try with_reducible rfl)
          ((try simp only [Act.put]); (try simp only [List.setIfInBounds_toArray]); (try simp only [List.set_cons_succ]); (try simp only [List.set_cons_zero]))
          refine wpAnyH_take (i := 13) (oi := { dst := some 65, op := Op.move (Operand.tmp 64), type := 4, pos := "law.go:88", after := #[{ on := 12, ground := Ground.data }, { on := 11, ground := Ground.chain }], guard := none }) (v := ?_) rfl (by kernel_rfl) (by kernel_rfl) (by kernel_rfl) (fun _ _ _ h => h) (Or.inl ⟨by rfl, ?_⟩) (by assumption) ?_
          rotate_left
          · (intro w hSw; (try dsimp only at hSw); go_simp; try with_reducible rfl)
          ((try simp only [Act.put]); (try simp only [List.setIfInBounds_toArray]); (try simp only [List.set_cons_succ]); (try simp only [List.set_cons_zero]))
          refine wpAnyH_take (i := 14) (oi := { dst := some 66, op := Op.load 25 (Operand.tmp 8), type := 25, pos := "law.go:88", after := #[{ on := 13, ground := Ground.guard }], guard := some (13, true) }) (v := ?_) rfl (by kernel_rfl) (by kernel_rfl) (by kernel_rfl) (fun _ _ _ h => h) (Or.inl ⟨by rfl, ?_⟩) (by assumption) ?_
          rotate_left
          · (intro w hSw; (try dsimp only at hSw); go_simp; try with_reducible rfl)
          ((try simp only [Act.put]); (try simp only [List.setIfInBounds_toArray]); (try simp only [List.set_cons_succ]); (try simp only [List.set_cons_zero]))
          refine' neck4 (S := (fun w' => w'.cell? ⟨pC, 0, none⟩ = some (.int .i64 2) ∧ w'.cell? ⟨pC, 1, none⟩ = some (.slice aC 2 cC) ∧ w'.cell? ⟨pM, 0, none⟩ = some (.int .i64 2) ∧ w'.cell? ⟨pM, 1, none⟩ = some (.slice aM 2 cM) ∧ w'.cell? ⟨pD, 0, none⟩ = some (.int .i64 2) ∧ w'.cell? ⟨pD, 1, none⟩ = some (.slice aD 2 cD) ∧ w'.cell? ⟨pO, 0, none⟩ = some (.int .i64 3) ∧ w'.cell? ⟨pO, 1, none⟩ = some (.slice aO 3 cO) ∧ w'.cell? ⟨pF, 0, none⟩ = some (.int .i64 2) ∧ w'.cell? ⟨pF, 1, none⟩ = some (.slice aF 2 cF) ∧ Hid (Below wc.heap.size wc w'))) (fun N20 => ?_) (fun s67 s68 s69 s70 y20 hHeld => ?_)
          rotate_left
          · as_aux_lemma =>
              refine wpAnyH_ready (rs := [15, 16, 17]) (by kernel_rfl) (by simp) ?_
              refine AllReadyH.cons (o := { dst := some 67, op := Op.call { callee := Callee.value (Operand.func 13), args := #[Operand.tmp 66], argTypes := #[25] }, type := 35, pos := "law.go:88", after := #[{ on := 14, ground := Ground.data }, { on := 13, ground := Ground.chain }, { on := 13, ground := Ground.guard }], guard := some (13, true) }) rfl (fun K hK => ?_) (AllReadyH.cons (o := { dst := some 68, op := Op.buildSlice 37 2 #[(0, Operand.const (Value.int IntKind.u64 0)), (1, Operand.const (Value.int IntKind.u64 0))], type := 37, pos := "law.go:88", after := #[{ on := 13, ground := Ground.guard }], guard := some (13, true) }) rfl (fun K hK => ?_) (AllReadyH.cons (o := { dst := some 69, op := Op.buildSlice 37 2 #[(0, Operand.const (Value.int IntKind.u64 1)), (1, Operand.const (Value.int IntKind.u64 1))], type := 37, pos := "law.go:88", after := #[{ on := 13, ground := Ground.guard }], guard := some (13, true) }) rfl (fun K hK => ?_) AllReadyH.nil))
              · skip
                go_simp
                refine (rows_at 2 (D.out.s.below (Hid.out hHeld.2.2.2.2.2.2.2.2.2.2)) (by decide)).mono ?_
                rintro e v15 ⟨a15, c15, rfl, h5⟩
                have hb := h5.2
                have R := Lib.hid h5.1
                clear h5
                try go_wp2_with fail
                refine hK.out _ _ ?_ (fun hNew => ?_)
                · exact ⟨cell_go hHeld.1 hb, cell_go hHeld.2.1 hb, cell_go hHeld.2.2.1 hb, cell_go hHeld.2.2.2.1 hb, cell_go hHeld.2.2.2.2.1 hb, cell_go hHeld.2.2.2.2.2.1 hb, cell_go hHeld.2.2.2.2.2.2.1 hb, cell_go hHeld.2.2.2.2.2.2.2.1 hb, cell_go hHeld.2.2.2.2.2.2.2.2.1 hb, cell_go hHeld.2.2.2.2.2.2.2.2.2.1 hb, Lib.hid ((Hid.out hHeld.2.2.2.2.2.2.2.2.2.2).trans (hb.mono (Hid.out hHeld.2.2.2.2.2.2.2.2.2.2).size))⟩
                clear hK K
                replace hHeld := hNew
                clear hNew
                ((try simp only [Act.put]); (try simp only [List.setIfInBounds_toArray]); (try simp only [List.set_cons_succ]); (try simp only [List.set_cons_zero]))
                refine wpAnyH_ready (rs := [16, 17]) (by kernel_rfl) (by simp) ?_
                refine AllReadyH.cons (o := { dst := some 68, op := Op.buildSlice 37 2 #[(0, Operand.const (Value.int IntKind.u64 0)), (1, Operand.const (Value.int IntKind.u64 0))], type := 37, pos := "law.go:88", after := #[{ on := 13, ground := Ground.guard }], guard := some (13, true) }) rfl (fun K hK => ?_) (AllReadyH.cons (o := { dst := some 69, op := Op.buildSlice 37 2 #[(0, Operand.const (Value.int IntKind.u64 1)), (1, Operand.const (Value.int IntKind.u64 1))], type := 37, pos := "law.go:88", after := #[{ on := 13, ground := Ground.guard }], guard := some (13, true) }) rfl (fun K hK => ?_) AllReadyH.nil)
                · skip
                  go_simp
                  have L1 := Lib.hid (sl_lit v15 [0, 0] #[.int .u64 0, .int .u64 0] 30 2 rfl rfl (by decide) (by unfold maxLen; omega))
                  replace R := Lib.hid (R.out.below (box_b v15 (.cells #[.int .u64 0, .int .u64 0] 30)))
                  have hb := box_b v15 (.cells #[.int .u64 0, .int .u64 0] 30)
                  generalize hw : v15.alloc (.cells #[.int .u64 0, .int .u64 0] 30) = v16 at *
                  clear hw
                  try go_wp2_with fail
                  refine hK.out _ _ ?_ (fun hNew => ?_)
                  · exact ⟨cell_go hHeld.1 hb, cell_go hHeld.2.1 hb, cell_go hHeld.2.2.1 hb, cell_go hHeld.2.2.2.1 hb, cell_go hHeld.2.2.2.2.1 hb, cell_go hHeld.2.2.2.2.2.1 hb, cell_go hHeld.2.2.2.2.2.2.1 hb, cell_go hHeld.2.2.2.2.2.2.2.1 hb, cell_go hHeld.2.2.2.2.2.2.2.2.1 hb, cell_go hHeld.2.2.2.2.2.2.2.2.2.1 hb, Lib.hid ((Hid.out hHeld.2.2.2.2.2.2.2.2.2.2).trans (hb.mono (Hid.out hHeld.2.2.2.2.2.2.2.2.2.2).size))⟩
                  clear hK K
                  replace hHeld := hNew
                  clear hNew
                  ((try simp only [Act.put]); (try simp only [List.setIfInBounds_toArray]); (try simp only [List.set_cons_succ]); (try simp only [List.set_cons_zero]))
                  refine wpAnyH_ready (rs := [17]) (by kernel_rfl) (by simp) ?_
                  refine AllReadyH.cons (o := { dst := some 69, op := Op.buildSlice 37 2 #[(0, Operand.const (Value.int IntKind.u64 1)), (1, Operand.const (Value.int IntKind.u64 1))], type := 37, pos := "law.go:88", after := #[{ on := 13, ground := Ground.guard }], guard := some (13, true) }) rfl (fun K hK => ?_) AllReadyH.nil
                  go_simp
                  have L2 := Lib.hid (sl_lit v16 [1, 1] #[.int .u64 1, .int .u64 1] 30 2 rfl rfl (by decide) (by unfold maxLen; omega))
                  replace R := Lib.hid (R.out.below (box_b v16 (.cells #[.int .u64 1, .int .u64 1] 30)))
                  replace L1 := Lib.hid (L1.out.below (box_b v16 (.cells #[.int .u64 1, .int .u64 1] 30)))
                  have hb := box_b v16 (.cells #[.int .u64 1, .int .u64 1] 30)
                  generalize hw : v16.alloc (.cells #[.int .u64 1, .int .u64 1] 30) = v17 at *
                  clear hw
                  try go_wp2_with fail
                  refine hK.out _ _ ?_ (fun hNew => ?_)
                  · exact ⟨cell_go hHeld.1 hb, cell_go hHeld.2.1 hb, cell_go hHeld.2.2.1 hb, cell_go hHeld.2.2.2.1 hb, cell_go hHeld.2.2.2.2.1 hb, cell_go hHeld.2.2.2.2.2.1 hb, cell_go hHeld.2.2.2.2.2.2.1 hb, cell_go hHeld.2.2.2.2.2.2.2.1 hb, cell_go hHeld.2.2.2.2.2.2.2.2.1 hb, cell_go hHeld.2.2.2.2.2.2.2.2.2.1 hb, Lib.hid ((Hid.out hHeld.2.2.2.2.2.2.2.2.2.2).trans (hb.mono (Hid.out hHeld.2.2.2.2.2.2.2.2.2.2).size))⟩
                  clear hK K
                  replace hHeld := hNew
                  clear hNew
                  ((try simp only [Act.put]); (try simp only [List.setIfInBounds_toArray]); (try simp only [List.set_cons_succ]); (try simp only [List.set_cons_zero]))
                  refine wpAnyH_ready (rs := [18]) (by kernel_rfl) (by simp) ?_
                  refine AllReadyH.cons (o := { dst := some 70, op := Op.buildSlice 35 2 #[(0, Operand.tmp 68), (1, Operand.tmp 69)], type := 35, pos := "law.go:88", after := #[{ on := 16, ground := Ground.data }, { on := 17, ground := Ground.data }, { on := 13, ground := Ground.guard }], guard := some (13, true) }) rfl (fun K hK => ?_) AllReadyH.nil
                  go_simp
                  have Q := Lib.hid (sq_lit (w := v17) (L := [⟨some ⟨v15.heap.size, 0, none⟩, 2, [0, 0]⟩, ⟨some ⟨v16.heap.size, 0, none⟩, 2, [1, 1]⟩]) (cs := #[.slice (some ⟨v15.heap.size, 0, none⟩) 2 2, .slice (some ⟨v16.heap.size, 0, none⟩) 2 2]) (t := 37) (n := 2) (m := [[0, 0], [1, 1]]) rfl rfl rfl (by unfold maxLen; omega) (two_rd L1.out L2.out))
                  replace R := Lib.hid (R.out.below (box_b v17 (.cells #[.slice (some ⟨v15.heap.size, 0, none⟩) 2 2, .slice (some ⟨v16.heap.size, 0, none⟩) 2 2] 37)))
                  have hb := box_b v17 (.cells #[.slice (some ⟨v15.heap.size, 0, none⟩) 2 2, .slice (some ⟨v16.heap.size, 0, none⟩) 2 2] 37)
                  clear L1 L2
                  generalize hw : v17.alloc (.cells #[.slice (some ⟨v15.heap.size, 0, none⟩) 2 2, .slice (some ⟨v16.heap.size, 0, none⟩) 2 2] 37) = v18 at *
                  clear hw
                  try go_wp2_with fail
                  refine hK.out _ _ ?_ (fun hNew => ?_)
                  · exact ⟨cell_go hHeld.1 hb, cell_go hHeld.2.1 hb, cell_go hHeld.2.2.1 hb, cell_go hHeld.2.2.2.1 hb, cell_go hHeld.2.2.2.2.1 hb, cell_go hHeld.2.2.2.2.2.1 hb, cell_go hHeld.2.2.2.2.2.2.1 hb, cell_go hHeld.2.2.2.2.2.2.2.1 hb, cell_go hHeld.2.2.2.2.2.2.2.2.1 hb, cell_go hHeld.2.2.2.2.2.2.2.2.2.1 hb, Lib.hid ((Hid.out hHeld.2.2.2.2.2.2.2.2.2.2).trans (hb.mono (Hid.out hHeld.2.2.2.2.2.2.2.2.2.2).size))⟩
                  clear hK K
                  replace hHeld := hNew
                  clear hNew
                  ((try simp only [Act.put]); (try simp only [List.setIfInBounds_toArray]); (try simp only [List.set_cons_succ]); (try simp only [List.set_cons_zero]))
                  refine wpAnyH_ready (rs := [19]) (by kernel_rfl) (by simp) ?_
                  refine AllReadyH.cons (o := { dst := some 71, op := Op.call { callee := Callee.value (Operand.func 12), args := #[Operand.tmp 67, Operand.tmp 70], argTypes := #[35, 35] }, type := 4, pos := "law.go:88", after := #[{ on := 15, ground := Ground.data }, { on := 18, ground := Ground.data }, { on := 15, ground := Ground.chain }, { on := 13, ground := Ground.guard }], guard := some (13, true) }) rfl (fun K hK => ?_) AllReadyH.nil
                  go_simp
                  refine (squares_at (r := true) R.out Q.out (by decide)).mono ?_
                  rintro e v19 ⟨rfl, nn, hw⟩
                  have hb := drew_b hw
                  clear hw R Q
                  try go_wp2_with fail
                  refine hK.out _ _ ?_ (fun hNew => ?_)
                  · exact ⟨cell_go hHeld.1 hb, cell_go hHeld.2.1 hb, cell_go hHeld.2.2.1 hb, cell_go hHeld.2.2.2.1 hb, cell_go hHeld.2.2.2.2.1 hb, cell_go hHeld.2.2.2.2.2.1 hb, cell_go hHeld.2.2.2.2.2.2.1 hb, cell_go hHeld.2.2.2.2.2.2.2.1 hb, cell_go hHeld.2.2.2.2.2.2.2.2.1 hb, cell_go hHeld.2.2.2.2.2.2.2.2.2.1 hb, Lib.hid ((Hid.out hHeld.2.2.2.2.2.2.2.2.2.2).trans (hb.mono (Hid.out hHeld.2.2.2.2.2.2.2.2.2.2).size))⟩
                  clear hK K
                  replace hHeld := hNew
                  clear hNew
                  ((try simp only [Act.put]); (try simp only [List.setIfInBounds_toArray]); (try simp only [List.set_cons_succ]); (try simp only [List.set_cons_zero]))
                  refine gen1 67 (by kernel_rfl) (fun s67 => ?_)
                  ((try simp only [Act.put]); (try simp only [List.setIfInBounds_toArray]); (try simp only [List.set_cons_succ]); (try simp only [List.set_cons_zero]))
                  refine gen1 68 (by kernel_rfl) (fun s68 => ?_)
                  ((try simp only [Act.put]); (try simp only [List.setIfInBounds_toArray]); (try simp only [List.set_cons_succ]); (try simp only [List.set_cons_zero]))
                  refine gen1 69 (by kernel_rfl) (fun s69 => ?_)
                  ((try simp only [Act.put]); (try simp only [List.setIfInBounds_toArray]); (try simp only [List.set_cons_succ]); (try simp only [List.set_cons_zero]))
                  refine gen1 70 (by kernel_rfl) (fun s70 => ?_)
                  ((try simp only [Act.put]); (try simp only [List.setIfInBounds_toArray]); (try simp only [List.set_cons_succ]); (try simp only [List.set_cons_zero]))
                  refine listed_to (l' := #[true, true, true, true, true, true, true, true, true, true, true, true, true, true, true, true, true, true, true, true, false, false, false, false, false, false, false, false, false, false, false, false, false, false, false, false, false, false, false, false, false, false, false, false, false, false, false, false, false, false, false, false, false, false, false, false, false, false, false, false, false, false, false, false, false, false, false, false, false, false, false, false, false, false, false, false, false, false, false, false, false, false]) (by kernel_rfl) ?_
                  refine genw hHeld (fun y hy => ?_)
                  exact N20 s67 s68 s69 s70 y hy
                · skip
                  go_simp
                  have L2 := Lib.hid (sl_lit v15 [1, 1] #[.int .u64 1, .int .u64 1] 30 2 rfl rfl (by decide) (by unfold maxLen; omega))
                  replace R := Lib.hid (R.out.below (box_b v15 (.cells #[.int .u64 1, .int .u64 1] 30)))
                  have hb := box_b v15 (.cells #[.int .u64 1, .int .u64 1] 30)
                  generalize hw : v15.alloc (.cells #[.int .u64 1, .int .u64 1] 30) = v17 at *
                  clear hw
                  try go_wp2_with fail
                  refine hK.out _ _ ?_ (fun hNew => ?_)
                  · exact ⟨cell_go hHeld.1 hb, cell_go hHeld.2.1 hb, cell_go hHeld.2.2.1 hb, cell_go hHeld.2.2.2.1 hb, cell_go hHeld.2.2.2.2.1 hb, cell_go hHeld.2.2.2.2.2.1 hb, cell_go hHeld.2.2.2.2.2.2.1 hb, cell_go hHeld.2.2.2.2.2.2.2.1 hb, cell_go hHeld.2.2.2.2.2.2.2.2.1 hb, cell_go hHeld.2.2.2.2.2.2.2.2.2.1 hb, Lib.hid ((Hid.out hHeld.2.2.2.2.2.2.2.2.2.2).trans (hb.mono (Hid.out hHeld.2.2.2.2.2.2.2.2.2.2).size))⟩
                  clear hK K
                  replace hHeld := hNew
                  clear hNew
                  ((try simp only [Act.put]); (try simp only [List.setIfInBounds_toArray]); (try simp only [List.set_cons_succ]); (try simp only [List.set_cons_zero]))
                  refine wpAnyH_ready (rs := [16]) (by kernel_rfl) (by simp) ?_
                  refine AllReadyH.cons (o := { dst := some 68, op := Op.buildSlice 37 2 #[(0, Operand.const (Value.int IntKind.u64 0)), (1, Operand.const (Value.int IntKind.u64 0))], type := 37, pos := "law.go:88", after := #[{ on := 13, ground := Ground.guard }], guard := some (13, true) }) rfl (fun K hK => ?_) AllReadyH.nil
                  go_simp
                  have L1 := Lib.hid (sl_lit v17 [0, 0] #[.int .u64 0, .int .u64 0] 30 2 rfl rfl (by decide) (by unfold maxLen; omega))
                  replace R := Lib.hid (R.out.below (box_b v17 (.cells #[.int .u64 0, .int .u64 0] 30)))
                  replace L2 := Lib.hid (L2.out.below (box_b v17 (.cells #[.int .u64 0, .int .u64 0] 30)))
                  have hb := box_b v17 (.cells #[.int .u64 0, .int .u64 0] 30)
                  generalize hw : v17.alloc (.cells #[.int .u64 0, .int .u64 0] 30) = v16 at *
                  clear hw
                  try go_wp2_with fail
                  refine hK.out _ _ ?_ (fun hNew => ?_)
                  · exact ⟨cell_go hHeld.1 hb, cell_go hHeld.2.1 hb, cell_go hHeld.2.2.1 hb, cell_go hHeld.2.2.2.1 hb, cell_go hHeld.2.2.2.2.1 hb, cell_go hHeld.2.2.2.2.2.1 hb, cell_go hHeld.2.2.2.2.2.2.1 hb, cell_go hHeld.2.2.2.2.2.2.2.1 hb, cell_go hHeld.2.2.2.2.2.2.2.2.1 hb, cell_go hHeld.2.2.2.2.2.2.2.2.2.1 hb, Lib.hid ((Hid.out hHeld.2.2.2.2.2.2.2.2.2.2).trans (hb.mono (Hid.out hHeld.2.2.2.2.2.2.2.2.2.2).size))⟩
                  clear hK K
                  replace hHeld := hNew
                  clear hNew
                  ((try simp only [Act.put]); (try simp only [List.setIfInBounds_toArray]); (try simp only [List.set_cons_succ]); (try simp only [List.set_cons_zero]))
                  refine wpAnyH_ready (rs := [18]) (by kernel_rfl) (by simp) ?_
                  refine AllReadyH.cons (o := { dst := some 70, op := Op.buildSlice 35 2 #[(0, Operand.tmp 68), (1, Operand.tmp 69)], type := 35, pos := "law.go:88", after := #[{ on := 16, ground := Ground.data }, { on := 17, ground := Ground.data }, { on := 13, ground := Ground.guard }], guard := some (13, true) }) rfl (fun K hK => ?_) AllReadyH.nil
                  go_simp
                  have Q := Lib.hid (sq_lit (w := v16) (L := [⟨some ⟨v17.heap.size, 0, none⟩, 2, [0, 0]⟩, ⟨some ⟨v15.heap.size, 0, none⟩, 2, [1, 1]⟩]) (cs := #[.slice (some ⟨v17.heap.size, 0, none⟩) 2 2, .slice (some ⟨v15.heap.size, 0, none⟩) 2 2]) (t := 37) (n := 2) (m := [[0, 0], [1, 1]]) rfl rfl rfl (by unfold maxLen; omega) (two_rd L1.out L2.out))
                  replace R := Lib.hid (R.out.below (box_b v16 (.cells #[.slice (some ⟨v17.heap.size, 0, none⟩) 2 2, .slice (some ⟨v15.heap.size, 0, none⟩) 2 2] 37)))
                  have hb := box_b v16 (.cells #[.slice (some ⟨v17.heap.size, 0, none⟩) 2 2, .slice (some ⟨v15.heap.size, 0, none⟩) 2 2] 37)
                  clear L1 L2
                  generalize hw : v16.alloc (.cells #[.slice (some ⟨v17.heap.size, 0, none⟩) 2 2, .slice (some ⟨v15.heap.size, 0, none⟩) 2 2] 37) = v18 at *
                  clear hw
                  try go_wp2_with fail
                  refine hK.out _ _ ?_ (fun hNew => ?_)
                  · exact ⟨cell_go hHeld.1 hb, cell_go hHeld.2.1 hb, cell_go hHeld.2.2.1 hb, cell_go hHeld.2.2.2.1 hb, cell_go hHeld.2.2.2.2.1 hb, cell_go hHeld.2.2.2.2.2.1 hb, cell_go hHeld.2.2.2.2.2.2.1 hb, cell_go hHeld.2.2.2.2.2.2.2.1 hb, cell_go hHeld.2.2.2.2.2.2.2.2.1 hb, cell_go hHeld.2.2.2.2.2.2.2.2.2.1 hb, Lib.hid ((Hid.out hHeld.2.2.2.2.2.2.2.2.2.2).trans (hb.mono (Hid.out hHeld.2.2.2.2.2.2.2.2.2.2).size))⟩
                  clear hK K
                  replace hHeld := hNew
                  clear hNew
                  ((try simp only [Act.put]); (try simp only [List.setIfInBounds_toArray]); (try simp only [List.set_cons_succ]); (try simp only [List.set_cons_zero]))
                  refine wpAnyH_ready (rs := [19]) (by kernel_rfl) (by simp) ?_
                  refine AllReadyH.cons (o := { dst := some 71, op := Op.call { callee := Callee.value (Operand.func 12), args := #[Operand.tmp 67, Operand.tmp 70], argTypes := #[35, 35] }, type := 4, pos := "law.go:88", after := #[{ on := 15, ground := Ground.data }, { on := 18, ground := Ground.data }, { on := 15, ground := Ground.chain }, { on := 13, ground := Ground.guard }], guard := some (13, true) }) rfl (fun K hK => ?_) AllReadyH.nil
                  go_simp
                  refine (squares_at (r := true) R.out Q.out (by decide)).mono ?_
                  rintro e v19 ⟨rfl, nn, hw⟩
                  have hb := drew_b hw
                  clear hw R Q
                  try go_wp2_with fail
                  refine hK.out _ _ ?_ (fun hNew => ?_)
                  · exact ⟨cell_go hHeld.1 hb, cell_go hHeld.2.1 hb, cell_go hHeld.2.2.1 hb, cell_go hHeld.2.2.2.1 hb, cell_go hHeld.2.2.2.2.1 hb, cell_go hHeld.2.2.2.2.2.1 hb, cell_go hHeld.2.2.2.2.2.2.1 hb, cell_go hHeld.2.2.2.2.2.2.2.1 hb, cell_go hHeld.2.2.2.2.2.2.2.2.1 hb, cell_go hHeld.2.2.2.2.2.2.2.2.2.1 hb, Lib.hid ((Hid.out hHeld.2.2.2.2.2.2.2.2.2.2).trans (hb.mono (Hid.out hHeld.2.2.2.2.2.2.2.2.2.2).size))⟩
                  clear hK K
                  replace hHeld := hNew
                  clear hNew
                  ((try simp only [Act.put]); (try simp only [List.setIfInBounds_toArray]); (try simp only [List.set_cons_succ]); (try simp only [List.set_cons_zero]))
                  refine gen1 67 (by kernel_rfl) (fun s67 => ?_)
                  ((try simp only [Act.put]); (try simp only [List.setIfInBounds_toArray]); (try simp only [List.set_cons_succ]); (try simp only [List.set_cons_zero]))
                  refine gen1 68 (by kernel_rfl) (fun s68 => ?_)
                  ((try simp only [Act.put]); (try simp only [List.setIfInBounds_toArray]); (try simp only [List.set_cons_succ]); (try simp only [List.set_cons_zero]))
                  refine gen1 69 (by kernel_rfl) (fun s69 => ?_)
                  ((try simp only [Act.put]); (try simp only [List.setIfInBounds_toArray]); (try simp only [List.set_cons_succ]); (try simp only [List.set_cons_zero]))
                  refine gen1 70 (by kernel_rfl) (fun s70 => ?_)
                  ((try simp only [Act.put]); (try simp only [List.setIfInBounds_toArray]); (try simp only [List.set_cons_succ]); (try simp only [List.set_cons_zero]))
                  refine listed_to (l' := #[true, true, true, true, true, true, true, true, true, true, true, true, true, true, true, true, true, true, true, true, false, false, false, false, false, false, false, false, false, false, false, false, false, false, false, false, false, false, false, false, false, false, false, false, false, false, false, false, false, false, false, false, false, false, false, false, false, false, false, false, false, false, false, false, false, false, false, false, false, false, false, false, false, false, false, false, false, false, false, false, false, false]) (by kernel_rfl) ?_
                  refine genw hHeld (fun y hy => ?_)
                  exact N20 s67 s68 s69 s70 y hy
              · skip
                go_simp
                have L1 := Lib.hid (sl_lit v11 [0, 0] #[.int .u64 0, .int .u64 0] 30 2 rfl rfl (by decide) (by unfold maxLen; omega))
                have hb := box_b v11 (.cells #[.int .u64 0, .int .u64 0] 30)
                generalize hw : v11.alloc (.cells #[.int .u64 0, .int .u64 0] 30) = v16 at *
                clear hw
                try go_wp2_with fail
                refine hK.out _ _ ?_ (fun hNew => ?_)
                · exact ⟨cell_go hHeld.1 hb, cell_go hHeld.2.1 hb, cell_go hHeld.2.2.1 hb, cell_go hHeld.2.2.2.1 hb, cell_go hHeld.2.2.2.2.1 hb, cell_go hHeld.2.2.2.2.2.1 hb, cell_go hHeld.2.2.2.2.2.2.1 hb, cell_go hHeld.2.2.2.2.2.2.2.1 hb, cell_go hHeld.2.2.2.2.2.2.2.2.1 hb, cell_go hHeld.2.2.2.2.2.2.2.2.2.1 hb, Lib.hid ((Hid.out hHeld.2.2.2.2.2.2.2.2.2.2).trans (hb.mono (Hid.out hHeld.2.2.2.2.2.2.2.2.2.2).size))⟩
                clear hK K
                replace hHeld := hNew
                clear hNew
                ((try simp only [Act.put]); (try simp only [List.setIfInBounds_toArray]); (try simp only [List.set_cons_succ]); (try simp only [List.set_cons_zero]))
                refine wpAnyH_ready (rs := [15, 17]) (by kernel_rfl) (by simp) ?_
                refine AllReadyH.cons (o := { dst := some 67, op := Op.call { callee := Callee.value (Operand.func 13), args := #[Operand.tmp 66], argTypes := #[25] }, type := 35, pos := "law.go:88", after := #[{ on := 14, ground := Ground.data }, { on := 13, ground := Ground.chain }, { on := 13, ground := Ground.guard }], guard := some (13, true) }) rfl (fun K hK => ?_) (AllReadyH.cons (o := { dst := some 69, op := Op.buildSlice 37 2 #[(0, Operand.const (Value.int IntKind.u64 1)), (1, Operand.const (Value.int IntKind.u64 1))], type := 37, pos := "law.go:88", after := #[{ on := 13, ground := Ground.guard }], guard := some (13, true) }) rfl (fun K hK => ?_) AllReadyH.nil)
                · skip
                  go_simp
                  refine (rows_at 2 (D.out.s.below (Hid.out hHeld.2.2.2.2.2.2.2.2.2.2)) (by decide)).mono ?_
                  rintro e v15 ⟨a15, c15, rfl, h5⟩
                  have hb := h5.2
                  replace L1 := Lib.hid (L1.out.below hb)
                  have R := Lib.hid h5.1
                  clear h5
                  try go_wp2_with fail
                  refine hK.out _ _ ?_ (fun hNew => ?_)
                  · exact ⟨cell_go hHeld.1 hb, cell_go hHeld.2.1 hb, cell_go hHeld.2.2.1 hb, cell_go hHeld.2.2.2.1 hb, cell_go hHeld.2.2.2.2.1 hb, cell_go hHeld.2.2.2.2.2.1 hb, cell_go hHeld.2.2.2.2.2.2.1 hb, cell_go hHeld.2.2.2.2.2.2.2.1 hb, cell_go hHeld.2.2.2.2.2.2.2.2.1 hb, cell_go hHeld.2.2.2.2.2.2.2.2.2.1 hb, Lib.hid ((Hid.out hHeld.2.2.2.2.2.2.2.2.2.2).trans (hb.mono (Hid.out hHeld.2.2.2.2.2.2.2.2.2.2).size))⟩
                  clear hK K
                  replace hHeld := hNew
                  clear hNew
                  ((try simp only [Act.put]); (try simp only [List.setIfInBounds_toArray]); (try simp only [List.set_cons_succ]); (try simp only [List.set_cons_zero]))
                  refine wpAnyH_ready (rs := [17]) (by kernel_rfl) (by simp) ?_
                  refine AllReadyH.cons (o := { dst := some 69, op := Op.buildSlice 37 2 #[(0, Operand.const (Value.int IntKind.u64 1)), (1, Operand.const (Value.int IntKind.u64 1))], type := 37, pos := "law.go:88", after := #[{ on := 13, ground := Ground.guard }], guard := some (13, true) }) rfl (fun K hK => ?_) AllReadyH.nil
                  go_simp
                  have L2 := Lib.hid (sl_lit v15 [1, 1] #[.int .u64 1, .int .u64 1] 30 2 rfl rfl (by decide) (by unfold maxLen; omega))
                  replace R := Lib.hid (R.out.below (box_b v15 (.cells #[.int .u64 1, .int .u64 1] 30)))
                  replace L1 := Lib.hid (L1.out.below (box_b v15 (.cells #[.int .u64 1, .int .u64 1] 30)))
                  have hb := box_b v15 (.cells #[.int .u64 1, .int .u64 1] 30)
                  generalize hw : v15.alloc (.cells #[.int .u64 1, .int .u64 1] 30) = v17 at *
                  clear hw
                  try go_wp2_with fail
                  refine hK.out _ _ ?_ (fun hNew => ?_)
                  · exact ⟨cell_go hHeld.1 hb, cell_go hHeld.2.1 hb, cell_go hHeld.2.2.1 hb, cell_go hHeld.2.2.2.1 hb, cell_go hHeld.2.2.2.2.1 hb, cell_go hHeld.2.2.2.2.2.1 hb, cell_go hHeld.2.2.2.2.2.2.1 hb, cell_go hHeld.2.2.2.2.2.2.2.1 hb, cell_go hHeld.2.2.2.2.2.2.2.2.1 hb, cell_go hHeld.2.2.2.2.2.2.2.2.2.1 hb, Lib.hid ((Hid.out hHeld.2.2.2.2.2.2.2.2.2.2).trans (hb.mono (Hid.out hHeld.2.2.2.2.2.2.2.2.2.2).size))⟩
                  clear hK K
                  replace hHeld := hNew
                  clear hNew
                  ((try simp only [Act.put]); (try simp only [List.setIfInBounds_toArray]); (try simp only [List.set_cons_succ]); (try simp only [List.set_cons_zero]))
                  refine wpAnyH_ready (rs := [18]) (by kernel_rfl) (by simp) ?_
                  refine AllReadyH.cons (o := { dst := some 70, op := Op.buildSlice 35 2 #[(0, Operand.tmp 68), (1, Operand.tmp 69)], type := 35, pos := "law.go:88", after := #[{ on := 16, ground := Ground.data }, { on := 17, ground := Ground.data }, { on := 13, ground := Ground.guard }], guard := some (13, true) }) rfl (fun K hK => ?_) AllReadyH.nil
                  go_simp
                  have Q := Lib.hid (sq_lit (w := v17) (L := [⟨some ⟨v11.heap.size, 0, none⟩, 2, [0, 0]⟩, ⟨some ⟨v15.heap.size, 0, none⟩, 2, [1, 1]⟩]) (cs := #[.slice (some ⟨v11.heap.size, 0, none⟩) 2 2, .slice (some ⟨v15.heap.size, 0, none⟩) 2 2]) (t := 37) (n := 2) (m := [[0, 0], [1, 1]]) rfl rfl rfl (by unfold maxLen; omega) (two_rd L1.out L2.out))
                  replace R := Lib.hid (R.out.below (box_b v17 (.cells #[.slice (some ⟨v11.heap.size, 0, none⟩) 2 2, .slice (some ⟨v15.heap.size, 0, none⟩) 2 2] 37)))
                  have hb := box_b v17 (.cells #[.slice (some ⟨v11.heap.size, 0, none⟩) 2 2, .slice (some ⟨v15.heap.size, 0, none⟩) 2 2] 37)
                  clear L1 L2
                  generalize hw : v17.alloc (.cells #[.slice (some ⟨v11.heap.size, 0, none⟩) 2 2, .slice (some ⟨v15.heap.size, 0, none⟩) 2 2] 37) = v18 at *
                  clear hw
                  try go_wp2_with fail
                  refine hK.out _ _ ?_ (fun hNew => ?_)
                  · exact ⟨cell_go hHeld.1 hb, cell_go hHeld.2.1 hb, cell_go hHeld.2.2.1 hb, cell_go hHeld.2.2.2.1 hb, cell_go hHeld.2.2.2.2.1 hb, cell_go hHeld.2.2.2.2.2.1 hb, cell_go hHeld.2.2.2.2.2.2.1 hb, cell_go hHeld.2.2.2.2.2.2.2.1 hb, cell_go hHeld.2.2.2.2.2.2.2.2.1 hb, cell_go hHeld.2.2.2.2.2.2.2.2.2.1 hb, Lib.hid ((Hid.out hHeld.2.2.2.2.2.2.2.2.2.2).trans (hb.mono (Hid.out hHeld.2.2.2.2.2.2.2.2.2.2).size))⟩
                  clear hK K
                  replace hHeld := hNew
                  clear hNew
                  ((try simp only [Act.put]); (try simp only [List.setIfInBounds_toArray]); (try simp only [List.set_cons_succ]); (try simp only [List.set_cons_zero]))
                  refine wpAnyH_ready (rs := [19]) (by kernel_rfl) (by simp) ?_
                  refine AllReadyH.cons (o := { dst := some 71, op := Op.call { callee := Callee.value (Operand.func 12), args := #[Operand.tmp 67, Operand.tmp 70], argTypes := #[35, 35] }, type := 4, pos := "law.go:88", after := #[{ on := 15, ground := Ground.data }, { on := 18, ground := Ground.data }, { on := 15, ground := Ground.chain }, { on := 13, ground := Ground.guard }], guard := some (13, true) }) rfl (fun K hK => ?_) AllReadyH.nil
                  go_simp
                  refine (squares_at (r := true) R.out Q.out (by decide)).mono ?_
                  rintro e v19 ⟨rfl, nn, hw⟩
                  have hb := drew_b hw
                  clear hw R Q
                  try go_wp2_with fail
                  refine hK.out _ _ ?_ (fun hNew => ?_)
                  · exact ⟨cell_go hHeld.1 hb, cell_go hHeld.2.1 hb, cell_go hHeld.2.2.1 hb, cell_go hHeld.2.2.2.1 hb, cell_go hHeld.2.2.2.2.1 hb, cell_go hHeld.2.2.2.2.2.1 hb, cell_go hHeld.2.2.2.2.2.2.1 hb, cell_go hHeld.2.2.2.2.2.2.2.1 hb, cell_go hHeld.2.2.2.2.2.2.2.2.1 hb, cell_go hHeld.2.2.2.2.2.2.2.2.2.1 hb, Lib.hid ((Hid.out hHeld.2.2.2.2.2.2.2.2.2.2).trans (hb.mono (Hid.out hHeld.2.2.2.2.2.2.2.2.2.2).size))⟩
                  clear hK K
                  replace hHeld := hNew
                  clear hNew
                  ((try simp only [Act.put]); (try simp only [List.setIfInBounds_toArray]); (try simp only [List.set_cons_succ]); (try simp only [List.set_cons_zero]))
                  refine gen1 67 (by kernel_rfl) (fun s67 => ?_)
                  ((try simp only [Act.put]); (try simp only [List.setIfInBounds_toArray]); (try simp only [List.set_cons_succ]); (try simp only [List.set_cons_zero]))
                  refine gen1 68 (by kernel_rfl) (fun s68 => ?_)
                  ((try simp only [Act.put]); (try simp only [List.setIfInBounds_toArray]); (try simp only [List.set_cons_succ]); (try simp only [List.set_cons_zero]))
                  refine gen1 69 (by kernel_rfl) (fun s69 => ?_)
                  ((try simp only [Act.put]); (try simp only [List.setIfInBounds_toArray]); (try simp only [List.set_cons_succ]); (try simp only [List.set_cons_zero]))
                  refine gen1 70 (by kernel_rfl) (fun s70 => ?_)
                  ((try simp only [Act.put]); (try simp only [List.setIfInBounds_toArray]); (try simp only [List.set_cons_succ]); (try simp only [List.set_cons_zero]))
                  refine listed_to (l' := #[true, true, true, true, true, true, true, true, true, true, true, true, true, true, true, true, true, true, true, true, false, false, false, false, false, false, false, false, false, false, false, false, false, false, false, false, false, false, false, false, false, false, false, false, false, false, false, false, false, false, false, false, false, false, false, false, false, false, false, false, false, false, false, false, false, false, false, false, false, false, false, false, false, false, false, false, false, false, false, false, false, false]) (by kernel_rfl) ?_
                  refine genw hHeld (fun y hy => ?_)
                  exact N20 s67 s68 s69 s70 y hy
                · skip
                  go_simp
                  have L2 := Lib.hid (sl_lit v16 [1, 1] #[.int .u64 1, .int .u64 1] 30 2 rfl rfl (by decide) (by unfold maxLen; omega))
                  replace L1 := Lib.hid (L1.out.below (box_b v16 (.cells #[.int .u64 1, .int .u64 1] 30)))
                  have hb := box_b v16 (.cells #[.int .u64 1, .int .u64 1] 30)
                  generalize hw : v16.alloc (.cells #[.int .u64 1, .int .u64 1] 30) = v17 at *
                  clear hw
                  try go_wp2_with fail
                  refine hK.out _ _ ?_ (fun hNew => ?_)
                  · exact ⟨cell_go hHeld.1 hb, cell_go hHeld.2.1 hb, cell_go hHeld.2.2.1 hb, cell_go hHeld.2.2.2.1 hb, cell_go hHeld.2.2.2.2.1 hb, cell_go hHeld.2.2.2.2.2.1 hb, cell_go hHeld.2.2.2.2.2.2.1 hb, cell_go hHeld.2.2.2.2.2.2.2.1 hb, cell_go hHeld.2.2.2.2.2.2.2.2.1 hb, cell_go hHeld.2.2.2.2.2.2.2.2.2.1 hb, Lib.hid ((Hid.out hHeld.2.2.2.2.2.2.2.2.2.2).trans (hb.mono (Hid.out hHeld.2.2.2.2.2.2.2.2.2.2).size))⟩
                  clear hK K
                  replace hHeld := hNew
                  clear hNew
                  ((try simp only [Act.put]); (try simp only [List.setIfInBounds_toArray]); (try simp only [List.set_cons_succ]); (try simp only [List.set_cons_zero]))
                  refine wpAnyH_ready (rs := [15, 18]) (by kernel_rfl) (by simp) ?_
                  refine AllReadyH.cons (o := { dst := some 67, op := Op.call { callee := Callee.value (Operand.func 13), args := #[Operand.tmp 66], argTypes := #[25] }, type := 35, pos := "law.go:88", after := #[{ on := 14, ground := Ground.data }, { on := 13, ground := Ground.chain }, { on := 13, ground := Ground.guard }], guard := some (13, true) }) rfl (fun K hK => ?_) (AllReadyH.cons (o := { dst := some 70, op := Op.buildSlice 35 2 #[(0, Operand.tmp 68), (1, Operand.tmp 69)], type := 35, pos := "law.go:88", after := #[{ on := 16, ground := Ground.data }, { on := 17, ground := Ground.data }, { on := 13, ground := Ground.guard }], guard := some (13, true) }) rfl (fun K hK => ?_) AllReadyH.nil)
                  · skip
                    go_simp
                    refine (rows_at 2 (D.out.s.below (Hid.out hHeld.2.2.2.2.2.2.2.2.2.2)) (by decide)).mono ?_
                    rintro e v15 ⟨a15, c15, rfl, h5⟩
                    have hb := h5.2
                    replace L1 := Lib.hid (L1.out.below hb)
                    replace L2 := Lib.hid (L2.out.below hb)
                    have R := Lib.hid h5.1
                    clear h5
                    try go_wp2_with fail
                    refine hK.out _ _ ?_ (fun hNew => ?_)
                    · exact ⟨cell_go hHeld.1 hb, cell_go hHeld.2.1 hb, cell_go hHeld.2.2.1 hb, cell_go hHeld.2.2.2.1 hb, cell_go hHeld.2.2.2.2.1 hb, cell_go hHeld.2.2.2.2.2.1 hb, cell_go hHeld.2.2.2.2.2.2.1 hb, cell_go hHeld.2.2.2.2.2.2.2.1 hb, cell_go hHeld.2.2.2.2.2.2.2.2.1 hb, cell_go hHeld.2.2.2.2.2.2.2.2.2.1 hb, Lib.hid ((Hid.out hHeld.2.2.2.2.2.2.2.2.2.2).trans (hb.mono (Hid.out hHeld.2.2.2.2.2.2.2.2.2.2).size))⟩
                    clear hK K
                    replace hHeld := hNew
                    clear hNew
                    ((try simp only [Act.put]); (try simp only [List.setIfInBounds_toArray]); (try simp only [List.set_cons_succ]); (try simp only [List.set_cons_zero]))
                    refine wpAnyH_ready (rs := [18]) (by kernel_rfl) (by simp) ?_
                    refine AllReadyH.cons (o := { dst := some 70, op := Op.buildSlice 35 2 #[(0, Operand.tmp 68), (1, Operand.tmp 69)], type := 35, pos := "law.go:88", after := #[{ on := 16, ground := Ground.data }, { on := 17, ground := Ground.data }, { on := 13, ground := Ground.guard }], guard := some (13, true) }) rfl (fun K hK => ?_) AllReadyH.nil
                    go_simp
                    have Q := Lib.hid (sq_lit (w := v15) (L := [⟨some ⟨v11.heap.size, 0, none⟩, 2, [0, 0]⟩, ⟨some ⟨v16.heap.size, 0, none⟩, 2, [1, 1]⟩]) (cs := #[.slice (some ⟨v11.heap.size, 0, none⟩) 2 2, .slice (some ⟨v16.heap.size, 0, none⟩) 2 2]) (t := 37) (n := 2) (m := [[0, 0], [1, 1]]) rfl rfl rfl (by unfold maxLen; omega) (two_rd L1.out L2.out))
                    replace R := Lib.hid (R.out.below (box_b v15 (.cells #[.slice (some ⟨v11.heap.size, 0, none⟩) 2 2, .slice (some ⟨v16.heap.size, 0, none⟩) 2 2] 37)))
                    have hb := box_b v15 (.cells #[.slice (some ⟨v11.heap.size, 0, none⟩) 2 2, .slice (some ⟨v16.heap.size, 0, none⟩) 2 2] 37)
                    clear L1 L2
                    generalize hw : v15.alloc (.cells #[.slice (some ⟨v11.heap.size, 0, none⟩) 2 2, .slice (some ⟨v16.heap.size, 0, none⟩) 2 2] 37) = v18 at *
                    clear hw
                    try go_wp2_with fail
                    refine hK.out _ _ ?_ (fun hNew => ?_)
                    · exact ⟨cell_go hHeld.1 hb, cell_go hHeld.2.1 hb, cell_go hHeld.2.2.1 hb, cell_go hHeld.2.2.2.1 hb, cell_go hHeld.2.2.2.2.1 hb, cell_go hHeld.2.2.2.2.2.1 hb, cell_go hHeld.2.2.2.2.2.2.1 hb, cell_go hHeld.2.2.2.2.2.2.2.1 hb, cell_go hHeld.2.2.2.2.2.2.2.2.1 hb, cell_go hHeld.2.2.2.2.2.2.2.2.2.1 hb, Lib.hid ((Hid.out hHeld.2.2.2.2.2.2.2.2.2.2).trans (hb.mono (Hid.out hHeld.2.2.2.2.2.2.2.2.2.2).size))⟩
                    clear hK K
                    replace hHeld := hNew
                    clear hNew
                    ((try simp only [Act.put]); (try simp only [List.setIfInBounds_toArray]); (try simp only [List.set_cons_succ]); (try simp only [List.set_cons_zero]))
                    refine wpAnyH_ready (rs := [19]) (by kernel_rfl) (by simp) ?_
                    refine AllReadyH.cons (o := { dst := some 71, op := Op.call { callee := Callee.value (Operand.func 12), args := #[Operand.tmp 67, Operand.tmp 70], argTypes := #[35, 35] }, type := 4, pos := "law.go:88", after := #[{ on := 15, ground := Ground.data }, { on := 18, ground := Ground.data }, { on := 15, ground := Ground.chain }, { on := 13, ground := Ground.guard }], guard := some (13, true) }) rfl (fun K hK => ?_) AllReadyH.nil
                    go_simp
                    refine (squares_at (r := true) R.out Q.out (by decide)).mono ?_
                    rintro e v19 ⟨rfl, nn, hw⟩
                    have hb := drew_b hw
                    clear hw R Q
                    try go_wp2_with fail
                    refine hK.out _ _ ?_ (fun hNew => ?_)
                    · exact ⟨cell_go hHeld.1 hb, cell_go hHeld.2.1 hb, cell_go hHeld.2.2.1 hb, cell_go hHeld.2.2.2.1 hb, cell_go hHeld.2.2.2.2.1 hb, cell_go hHeld.2.2.2.2.2.1 hb, cell_go hHeld.2.2.2.2.2.2.1 hb, cell_go hHeld.2.2.2.2.2.2.2.1 hb, cell_go hHeld.2.2.2.2.2.2.2.2.1 hb, cell_go hHeld.2.2.2.2.2.2.2.2.2.1 hb, Lib.hid ((Hid.out hHeld.2.2.2.2.2.2.2.2.2.2).trans (hb.mono (Hid.out hHeld.2.2.2.2.2.2.2.2.2.2).size))⟩
                    clear hK K
                    replace hHeld := hNew
                    clear hNew
                    ((try simp only [Act.put]); (try simp only [List.setIfInBounds_toArray]); (try simp only [List.set_cons_succ]); (try simp only [List.set_cons_zero]))
                    refine gen1 67 (by kernel_rfl) (fun s67 => ?_)
                    ((try simp only [Act.put]); (try simp only [List.setIfInBounds_toArray]); (try simp only [List.set_cons_succ]); (try simp only [List.set_cons_zero]))
                    refine gen1 68 (by kernel_rfl) (fun s68 => ?_)
                    ((try simp only [Act.put]); (try simp only [List.setIfInBounds_toArray]); (try simp only [List.set_cons_succ]); (try simp only [List.set_cons_zero]))
                    refine gen1 69 (by kernel_rfl) (fun s69 => ?_)
                    ((try simp only [Act.put]); (try simp only [List.setIfInBounds_toArray]); (try simp only [List.set_cons_succ]); (try simp only [List.set_cons_zero]))
                    refine gen1 70 (by kernel_rfl) (fun s70 => ?_)
                    ((try simp only [Act.put]); (try simp only [List.setIfInBounds_toArray]); (try simp only [List.set_cons_succ]); (try simp only [List.set_cons_zero]))
                    refine listed_to (l' := #[true, true, true, true, true, true, true, true, true, true, true, true, true, true, true, true, true, true, true, true, false, false, false, false, false, false, false, false, false, false, false, false, false, false, false, false, false, false, false, false, false, false, false, false, false, false, false, false, false, false, false, false, false, false, false, false, false, false, false, false, false, false, false, false, false, false, false, false, false, false, false, false, false, false, false, false, false, false, false, false, false, false]) (by kernel_rfl) ?_
                    refine genw hHeld (fun y hy => ?_)
                    exact N20 s67 s68 s69 s70 y hy
                  · skip
                    go_simp
                    have Q := Lib.hid (sq_lit (w := v17) (L := [⟨some ⟨v11.heap.size, 0, none⟩, 2, [0, 0]⟩, ⟨some ⟨v16.heap.size, 0, none⟩, 2, [1, 1]⟩]) (cs := #[.slice (some ⟨v11.heap.size, 0, none⟩) 2 2, .slice (some ⟨v16.heap.size, 0, none⟩) 2 2]) (t := 37) (n := 2) (m := [[0, 0], [1, 1]]) rfl rfl rfl (by unfold maxLen; omega) (two_rd L1.out L2.out))
                    have hb := box_b v17 (.cells #[.slice (some ⟨v11.heap.size, 0, none⟩) 2 2, .slice (some ⟨v16.heap.size, 0, none⟩) 2 2] 37)
                    clear L1 L2
                    generalize hw : v17.alloc (.cells #[.slice (some ⟨v11.heap.size, 0, none⟩) 2 2, .slice (some ⟨v16.heap.size, 0, none⟩) 2 2] 37) = v18 at *
                    clear hw
                    try go_wp2_with fail
                    refine hK.out _ _ ?_ (fun hNew => ?_)
                    · exact ⟨cell_go hHeld.1 hb, cell_go hHeld.2.1 hb, cell_go hHeld.2.2.1 hb, cell_go hHeld.2.2.2.1 hb, cell_go hHeld.2.2.2.2.1 hb, cell_go hHeld.2.2.2.2.2.1 hb, cell_go hHeld.2.2.2.2.2.2.1 hb, cell_go hHeld.2.2.2.2.2.2.2.1 hb, cell_go hHeld.2.2.2.2.2.2.2.2.1 hb, cell_go hHeld.2.2.2.2.2.2.2.2.2.1 hb, Lib.hid ((Hid.out hHeld.2.2.2.2.2.2.2.2.2.2).trans (hb.mono (Hid.out hHeld.2.2.2.2.2.2.2.2.2.2).size))⟩
                    clear hK K
                    replace hHeld := hNew
                    clear hNew
                    ((try simp only [Act.put]); (try simp only [List.setIfInBounds_toArray]); (try simp only [List.set_cons_succ]); (try simp only [List.set_cons_zero]))
                    refine wpAnyH_ready (rs := [15]) (by kernel_rfl) (by simp) ?_
                    refine AllReadyH.cons (o := { dst := some 67, op := Op.call { callee := Callee.value (Operand.func 13), args := #[Operand.tmp 66], argTypes := #[25] }, type := 35, pos := "law.go:88", after := #[{ on := 14, ground := Ground.data }, { on := 13, ground := Ground.chain }, { on := 13, ground := Ground.guard }], guard := some (13, true) }) rfl (fun K hK => ?_) AllReadyH.nil
                    go_simp
                    refine (rows_at 2 (D.out.s.below (Hid.out hHeld.2.2.2.2.2.2.2.2.2.2)) (by decide)).mono ?_
                    rintro e v15 ⟨a15, c15, rfl, h5⟩
                    have hb := h5.2
                    replace Q := Lib.hid (Q.out.below hb)
                    have R := Lib.hid h5.1
                    clear h5
                    try go_wp2_with fail
                    refine hK.out _ _ ?_ (fun hNew => ?_)
                    · exact ⟨cell_go hHeld.1 hb, cell_go hHeld.2.1 hb, cell_go hHeld.2.2.1 hb, cell_go hHeld.2.2.2.1 hb, cell_go hHeld.2.2.2.2.1 hb, cell_go hHeld.2.2.2.2.2.1 hb, cell_go hHeld.2.2.2.2.2.2.1 hb, cell_go hHeld.2.2.2.2.2.2.2.1 hb, cell_go hHeld.2.2.2.2.2.2.2.2.1 hb, cell_go hHeld.2.2.2.2.2.2.2.2.2.1 hb, Lib.hid ((Hid.out hHeld.2.2.2.2.2.2.2.2.2.2).trans (hb.mono (Hid.out hHeld.2.2.2.2.2.2.2.2.2.2).size))⟩
                    clear hK K
                    replace hHeld := hNew
                    clear hNew
                    ((try simp only [Act.put]); (try simp only [List.setIfInBounds_toArray]); (try simp only [List.set_cons_succ]); (try simp only [List.set_cons_zero]))
                    refine wpAnyH_ready (rs := [19]) (by kernel_rfl) (by simp) ?_
                    refine AllReadyH.cons (o := { dst := some 71, op := Op.call { callee := Callee.value (Operand.func 12), args := #[Operand.tmp 67, Operand.tmp 70], argTypes := #[35, 35] }, type := 4, pos := "law.go:88", after := #[{ on := 15, ground := Ground.data }, { on := 18, ground := Ground.data }, { on := 15, ground := Ground.chain }, { on := 13, ground := Ground.guard }], guard := some (13, true) }) rfl (fun K hK => ?_) AllReadyH.nil
                    go_simp
                    refine (squares_at (r := true) R.out Q.out (by decide)).mono ?_
                    rintro e v19 ⟨rfl, nn, hw⟩
                    have hb := drew_b hw
                    clear hw R Q
                    try go_wp2_with fail
                    refine hK.out _ _ ?_ (fun hNew => ?_)
                    · exact ⟨cell_go hHeld.1 hb, cell_go hHeld.2.1 hb, cell_go hHeld.2.2.1 hb, cell_go hHeld.2.2.2.1 hb, cell_go hHeld.2.2.2.2.1 hb, cell_go hHeld.2.2.2.2.2.1 hb, cell_go hHeld.2.2.2.2.2.2.1 hb, cell_go hHeld.2.2.2.2.2.2.2.1 hb, cell_go hHeld.2.2.2.2.2.2.2.2.1 hb, cell_go hHeld.2.2.2.2.2.2.2.2.2.1 hb, Lib.hid ((Hid.out hHeld.2.2.2.2.2.2.2.2.2.2).trans (hb.mono (Hid.out hHeld.2.2.2.2.2.2.2.2.2.2).size))⟩
                    clear hK K
                    replace hHeld := hNew
                    clear hNew
                    ((try simp only [Act.put]); (try simp only [List.setIfInBounds_toArray]); (try simp only [List.set_cons_succ]); (try simp only [List.set_cons_zero]))
                    refine gen1 67 (by kernel_rfl) (fun s67 => ?_)
                    ((try simp only [Act.put]); (try simp only [List.setIfInBounds_toArray]); (try simp only [List.set_cons_succ]); (try simp only [List.set_cons_zero]))
                    refine gen1 68 (by kernel_rfl) (fun s68 => ?_)
                    ((try simp only [Act.put]); (try simp only [List.setIfInBounds_toArray]); (try simp only [List.set_cons_succ]); (try simp only [List.set_cons_zero]))
                    refine gen1 69 (by kernel_rfl) (fun s69 => ?_)
                    ((try simp only [Act.put]); (try simp only [List.setIfInBounds_toArray]); (try simp only [List.set_cons_succ]); (try simp only [List.set_cons_zero]))
                    refine gen1 70 (by kernel_rfl) (fun s70 => ?_)
                    ((try simp only [Act.put]); (try simp only [List.setIfInBounds_toArray]); (try simp only [List.set_cons_succ]); (try simp only [List.set_cons_zero]))
                    refine listed_to (l' := #[true, true, true, true, true, true, true, true, true, true, true, true, true, true, true, true, true, true, true, true, false, false, false, false, false, false, false, false, false, false, false, false, false, false, false, false, false, false, false, false, false, false, false, false, false, false, false, false, false, false, false, false, false, false, false, false, false, false, false, false, false, false, false, false, false, false, false, false, false, false, false, false, false, false, false, false, false, false, false, false, false, false]) (by kernel_rfl) ?_
                    refine genw hHeld (fun y hy => ?_)
                    exact N20 s67 s68 s69 s70 y hy
              · skip
                go_simp
                have L2 := Lib.hid (sl_lit v11 [1, 1] #[.int .u64 1, .int .u64 1] 30 2 rfl rfl (by decide) (by unfold maxLen; omega))
                have hb := box_b v11 (.cells #[.int .u64 1, .int .u64 1] 30)
                generalize hw : v11.alloc (.cells #[.int .u64 1, .int .u64 1] 30) = v17 at *
                clear hw
                try go_wp2_with fail
                refine hK.out _ _ ?_ (fun hNew => ?_)
                · exact ⟨cell_go hHeld.1 hb, cell_go hHeld.2.1 hb, cell_go hHeld.2.2.1 hb, cell_go hHeld.2.2.2.1 hb, cell_go hHeld.2.2.2.2.1 hb, cell_go hHeld.2.2.2.2.2.1 hb, cell_go hHeld.2.2.2.2.2.2.1 hb, cell_go hHeld.2.2.2.2.2.2.2.1 hb, cell_go hHeld.2.2.2.2.2.2.2.2.1 hb, cell_go hHeld.2.2.2.2.2.2.2.2.2.1 hb, Lib.hid ((Hid.out hHeld.2.2.2.2.2.2.2.2.2.2).trans (hb.mono (Hid.out hHeld.2.2.2.2.2.2.2.2.2.2).size))⟩
                clear hK K
                replace hHeld := hNew
                clear hNew
                ((try simp only [Act.put]); (try simp only [List.setIfInBounds_toArray]); (try simp only [List.set_cons_succ]); (try simp only [List.set_cons_zero]))
                refine wpAnyH_ready (rs := [15, 16]) (by kernel_rfl) (by simp) ?_
                refine AllReadyH.cons (o := { dst := some 67, op := Op.call { callee := Callee.value (Operand.func 13), args := #[Operand.tmp 66], argTypes := #[25] }, type := 35, pos := "law.go:88", after := #[{ on := 14, ground := Ground.data }, { on := 13, ground := Ground.chain }, { on := 13, ground := Ground.guard }], guard := some (13, true) }) rfl (fun K hK => ?_) (AllReadyH.cons (o := { dst := some 68, op := Op.buildSlice 37 2 #[(0, Operand.const (Value.int IntKind.u64 0)), (1, Operand.const (Value.int IntKind.u64 0))], type := 37, pos := "law.go:88", after := #[{ on := 13, ground := Ground.guard }], guard := some (13, true) }) rfl (fun K hK => ?_) AllReadyH.nil)
                · skip
                  go_simp
                  refine (rows_at 2 (D.out.s.below (Hid.out hHeld.2.2.2.2.2.2.2.2.2.2)) (by decide)).mono ?_
                  rintro e v15 ⟨a15, c15, rfl, h5⟩
                  have hb := h5.2
                  replace L2 := Lib.hid (L2.out.below hb)
                  have R := Lib.hid h5.1
                  clear h5
                  try go_wp2_with fail
                  refine hK.out _ _ ?_ (fun hNew => ?_)
                  · exact ⟨cell_go hHeld.1 hb, cell_go hHeld.2.1 hb, cell_go hHeld.2.2.1 hb, cell_go hHeld.2.2.2.1 hb, cell_go hHeld.2.2.2.2.1 hb, cell_go hHeld.2.2.2.2.2.1 hb, cell_go hHeld.2.2.2.2.2.2.1 hb, cell_go hHeld.2.2.2.2.2.2.2.1 hb, cell_go hHeld.2.2.2.2.2.2.2.2.1 hb, cell_go hHeld.2.2.2.2.2.2.2.2.2.1 hb, Lib.hid ((Hid.out hHeld.2.2.2.2.2.2.2.2.2.2).trans (hb.mono (Hid.out hHeld.2.2.2.2.2.2.2.2.2.2).size))⟩
                  clear hK K
                  replace hHeld := hNew
                  clear hNew
                  ((try simp only [Act.put]); (try simp only [List.setIfInBounds_toArray]); (try simp only [List.set_cons_succ]); (try simp only [List.set_cons_zero]))
                  refine wpAnyH_ready (rs := [16]) (by kernel_rfl) (by simp) ?_
                  refine AllReadyH.cons (o := { dst := some 68, op := Op.buildSlice 37 2 #[(0, Operand.const (Value.int IntKind.u64 0)), (1, Operand.const (Value.int IntKind.u64 0))], type := 37, pos := "law.go:88", after := #[{ on := 13, ground := Ground.guard }], guard := some (13, true) }) rfl (fun K hK => ?_) AllReadyH.nil
                  go_simp
                  have L1 := Lib.hid (sl_lit v15 [0, 0] #[.int .u64 0, .int .u64 0] 30 2 rfl rfl (by decide) (by unfold maxLen; omega))
                  replace R := Lib.hid (R.out.below (box_b v15 (.cells #[.int .u64 0, .int .u64 0] 30)))
                  replace L2 := Lib.hid (L2.out.below (box_b v15 (.cells #[.int .u64 0, .int .u64 0] 30)))
                  have hb := box_b v15 (.cells #[.int .u64 0, .int .u64 0] 30)
                  generalize hw : v15.alloc (.cells #[.int .u64 0, .int .u64 0] 30) = v16 at *
                  clear hw
                  try go_wp2_with fail
                  refine hK.out _ _ ?_ (fun hNew => ?_)
                  · exact ⟨cell_go hHeld.1 hb, cell_go hHeld.2.1 hb, cell_go hHeld.2.2.1 hb, cell_go hHeld.2.2.2.1 hb, cell_go hHeld.2.2.2.2.1 hb, cell_go hHeld.2.2.2.2.2.1 hb, cell_go hHeld.2.2.2.2.2.2.1 hb, cell_go hHeld.2.2.2.2.2.2.2.1 hb, cell_go hHeld.2.2.2.2.2.2.2.2.1 hb, cell_go hHeld.2.2.2.2.2.2.2.2.2.1 hb, Lib.hid ((Hid.out hHeld.2.2.2.2.2.2.2.2.2.2).trans (hb.mono (Hid.out hHeld.2.2.2.2.2.2.2.2.2.2).size))⟩
                  clear hK K
                  replace hHeld := hNew
                  clear hNew
                  ((try simp only [Act.put]); (try simp only [List.setIfInBounds_toArray]); (try simp only [List.set_cons_succ]); (try simp only [List.set_cons_zero]))
                  refine wpAnyH_ready (rs := [18]) (by kernel_rfl) (by simp) ?_
                  refine AllReadyH.cons (o := { dst := some 70, op := Op.buildSlice 35 2 #[(0, Operand.tmp 68), (1, Operand.tmp 69)], type := 35, pos := "law.go:88", after := #[{ on := 16, ground := Ground.data }, { on := 17, ground := Ground.data }, { on := 13, ground := Ground.guard }], guard := some (13, true) }) rfl (fun K hK => ?_) AllReadyH.nil
                  go_simp
                  have Q := Lib.hid (sq_lit (w := v16) (L := [⟨some ⟨v15.heap.size, 0, none⟩, 2, [0, 0]⟩, ⟨some ⟨v11.heap.size, 0, none⟩, 2, [1, 1]⟩]) (cs := #[.slice (some ⟨v15.heap.size, 0, none⟩) 2 2, .slice (some ⟨v11.heap.size, 0, none⟩) 2 2]) (t := 37) (n := 2) (m := [[0, 0], [1, 1]]) rfl rfl rfl (by unfold maxLen; omega) (two_rd L1.out L2.out))
                  replace R := Lib.hid (R.out.below (box_b v16 (.cells #[.slice (some ⟨v15.heap.size, 0, none⟩) 2 2, .slice (some ⟨v11.heap.size, 0, none⟩) 2 2] 37)))
                  have hb := box_b v16 (.cells #[.slice (some ⟨v15.heap.size, 0, none⟩) 2 2, .slice (some ⟨v11.heap.size, 0, none⟩) 2 2] 37)
                  clear L1 L2
                  generalize hw : v16.alloc (.cells #[.slice (some ⟨v15.heap.size, 0, none⟩) 2 2, .slice (some ⟨v11.heap.size, 0, none⟩) 2 2] 37) = v18 at *
                  clear hw
                  try go_wp2_with fail
                  refine hK.out _ _ ?_ (fun hNew => ?_)
                  · exact ⟨cell_go hHeld.1 hb, cell_go hHeld.2.1 hb, cell_go hHeld.2.2.1 hb, cell_go hHeld.2.2.2.1 hb, cell_go hHeld.2.2.2.2.1 hb, cell_go hHeld.2.2.2.2.2.1 hb, cell_go hHeld.2.2.2.2.2.2.1 hb, cell_go hHeld.2.2.2.2.2.2.2.1 hb, cell_go hHeld.2.2.2.2.2.2.2.2.1 hb, cell_go hHeld.2.2.2.2.2.2.2.2.2.1 hb, Lib.hid ((Hid.out hHeld.2.2.2.2.2.2.2.2.2.2).trans (hb.mono (Hid.out hHeld.2.2.2.2.2.2.2.2.2.2).size))⟩
                  clear hK K
                  replace hHeld := hNew
                  clear hNew
                  ((try simp only [Act.put]); (try simp only [List.setIfInBounds_toArray]); (try simp only [List.set_cons_succ]); (try simp only [List.set_cons_zero]))
                  refine wpAnyH_ready (rs := [19]) (by kernel_rfl) (by simp) ?_
                  refine AllReadyH.cons (o := { dst := some 71, op := Op.call { callee := Callee.value (Operand.func 12), args := #[Operand.tmp 67, Operand.tmp 70], argTypes := #[35, 35] }, type := 4, pos := "law.go:88", after := #[{ on := 15, ground := Ground.data }, { on := 18, ground := Ground.data }, { on := 15, ground := Ground.chain }, { on := 13, ground := Ground.guard }], guard := some (13, true) }) rfl (fun K hK => ?_) AllReadyH.nil
                  go_simp
                  refine (squares_at (r := true) R.out Q.out (by decide)).mono ?_
                  rintro e v19 ⟨rfl, nn, hw⟩
                  have hb := drew_b hw
                  clear hw R Q
                  try go_wp2_with fail
                  refine hK.out _ _ ?_ (fun hNew => ?_)
                  · exact ⟨cell_go hHeld.1 hb, cell_go hHeld.2.1 hb, cell_go hHeld.2.2.1 hb, cell_go hHeld.2.2.2.1 hb, cell_go hHeld.2.2.2.2.1 hb, cell_go hHeld.2.2.2.2.2.1 hb, cell_go hHeld.2.2.2.2.2.2.1 hb, cell_go hHeld.2.2.2.2.2.2.2.1 hb, cell_go hHeld.2.2.2.2.2.2.2.2.1 hb, cell_go hHeld.2.2.2.2.2.2.2.2.2.1 hb, Lib.hid ((Hid.out hHeld.2.2.2.2.2.2.2.2.2.2).trans (hb.mono (Hid.out hHeld.2.2.2.2.2.2.2.2.2.2).size))⟩
                  clear hK K
                  replace hHeld := hNew
                  clear hNew
                  ((try simp only [Act.put]); (try simp only [List.setIfInBounds_toArray]); (try simp only [List.set_cons_succ]); (try simp only [List.set_cons_zero]))
                  refine gen1 67 (by kernel_rfl) (fun s67 => ?_)
                  ((try simp only [Act.put]); (try simp only [List.setIfInBounds_toArray]); (try simp only [List.set_cons_succ]); (try simp only [List.set_cons_zero]))
                  refine gen1 68 (by kernel_rfl) (fun s68 => ?_)
                  ((try simp only [Act.put]); (try simp only [List.setIfInBounds_toArray]); (try simp only [List.set_cons_succ]); (try simp only [List.set_cons_zero]))
                  refine gen1 69 (by kernel_rfl) (fun s69 => ?_)
                  ((try simp only [Act.put]); (try simp only [List.setIfInBounds_toArray]); (try simp only [List.set_cons_succ]); (try simp only [List.set_cons_zero]))
                  refine gen1 70 (by kernel_rfl) (fun s70 => ?_)
                  ((try simp only [Act.put]); (try simp only [List.setIfInBounds_toArray]); (try simp only [List.set_cons_succ]); (try simp only [List.set_cons_zero]))
                  refine listed_to (l' := #[true, true, true, true, true, true, true, true, true, true, true, true, true, true, true, true, true, true, true, true, false, false, false, false, false, false, false, false, false, false, false, false, false, false, false, false, false, false, false, false, false, false, false, false, false, false, false, false, false, false, false, false, false, false, false, false, false, false, false, false, false, false, false, false, false, false, false, false, false, false, false, false, false, false, false, false, false, false, false, false, false, false]) (by kernel_rfl) ?_
                  refine genw hHeld (fun y hy => ?_)
                  exact N20 s67 s68 s69 s70 y hy
                · skip
                  go_simp
                  have L1 := Lib.hid (sl_lit v17 [0, 0] #[.int .u64 0, .int .u64 0] 30 2 rfl rfl (by decide) (by unfold maxLen; omega))
                  replace L2 := Lib.hid (L2.out.below (box_b v17 (.cells #[.int .u64 0, .int .u64 0] 30)))
                  have hb := box_b v17 (.cells #[.int .u64 0, .int .u64 0] 30)
                  generalize hw : v17.alloc (.cells #[.int .u64 0, .int .u64 0] 30) = v16 at *
                  clear hw
                  try go_wp2_with fail
                  refine hK.out _ _ ?_ (fun hNew => ?_)
                  · exact ⟨cell_go hHeld.1 hb, cell_go hHeld.2.1 hb, cell_go hHeld.2.2.1 hb, cell_go hHeld.2.2.2.1 hb, cell_go hHeld.2.2.2.2.1 hb, cell_go hHeld.2.2.2.2.2.1 hb, cell_go hHeld.2.2.2.2.2.2.1 hb, cell_go hHeld.2.2.2.2.2.2.2.1 hb, cell_go hHeld.2.2.2.2.2.2.2.2.1 hb, cell_go hHeld.2.2.2.2.2.2.2.2.2.1 hb, Lib.hid ((Hid.out hHeld.2.2.2.2.2.2.2.2.2.2).trans (hb.mono (Hid.out hHeld.2.2.2.2.2.2.2.2.2.2).size))⟩
                  clear hK K
                  replace hHeld := hNew
                  clear hNew
                  ((try simp only [Act.put]); (try simp only [List.setIfInBounds_toArray]); (try simp only [List.set_cons_succ]); (try simp only [List.set_cons_zero]))
                  refine wpAnyH_ready (rs := [15, 18]) (by kernel_rfl) (by simp) ?_
                  refine AllReadyH.cons (o := { dst := some 67, op := Op.call { callee := Callee.value (Operand.func 13), args := #[Operand.tmp 66], argTypes := #[25] }, type := 35, pos := "law.go:88", after := #[{ on := 14, ground := Ground.data }, { on := 13, ground := Ground.chain }, { on := 13, ground := Ground.guard }], guard := some (13, true) }) rfl (fun K hK => ?_) (AllReadyH.cons (o := { dst := some 70, op := Op.buildSlice 35 2 #[(0, Operand.tmp 68), (1, Operand.tmp 69)], type := 35, pos := "law.go:88", after := #[{ on := 16, ground := Ground.data }, { on := 17, ground := Ground.data }, { on := 13, ground := Ground.guard }], guard := some (13, true) }) rfl (fun K hK => ?_) AllReadyH.nil)
                  · skip
                    go_simp
                    refine (rows_at 2 (D.out.s.below (Hid.out hHeld.2.2.2.2.2.2.2.2.2.2)) (by decide)).mono ?_
                    rintro e v15 ⟨a15, c15, rfl, h5⟩
                    have hb := h5.2
                    replace L1 := Lib.hid (L1.out.below hb)
                    replace L2 := Lib.hid (L2.out.below hb)
                    have R := Lib.hid h5.1
                    clear h5
                    try go_wp2_with fail
                    refine hK.out _ _ ?_ (fun hNew => ?_)
                    · exact ⟨cell_go hHeld.1 hb, cell_go hHeld.2.1 hb, cell_go hHeld.2.2.1 hb, cell_go hHeld.2.2.2.1 hb, cell_go hHeld.2.2.2.2.1 hb, cell_go hHeld.2.2.2.2.2.1 hb, cell_go hHeld.2.2.2.2.2.2.1 hb, cell_go hHeld.2.2.2.2.2.2.2.1 hb, cell_go hHeld.2.2.2.2.2.2.2.2.1 hb, cell_go hHeld.2.2.2.2.2.2.2.2.2.1 hb, Lib.hid ((Hid.out hHeld.2.2.2.2.2.2.2.2.2.2).trans (hb.mono (Hid.out hHeld.2.2.2.2.2.2.2.2.2.2).size))⟩
                    clear hK K
                    replace hHeld := hNew
                    clear hNew
                    ((try simp only [Act.put]); (try simp only [List.setIfInBounds_toArray]); (try simp only [List.set_cons_succ]); (try simp only [List.set_cons_zero]))
                    refine wpAnyH_ready (rs := [18]) (by kernel_rfl) (by simp) ?_
                    refine AllReadyH.cons (o := { dst := some 70, op := Op.buildSlice 35 2 #[(0, Operand.tmp 68), (1, Operand.tmp 69)], type := 35, pos := "law.go:88", after := #[{ on := 16, ground := Ground.data }, { on := 17, ground := Ground.data }, { on := 13, ground := Ground.guard }], guard := some (13, true) }) rfl (fun K hK => ?_) AllReadyH.nil
                    go_simp
                    have Q := Lib.hid (sq_lit (w := v15) (L := [⟨some ⟨v17.heap.size, 0, none⟩, 2, [0, 0]⟩, ⟨some ⟨v11.heap.size, 0, none⟩, 2, [1, 1]⟩]) (cs := #[.slice (some ⟨v17.heap.size, 0, none⟩) 2 2, .slice (some ⟨v11.heap.size, 0, none⟩) 2 2]) (t := 37) (n := 2) (m := [[0, 0], [1, 1]]) rfl rfl rfl (by unfold maxLen; omega) (two_rd L1.out L2.out))
                    replace R := Lib.hid (R.out.below (box_b v15 (.cells #[.slice (some ⟨v17.heap.size, 0, none⟩) 2 2, .slice (some ⟨v11.heap.size, 0, none⟩) 2 2] 37)))
                    have hb := box_b v15 (.cells #[.slice (some ⟨v17.heap.size, 0, none⟩) 2 2, .slice (some ⟨v11.heap.size, 0, none⟩) 2 2] 37)
                    clear L1 L2
                    generalize hw : v15.alloc (.cells #[.slice (some ⟨v17.heap.size, 0, none⟩) 2 2, .slice (some ⟨v11.heap.size, 0, none⟩) 2 2] 37) = v18 at *
                    clear hw
                    try go_wp2_with fail
                    refine hK.out _ _ ?_ (fun hNew => ?_)
                    · exact ⟨cell_go hHeld.1 hb, cell_go hHeld.2.1 hb, cell_go hHeld.2.2.1 hb, cell_go hHeld.2.2.2.1 hb, cell_go hHeld.2.2.2.2.1 hb, cell_go hHeld.2.2.2.2.2.1 hb, cell_go hHeld.2.2.2.2.2.2.1 hb, cell_go hHeld.2.2.2.2.2.2.2.1 hb, cell_go hHeld.2.2.2.2.2.2.2.2.1 hb, cell_go hHeld.2.2.2.2.2.2.2.2.2.1 hb, Lib.hid ((Hid.out hHeld.2.2.2.2.2.2.2.2.2.2).trans (hb.mono (Hid.out hHeld.2.2.2.2.2.2.2.2.2.2).size))⟩
                    clear hK K
                    replace hHeld := hNew
                    clear hNew
                    ((try simp only [Act.put]); (try simp only [List.setIfInBounds_toArray]); (try simp only [List.set_cons_succ]); (try simp only [List.set_cons_zero]))
                    refine wpAnyH_ready (rs := [19]) (by kernel_rfl) (by simp) ?_
                    refine AllReadyH.cons (o := { dst := some 71, op := Op.call { callee := Callee.value (Operand.func 12), args := #[Operand.tmp 67, Operand.tmp 70], argTypes := #[35, 35] }, type := 4, pos := "law.go:88", after := #[{ on := 15, ground := Ground.data }, { on := 18, ground := Ground.data }, { on := 15, ground := Ground.chain }, { on := 13, ground := Ground.guard }], guard := some (13, true) }) rfl (fun K hK => ?_) AllReadyH.nil
                    go_simp
                    refine (squares_at (r := true) R.out Q.out (by decide)).mono ?_
                    rintro e v19 ⟨rfl, nn, hw⟩
                    have hb := drew_b hw
                    clear hw R Q
                    try go_wp2_with fail
                    refine hK.out _ _ ?_ (fun hNew => ?_)
                    · exact ⟨cell_go hHeld.1 hb, cell_go hHeld.2.1 hb, cell_go hHeld.2.2.1 hb, cell_go hHeld.2.2.2.1 hb, cell_go hHeld.2.2.2.2.1 hb, cell_go hHeld.2.2.2.2.2.1 hb, cell_go hHeld.2.2.2.2.2.2.1 hb, cell_go hHeld.2.2.2.2.2.2.2.1 hb, cell_go hHeld.2.2.2.2.2.2.2.2.1 hb, cell_go hHeld.2.2.2.2.2.2.2.2.2.1 hb, Lib.hid ((Hid.out hHeld.2.2.2.2.2.2.2.2.2.2).trans (hb.mono (Hid.out hHeld.2.2.2.2.2.2.2.2.2.2).size))⟩
                    clear hK K
                    replace hHeld := hNew
                    clear hNew
                    ((try simp only [Act.put]); (try simp only [List.setIfInBounds_toArray]); (try simp only [List.set_cons_succ]); (try simp only [List.set_cons_zero]))
                    refine gen1 67 (by kernel_rfl) (fun s67 => ?_)
                    ((try simp only [Act.put]); (try simp only [List.setIfInBounds_toArray]); (try simp only [List.set_cons_succ]); (try simp only [List.set_cons_zero]))
                    refine gen1 68 (by kernel_rfl) (fun s68 => ?_)
                    ((try simp only [Act.put]); (try simp only [List.setIfInBounds_toArray]); (try simp only [List.set_cons_succ]); (try simp only [List.set_cons_zero]))
                    refine gen1 69 (by kernel_rfl) (fun s69 => ?_)
                    ((try simp only [Act.put]); (try simp only [List.setIfInBounds_toArray]); (try simp only [List.set_cons_succ]); (try simp only [List.set_cons_zero]))
                    refine gen1 70 (by kernel_rfl) (fun s70 => ?_)
                    ((try simp only [Act.put]); (try simp only [List.setIfInBounds_toArray]); (try simp only [List.set_cons_succ]); (try simp only [List.set_cons_zero]))
                    refine listed_to (l' := #[true, true, true, true, true, true, true, true, true, true, true, true, true, true, true, true, true, true, true, true, false, false, false, false, false, false, false, false, false, false, false, false, false, false, false, false, false, false, false, false, false, false, false, false, false, false, false, false, false, false, false, false, false, false, false, false, false, false, false, false, false, false, false, false, false, false, false, false, false, false, false, false, false, false, false, false, false, false, false, false, false, false]) (by kernel_rfl) ?_
                    refine genw hHeld (fun y hy => ?_)
                    exact N20 s67 s68 s69 s70 y hy
                  · skip
                    go_simp
                    have Q := Lib.hid (sq_lit (w := v16) (L := [⟨some ⟨v17.heap.size, 0, none⟩, 2, [0, 0]⟩, ⟨some ⟨v11.heap.size, 0, none⟩, 2, [1, 1]⟩]) (cs := #[.slice (some ⟨v17.heap.size, 0, none⟩) 2 2, .slice (some ⟨v11.heap.size, 0, none⟩) 2 2]) (t := 37) (n := 2) (m := [[0, 0], [1, 1]]) rfl rfl rfl (by unfold maxLen; omega) (two_rd L1.out L2.out))
                    have hb := box_b v16 (.cells #[.slice (some ⟨v17.heap.size, 0, none⟩) 2 2, .slice (some ⟨v11.heap.size, 0, none⟩) 2 2] 37)
                    clear L1 L2
                    generalize hw : v16.alloc (.cells #[.slice (some ⟨v17.heap.size, 0, none⟩) 2 2, .slice (some ⟨v11.heap.size, 0, none⟩) 2 2] 37) = v18 at *
                    clear hw
                    try go_wp2_with fail
                    refine hK.out _ _ ?_ (fun hNew => ?_)
                    · exact ⟨cell_go hHeld.1 hb, cell_go hHeld.2.1 hb, cell_go hHeld.2.2.1 hb, cell_go hHeld.2.2.2.1 hb, cell_go hHeld.2.2.2.2.1 hb, cell_go hHeld.2.2.2.2.2.1 hb, cell_go hHeld.2.2.2.2.2.2.1 hb, cell_go hHeld.2.2.2.2.2.2.2.1 hb, cell_go hHeld.2.2.2.2.2.2.2.2.1 hb, cell_go hHeld.2.2.2.2.2.2.2.2.2.1 hb, Lib.hid ((Hid.out hHeld.2.2.2.2.2.2.2.2.2.2).trans (hb.mono (Hid.out hHeld.2.2.2.2.2.2.2.2.2.2).size))⟩
                    clear hK K
                    replace hHeld := hNew
                    clear hNew
                    ((try simp only [Act.put]); (try simp only [List.setIfInBounds_toArray]); (try simp only [List.set_cons_succ]); (try simp only [List.set_cons_zero]))
                    refine wpAnyH_ready (rs := [15]) (by kernel_rfl) (by simp) ?_
                    refine AllReadyH.cons (o := { dst := some 67, op := Op.call { callee := Callee.value (Operand.func 13), args := #[Operand.tmp 66], argTypes := #[25] }, type := 35, pos := "law.go:88", after := #[{ on := 14, ground := Ground.data }, { on := 13, ground := Ground.chain }, { on := 13, ground := Ground.guard }], guard := some (13, true) }) rfl (fun K hK => ?_) AllReadyH.nil
                    go_simp
                    refine (rows_at 2 (D.out.s.below (Hid.out hHeld.2.2.2.2.2.2.2.2.2.2)) (by decide)).mono ?_
                    rintro e v15 ⟨a15, c15, rfl, h5⟩
                    have hb := h5.2
                    replace Q := Lib.hid (Q.out.below hb)
                    have R := Lib.hid h5.1
                    clear h5
                    try go_wp2_with fail
                    refine hK.out _ _ ?_ (fun hNew => ?_)
                    · exact ⟨cell_go hHeld.1 hb, cell_go hHeld.2.1 hb, cell_go hHeld.2.2.1 hb, cell_go hHeld.2.2.2.1 hb, cell_go hHeld.2.2.2.2.1 hb, cell_go hHeld.2.2.2.2.2.1 hb, cell_go hHeld.2.2.2.2.2.2.1 hb, cell_go hHeld.2.2.2.2.2.2.2.1 hb, cell_go hHeld.2.2.2.2.2.2.2.2.1 hb, cell_go hHeld.2.2.2.2.2.2.2.2.2.1 hb, Lib.hid ((Hid.out hHeld.2.2.2.2.2.2.2.2.2.2).trans (hb.mono (Hid.out hHeld.2.2.2.2.2.2.2.2.2.2).size))⟩
                    clear hK K
                    replace hHeld := hNew
                    clear hNew
                    ((try simp only [Act.put]); (try simp only [List.setIfInBounds_toArray]); (try simp only [List.set_cons_succ]); (try simp only [List.set_cons_zero]))
                    refine wpAnyH_ready (rs := [19]) (by kernel_rfl) (by simp) ?_
                    refine AllReadyH.cons (o := { dst := some 71, op := Op.call { callee := Callee.value (Operand.func 12), args := #[Operand.tmp 67, Operand.tmp 70], argTypes := #[35, 35] }, type := 4, pos := "law.go:88", after := #[{ on := 15, ground := Ground.data }, { on := 18, ground := Ground.data }, { on := 15, ground := Ground.chain }, { on := 13, ground := Ground.guard }], guard := some (13, true) }) rfl (fun K hK => ?_) AllReadyH.nil
                    go_simp
                    refine (squares_at (r := true) R.out Q.out (by decide)).mono ?_
                    rintro e v19 ⟨rfl, nn, hw⟩
                    have hb := drew_b hw
                    clear hw R Q
                    try go_wp2_with fail
                    refine hK.out _ _ ?_ (fun hNew => ?_)
                    · exact ⟨cell_go hHeld.1 hb, cell_go hHeld.2.1 hb, cell_go hHeld.2.2.1 hb, cell_go hHeld.2.2.2.1 hb, cell_go hHeld.2.2.2.2.1 hb, cell_go hHeld.2.2.2.2.2.1 hb, cell_go hHeld.2.2.2.2.2.2.1 hb, cell_go hHeld.2.2.2.2.2.2.2.1 hb, cell_go hHeld.2.2.2.2.2.2.2.2.1 hb, cell_go hHeld.2.2.2.2.2.2.2.2.2.1 hb, Lib.hid ((Hid.out hHeld.2.2.2.2.2.2.2.2.2.2).trans (hb.mono (Hid.out hHeld.2.2.2.2.2.2.2.2.2.2).size))⟩
                    clear hK K
                    replace hHeld := hNew
                    clear hNew
                    ((try simp only [Act.put]); (try simp only [List.setIfInBounds_toArray]); (try simp only [List.set_cons_succ]); (try simp only [List.set_cons_zero]))
                    refine gen1 67 (by kernel_rfl) (fun s67 => ?_)
                    ((try simp only [Act.put]); (try simp only [List.setIfInBounds_toArray]); (try simp only [List.set_cons_succ]); (try simp only [List.set_cons_zero]))
                    refine gen1 68 (by kernel_rfl) (fun s68 => ?_)
                    ((try simp only [Act.put]); (try simp only [List.setIfInBounds_toArray]); (try simp only [List.set_cons_succ]); (try simp only [List.set_cons_zero]))
                    refine gen1 69 (by kernel_rfl) (fun s69 => ?_)
                    ((try simp only [Act.put]); (try simp only [List.setIfInBounds_toArray]); (try simp only [List.set_cons_succ]); (try simp only [List.set_cons_zero]))
                    refine gen1 70 (by kernel_rfl) (fun s70 => ?_)
                    ((try simp only [Act.put]); (try simp only [List.setIfInBounds_toArray]); (try simp only [List.set_cons_succ]); (try simp only [List.set_cons_zero]))
                    refine listed_to (l' := #[true, true, true, true, true, true, true, true, true, true, true, true, true, true, true, true, true, true, true, true, false, false, false, false, false, false, false, false, false, false, false, false, false, false, false, false, false, false, false, false, false, false, false, false, false, false, false, false, false, false, false, false, false, false, false, false, false, false, false, false, false, false, false, false, false, false, false, false, false, false, false, false, false, false, false, false, false, false, false, false, false, false]) (by kernel_rfl) ?_
                    refine genw hHeld (fun y hy => ?_)
                    exact N20 s67 s68 s69 s70 y hy
          · as_aux_lemma =>
              refine wpAnyH_take (i := 20) (oi := { dst := some 72, op := Op.pick (Operand.tmp 65) (Operand.tmp 71) (Operand.const (Value.bool false)), type := 4, pos := "law.go:88", after := #[{ on := 13, ground := Ground.data }, { on := 19, ground := Ground.data }], guard := none }) (v := ?_) rfl (by kernel_rfl) (by kernel_rfl) (by kernel_rfl) (fun _ _ _ h => h) (Or.inl ⟨by rfl, ?_⟩) (by assumption) ?_
              rotate_left
              · (intro w hSw; (try dsimp only at hSw); go_simp; try with_reducible rfl)
              ((try simp only [Act.put]); (try simp only [List.setIfInBounds_toArray]); (try simp only [List.set_cons_succ]); (try simp only [List.set_cons_zero]))
              refine wpAnyH_take (i := 21) (oi := { dst := some 73, op := Op.move (Operand.tmp 72), type := 4, pos := "law.go:88", after := #[{ on := 20, ground := Ground.data }, { on := 19, ground := Ground.chain }], guard := none }) (v := ?_) rfl (by kernel_rfl) (by kernel_rfl) (by kernel_rfl) (fun _ _ _ h => h) (Or.inl ⟨by rfl, ?_⟩) (by assumption) ?_
              rotate_left
              · (intro w hSw; (try dsimp only at hSw); go_simp; try with_reducible rfl)
              ((try simp only [Act.put]); (try simp only [List.setIfInBounds_toArray]); (try simp only [List.set_cons_succ]); (try simp only [List.set_cons_zero]))
              refine wpAnyH_take (i := 22) (oi := { dst := some 74, op := Op.move (Operand.tmp 12), type := 26, pos := "law.go:88", after := #[{ on := 21, ground := Ground.guard }], guard := some (21, true) }) (v := ?_) rfl (by kernel_rfl) (by kernel_rfl) (by kernel_rfl) (fun _ _ _ h => h) (Or.inl ⟨by rfl, ?_⟩) (by assumption) ?_
              rotate_left
              · (intro w hSw; (try dsimp only at hSw); go_simp; try with_reducible rfl)
              ((try simp only [Act.put]); (try simp only [List.setIfInBounds_toArray]); (try simp only [List.set_cons_succ]); (try simp only [List.set_cons_zero]))
              refine wpAnyH_take (i := 23) (oi := { dst := some 75, op := Op.binOp BinOp.eql 26 (Operand.tmp 74) (Operand.const (Value.int IntKind.i64 1)) 26, type := 4, pos := "law.go:88", after := #[{ on := 22, ground := Ground.data }, { on := 21, ground := Ground.guard }], guard := some (21, true) }) (v := ?_) rfl (by kernel_rfl) (by kernel_rfl) (by kernel_rfl) (fun _ _ _ h => h) (Or.inl ⟨by rfl, ?_⟩) (by assumption) ?_
              rotate_left
              · (intro w hSw; (try dsimp only at hSw); go_simp; try with_reducible rfl)
              ((try simp only [Act.put]); (try simp only [List.setIfInBounds_toArray]); (try simp only [List.set_cons_succ]); (try simp only [List.set_cons_zero]))
              refine wpAnyH_take (i := 24) (oi := { dst := some 76, op := Op.pick (Operand.tmp 73) (Operand.tmp 75) (Operand.const (Value.bool false)), type := 4, pos := "law.go:88", after := #[{ on := 21, ground := Ground.data }, { on := 23, ground := Ground.data }], guard := none }) (v := ?_) rfl (by kernel_rfl) (by kernel_rfl) (by kernel_rfl) (fun _ _ _ h => h) (Or.inl ⟨by rfl, ?_⟩) (by assumption) ?_
              rotate_left
              · (intro w hSw; (try dsimp only at hSw); go_simp; try with_reducible rfl)
              ((try simp only [Act.put]); (try simp only [List.setIfInBounds_toArray]); (try simp only [List.set_cons_succ]); (try simp only [List.set_cons_zero]))
              refine wpAnyH_take (i := 25) (oi := { dst := some 77, op := Op.move (Operand.tmp 76), type := 4, pos := "law.go:88", after := #[{ on := 24, ground := Ground.data }, { on := 21, ground := Ground.chain }], guard := none }) (v := ?_) rfl (by kernel_rfl) (by kernel_rfl) (by kernel_rfl) (fun _ _ _ h => h) (Or.inl ⟨by rfl, ?_⟩) (by assumption) ?_
              rotate_left
              · (intro w hSw; (try dsimp only at hSw); go_simp; try with_reducible rfl)
              ((try simp only [Act.put]); (try simp only [List.setIfInBounds_toArray]); (try simp only [List.set_cons_succ]); (try simp only [List.set_cons_zero]))
              refine wpAnyH_take (i := 26) (oi := { dst := some 78, op := Op.move (Operand.tmp 14), type := 26, pos := "law.go:88", after := #[{ on := 25, ground := Ground.guard }], guard := some (25, true) }) (v := ?_) rfl (by kernel_rfl) (by kernel_rfl) (by kernel_rfl) (fun _ _ _ h => h) (Or.inl ⟨by rfl, ?_⟩) (by assumption) ?_
              rotate_left
              · (intro w hSw; (try dsimp only at hSw); go_simp; try with_reducible rfl)
              ((try simp only [Act.put]); (try simp only [List.setIfInBounds_toArray]); (try simp only [List.set_cons_succ]); (try simp only [List.set_cons_zero]))
              refine wpAnyH_take (i := 27) (oi := { dst := some 79, op := Op.binOp BinOp.eql 26 (Operand.tmp 78) (Operand.const (Value.int IntKind.i64 0)) 26, type := 4, pos := "law.go:88", after := #[{ on := 26, ground := Ground.data }, { on := 25, ground := Ground.guard }], guard := some (25, true) }) (v := ?_) rfl (by kernel_rfl) (by kernel_rfl) (by kernel_rfl) (fun _ _ _ h => h) (Or.inl ⟨by rfl, ?_⟩) (by assumption) ?_
              rotate_left
              · (intro w hSw; (try dsimp only at hSw); go_simp; try with_reducible rfl)
              ((try simp only [Act.put]); (try simp only [List.setIfInBounds_toArray]); (try simp only [List.set_cons_succ]); (try simp only [List.set_cons_zero]))
              refine wpAnyH_take (i := 28) (oi := { dst := some 80, op := Op.pick (Operand.tmp 77) (Operand.tmp 79) (Operand.const (Value.bool false)), type := 4, pos := "law.go:88", after := #[{ on := 25, ground := Ground.data }, { on := 27, ground := Ground.data }], guard := none }) (v := ?_) rfl (by kernel_rfl) (by kernel_rfl) (by kernel_rfl) (fun _ _ _ h => h) (Or.inl ⟨by rfl, ?_⟩) (by assumption) ?_
              rotate_left
              · (intro w hSw; (try dsimp only at hSw); go_simp; try with_reducible rfl)
              ((try simp only [Act.put]); (try simp only [List.setIfInBounds_toArray]); (try simp only [List.set_cons_succ]); (try simp only [List.set_cons_zero]))
              refine wpAnyH_take (i := 29) (oi := { dst := some 81, op := Op.move (Operand.tmp 80), type := 4, pos := "law.go:88", after := #[{ on := 28, ground := Ground.data }, { on := 25, ground := Ground.chain }], guard := none }) (v := ?_) rfl (by kernel_rfl) (by kernel_rfl) (by kernel_rfl) (fun _ _ _ h => h) (Or.inl ⟨by rfl, ?_⟩) (by assumption) ?_
              rotate_left
              · (intro w hSw; (try dsimp only at hSw); go_simp; try with_reducible rfl)
              ((try simp only [Act.put]); (try simp only [List.setIfInBounds_toArray]); (try simp only [List.set_cons_succ]); (try simp only [List.set_cons_zero]))
              refine wpAnyH_take (i := 30) (oi := { dst := some 82, op := Op.load 25 (Operand.tmp 13), type := 25, pos := "law.go:88", after := #[{ on := 29, ground := Ground.guard }], guard := some (29, true) }) (v := ?_) rfl (by kernel_rfl) (by kernel_rfl) (by kernel_rfl) (fun _ _ _ h => h) (Or.inl ⟨by rfl, ?_⟩) (by assumption) ?_
              rotate_left
              · (intro w hSw; (try dsimp only at hSw); go_simp; try with_reducible rfl)
              ((try simp only [Act.put]); (try simp only [List.setIfInBounds_toArray]); (try simp only [List.set_cons_succ]); (try simp only [List.set_cons_zero]))
              refine' neck4 (S := (fun w' => w'.cell? ⟨pC, 0, none⟩ = some (.int .i64 2) ∧ w'.cell? ⟨pC, 1, none⟩ = some (.slice aC 2 cC) ∧ w'.cell? ⟨pM, 0, none⟩ = some (.int .i64 2) ∧ w'.cell? ⟨pM, 1, none⟩ = some (.slice aM 2 cM) ∧ w'.cell? ⟨pD, 0, none⟩ = some (.int .i64 2) ∧ w'.cell? ⟨pD, 1, none⟩ = some (.slice aD 2 cD) ∧ w'.cell? ⟨pO, 0, none⟩ = some (.int .i64 3) ∧ w'.cell? ⟨pO, 1, none⟩ = some (.slice aO 3 cO) ∧ w'.cell? ⟨pF, 0, none⟩ = some (.int .i64 2) ∧ w'.cell? ⟨pF, 1, none⟩ = some (.slice aF 2 cF) ∧ Hid (Below wc.heap.size wc w'))) (fun N36 => ?_) (fun s83 s84 s85 s86 y36 hHeld => ?_)
              rotate_left
              · as_aux_lemma =>
                  refine wpAnyH_ready (rs := [31, 32, 33]) (by kernel_rfl) (by simp) ?_
                  refine AllReadyH.cons (o := { dst := some 83, op := Op.call { callee := Callee.value (Operand.func 13), args := #[Operand.tmp 82], argTypes := #[25] }, type := 35, pos := "law.go:88", after := #[{ on := 30, ground := Ground.data }, { on := 29, ground := Ground.chain }, { on := 29, ground := Ground.guard }], guard := some (29, true) }) rfl (fun K hK => ?_) (AllReadyH.cons (o := { dst := some 84, op := Op.buildSlice 37 2 #[(0, Operand.const (Value.int IntKind.u64 1)), (1, Operand.const (Value.int IntKind.u64 0))], type := 37, pos := "law.go:88", after := #[{ on := 29, ground := Ground.guard }], guard := some (29, true) }) rfl (fun K hK => ?_) (AllReadyH.cons (o := { dst := some 85, op := Op.buildSlice 37 2 #[(0, Operand.const (Value.int IntKind.u64 1)), (1, Operand.const (Value.int IntKind.u64 1))], type := 37, pos := "law.go:88", after := #[{ on := 29, ground := Ground.guard }], guard := some (29, true) }) rfl (fun K hK => ?_) AllReadyH.nil))
                  · skip
                    go_simp
                    refine (rows_at 2 (F.out.s.below (Hid.out hHeld.2.2.2.2.2.2.2.2.2.2)) (by decide)).mono ?_
                    rintro e v31 ⟨a31, c31, rfl, h5⟩
                    have hb := h5.2
                    have R := Lib.hid h5.1
                    clear h5
                    try go_wp2_with fail
                    refine hK.out _ _ ?_ (fun hNew => ?_)
                    · exact ⟨cell_go hHeld.1 hb, cell_go hHeld.2.1 hb, cell_go hHeld.2.2.1 hb, cell_go hHeld.2.2.2.1 hb, cell_go hHeld.2.2.2.2.1 hb, cell_go hHeld.2.2.2.2.2.1 hb, cell_go hHeld.2.2.2.2.2.2.1 hb, cell_go hHeld.2.2.2.2.2.2.2.1 hb, cell_go hHeld.2.2.2.2.2.2.2.2.1 hb, cell_go hHeld.2.2.2.2.2.2.2.2.2.1 hb, Lib.hid ((Hid.out hHeld.2.2.2.2.2.2.2.2.2.2).trans (hb.mono (Hid.out hHeld.2.2.2.2.2.2.2.2.2.2).size))⟩
                    clear hK K
                    replace hHeld := hNew
                    clear hNew
                    ((try simp only [Act.put]); (try simp only [List.setIfInBounds_toArray]); (try simp only [List.set_cons_succ]); (try simp only [List.set_cons_zero]))
                    refine wpAnyH_ready (rs := [32, 33]) (by kernel_rfl) (by simp) ?_
                    refine AllReadyH.cons (o := { dst := some 84, op := Op.buildSlice 37 2 #[(0, Operand.const (Value.int IntKind.u64 1)), (1, Operand.const (Value.int IntKind.u64 0))], type := 37, pos := "law.go:88", after := #[{ on := 29, ground := Ground.guard }], guard := some (29, true) }) rfl (fun K hK => ?_) (AllReadyH.cons (o := { dst := some 85, op := Op.buildSlice 37 2 #[(0, Operand.const (Value.int IntKind.u64 1)), (1, Operand.const (Value.int IntKind.u64 1))], type := 37, pos := "law.go:88", after := #[{ on := 29, ground := Ground.guard }], guard := some (29, true) }) rfl (fun K hK => ?_) AllReadyH.nil)
                    · skip
                      go_simp
                      have L1 := Lib.hid (sl_lit v31 [1, 0] #[.int .u64 1, .int .u64 0] 30 2 rfl rfl (by decide) (by unfold maxLen; omega))
                      replace R := Lib.hid (R.out.below (box_b v31 (.cells #[.int .u64 1, .int .u64 0] 30)))
                      have hb := box_b v31 (.cells #[.int .u64 1, .int .u64 0] 30)
                      generalize hw : v31.alloc (.cells #[.int .u64 1, .int .u64 0] 30) = v32 at *
                      clear hw
                      try go_wp2_with fail
                      refine hK.out _ _ ?_ (fun hNew => ?_)
                      · exact ⟨cell_go hHeld.1 hb, cell_go hHeld.2.1 hb, cell_go hHeld.2.2.1 hb, cell_go hHeld.2.2.2.1 hb, cell_go hHeld.2.2.2.2.1 hb, cell_go hHeld.2.2.2.2.2.1 hb, cell_go hHeld.2.2.2.2.2.2.1 hb, cell_go hHeld.2.2.2.2.2.2.2.1 hb, cell_go hHeld.2.2.2.2.2.2.2.2.1 hb, cell_go hHeld.2.2.2.2.2.2.2.2.2.1 hb, Lib.hid ((Hid.out hHeld.2.2.2.2.2.2.2.2.2.2).trans (hb.mono (Hid.out hHeld.2.2.2.2.2.2.2.2.2.2).size))⟩
                      clear hK K
                      replace hHeld := hNew
                      clear hNew
                      ((try simp only [Act.put]); (try simp only [List.setIfInBounds_toArray]); (try simp only [List.set_cons_succ]); (try simp only [List.set_cons_zero]))
                      refine wpAnyH_ready (rs := [33]) (by kernel_rfl) (by simp) ?_
                      refine AllReadyH.cons (o := { dst := some 85, op := Op.buildSlice 37 2 #[(0, Operand.const (Value.int IntKind.u64 1)), (1, Operand.const (Value.int IntKind.u64 1))], type := 37, pos := "law.go:88", after := #[{ on := 29, ground := Ground.guard }], guard := some (29, true) }) rfl (fun K hK => ?_) AllReadyH.nil
                      go_simp
                      have L2 := Lib.hid (sl_lit v32 [1, 1] #[.int .u64 1, .int .u64 1] 30 2 rfl rfl (by decide) (by unfold maxLen; omega))
                      replace R := Lib.hid (R.out.below (box_b v32 (.cells #[.int .u64 1, .int .u64 1] 30)))
                      replace L1 := Lib.hid (L1.out.below (box_b v32 (.cells #[.int .u64 1, .int .u64 1] 30)))
                      have hb := box_b v32 (.cells #[.int .u64 1, .int .u64 1] 30)
                      generalize hw : v32.alloc (.cells #[.int .u64 1, .int .u64 1] 30) = v33 at *
                      clear hw
                      try go_wp2_with fail
                      refine hK.out _ _ ?_ (fun hNew => ?_)
                      · exact ⟨cell_go hHeld.1 hb, cell_go hHeld.2.1 hb, cell_go hHeld.2.2.1 hb, cell_go hHeld.2.2.2.1 hb, cell_go hHeld.2.2.2.2.1 hb, cell_go hHeld.2.2.2.2.2.1 hb, cell_go hHeld.2.2.2.2.2.2.1 hb, cell_go hHeld.2.2.2.2.2.2.2.1 hb, cell_go hHeld.2.2.2.2.2.2.2.2.1 hb, cell_go hHeld.2.2.2.2.2.2.2.2.2.1 hb, Lib.hid ((Hid.out hHeld.2.2.2.2.2.2.2.2.2.2).trans (hb.mono (Hid.out hHeld.2.2.2.2.2.2.2.2.2.2).size))⟩
                      clear hK K
                      replace hHeld := hNew
                      clear hNew
                      ((try simp only [Act.put]); (try simp only [List.setIfInBounds_toArray]); (try simp only [List.set_cons_succ]); (try simp only [List.set_cons_zero]))
                      refine wpAnyH_ready (rs := [34]) (by kernel_rfl) (by simp) ?_
                      refine AllReadyH.cons (o := { dst := some 86, op := Op.buildSlice 35 2 #[(0, Operand.tmp 84), (1, Operand.tmp 85)], type := 35, pos := "law.go:88", after := #[{ on := 32, ground := Ground.data }, { on := 33, ground := Ground.data }, { on := 29, ground := Ground.guard }], guard := some (29, true) }) rfl (fun K hK => ?_) AllReadyH.nil
                      go_simp
                      have Q := Lib.hid (sq_lit (w := v33) (L := [⟨some ⟨v31.heap.size, 0, none⟩, 2, [1, 0]⟩, ⟨some ⟨v32.heap.size, 0, none⟩, 2, [1, 1]⟩]) (cs := #[.slice (some ⟨v31.heap.size, 0, none⟩) 2 2, .slice (some ⟨v32.heap.size, 0, none⟩) 2 2]) (t := 37) (n := 2) (m := [[1, 0], [1, 1]]) rfl rfl rfl (by unfold maxLen; omega) (two_rd L1.out L2.out))
                      replace R := Lib.hid (R.out.below (box_b v33 (.cells #[.slice (some ⟨v31.heap.size, 0, none⟩) 2 2, .slice (some ⟨v32.heap.size, 0, none⟩) 2 2] 37)))
                      have hb := box_b v33 (.cells #[.slice (some ⟨v31.heap.size, 0, none⟩) 2 2, .slice (some ⟨v32.heap.size, 0, none⟩) 2 2] 37)
                      clear L1 L2
                      generalize hw : v33.alloc (.cells #[.slice (some ⟨v31.heap.size, 0, none⟩) 2 2, .slice (some ⟨v32.heap.size, 0, none⟩) 2 2] 37) = v34 at *
                      clear hw
                      try go_wp2_with fail
                      refine hK.out _ _ ?_ (fun hNew => ?_)
                      · exact ⟨cell_go hHeld.1 hb, cell_go hHeld.2.1 hb, cell_go hHeld.2.2.1 hb, cell_go hHeld.2.2.2.1 hb, cell_go hHeld.2.2.2.2.1 hb, cell_go hHeld.2.2.2.2.2.1 hb, cell_go hHeld.2.2.2.2.2.2.1 hb, cell_go hHeld.2.2.2.2.2.2.2.1 hb, cell_go hHeld.2.2.2.2.2.2.2.2.1 hb, cell_go hHeld.2.2.2.2.2.2.2.2.2.1 hb, Lib.hid ((Hid.out hHeld.2.2.2.2.2.2.2.2.2.2).trans (hb.mono (Hid.out hHeld.2.2.2.2.2.2.2.2.2.2).size))⟩
                      clear hK K
                      replace hHeld := hNew
                      clear hNew
                      ((try simp only [Act.put]); (try simp only [List.setIfInBounds_toArray]); (try simp only [List.set_cons_succ]); (try simp only [List.set_cons_zero]))
                      refine wpAnyH_ready (rs := [35]) (by kernel_rfl) (by simp) ?_
                      refine AllReadyH.cons (o := { dst := some 87, op := Op.call { callee := Callee.value (Operand.func 12), args := #[Operand.tmp 83, Operand.tmp 86], argTypes := #[35, 35] }, type := 4, pos := "law.go:88", after := #[{ on := 31, ground := Ground.data }, { on := 34, ground := Ground.data }, { on := 31, ground := Ground.chain }, { on := 29, ground := Ground.guard }], guard := some (29, true) }) rfl (fun K hK => ?_) AllReadyH.nil
                      go_simp
                      refine (squares_at (r := true) R.out Q.out (by decide)).mono ?_
                      rintro e v35 ⟨rfl, nn, hw⟩
                      have hb := drew_b hw
                      clear hw R Q
                      try go_wp2_with fail
                      refine hK.out _ _ ?_ (fun hNew => ?_)
                      · exact ⟨cell_go hHeld.1 hb, cell_go hHeld.2.1 hb, cell_go hHeld.2.2.1 hb, cell_go hHeld.2.2.2.1 hb, cell_go hHeld.2.2.2.2.1 hb, cell_go hHeld.2.2.2.2.2.1 hb, cell_go hHeld.2.2.2.2.2.2.1 hb, cell_go hHeld.2.2.2.2.2.2.2.1 hb, cell_go hHeld.2.2.2.2.2.2.2.2.1 hb, cell_go hHeld.2.2.2.2.2.2.2.2.2.1 hb, Lib.hid ((Hid.out hHeld.2.2.2.2.2.2.2.2.2.2).trans (hb.mono (Hid.out hHeld.2.2.2.2.2.2.2.2.2.2).size))⟩
                      clear hK K
                      replace hHeld := hNew
                      clear hNew
                      ((try simp only [Act.put]); (try simp only [List.setIfInBounds_toArray]); (try simp only [List.set_cons_succ]); (try simp only [List.set_cons_zero]))
                      refine gen1 83 (by kernel_rfl) (fun s83 => ?_)
                      ((try simp only [Act.put]); (try simp only [List.setIfInBounds_toArray]); (try simp only [List.set_cons_succ]); (try simp only [List.set_cons_zero]))
                      refine gen1 84 (by kernel_rfl) (fun s84 => ?_)
                      ((try simp only [Act.put]); (try simp only [List.setIfInBounds_toArray]); (try simp only [List.set_cons_succ]); (try simp only [List.set_cons_zero]))
                      refine gen1 85 (by kernel_rfl) (fun s85 => ?_)
                      ((try simp only [Act.put]); (try simp only [List.setIfInBounds_toArray]); (try simp only [List.set_cons_succ]); (try simp only [List.set_cons_zero]))
                      refine gen1 86 (by kernel_rfl) (fun s86 => ?_)
                      ((try simp only [Act.put]); (try simp only [List.setIfInBounds_toArray]); (try simp only [List.set_cons_succ]); (try simp only [List.set_cons_zero]))
                      refine listed_to (l' := #[true, true, true, true, true, true, true, true, true, true, true, true, true, true, true, true, true, true, true, true, true, true, true, true, true, true, true, true, true, true, true, true, true, true, true, true, false, false, false, false, false, false, false, false, false, false, false, false, false, false, false, false, false, false, false, false, false, false, false, false, false, false, false, false, false, false, false, false, false, false, false, false, false, false, false, false, false, false, false, false, false, false]) (by kernel_rfl) ?_
                      refine genw hHeld (fun y hy => ?_)
                      exact N36 s83 s84 s85 s86 y hy
                    · skip
                      go_simp
                      have L2 := Lib.hid (sl_lit v31 [1, 1] #[.int .u64 1, .int .u64 1] 30 2 rfl rfl (by decide) (by unfold maxLen; omega))
                      replace R := Lib.hid (R.out.below (box_b v31 (.cells #[.int .u64 1, .int .u64 1] 30)))
                      have hb := box_b v31 (.cells #[.int .u64 1, .int .u64 1] 30)
                      generalize hw : v31.alloc (.cells #[.int .u64 1, .int .u64 1] 30) = v33 at *
                      clear hw
                      try go_wp2_with fail
                      refine hK.out _ _ ?_ (fun hNew => ?_)
                      · exact ⟨cell_go hHeld.1 hb, cell_go hHeld.2.1 hb, cell_go hHeld.2.2.1 hb, cell_go hHeld.2.2.2.1 hb, cell_go hHeld.2.2.2.2.1 hb, cell_go hHeld.2.2.2.2.2.1 hb, cell_go hHeld.2.2.2.2.2.2.1 hb, cell_go hHeld.2.2.2.2.2.2.2.1 hb, cell_go hHeld.2.2.2.2.2.2.2.2.1 hb, cell_go hHeld.2.2.2.2.2.2.2.2.2.1 hb, Lib.hid ((Hid.out hHeld.2.2.2.2.2.2.2.2.2.2).trans (hb.mono (Hid.out hHeld.2.2.2.2.2.2.2.2.2.2).size))⟩
                      clear hK K
                      replace hHeld := hNew
                      clear hNew
                      ((try simp only [Act.put]); (try simp only [List.setIfInBounds_toArray]); (try simp only [List.set_cons_succ]); (try simp only [List.set_cons_zero]))
                      refine wpAnyH_ready (rs := [32]) (by kernel_rfl) (by simp) ?_
                      refine AllReadyH.cons (o := { dst := some 84, op := Op.buildSlice 37 2 #[(0, Operand.const (Value.int IntKind.u64 1)), (1, Operand.const (Value.int IntKind.u64 0))], type := 37, pos := "law.go:88", after := #[{ on := 29, ground := Ground.guard }], guard := some (29, true) }) rfl (fun K hK => ?_) AllReadyH.nil
                      go_simp
                      have L1 := Lib.hid (sl_lit v33 [1, 0] #[.int .u64 1, .int .u64 0] 30 2 rfl rfl (by decide) (by unfold maxLen; omega))
                      replace R := Lib.hid (R.out.below (box_b v33 (.cells #[.int .u64 1, .int .u64 0] 30)))
                      replace L2 := Lib.hid (L2.out.below (box_b v33 (.cells #[.int .u64 1, .int .u64 0] 30)))
                      have hb := box_b v33 (.cells #[.int .u64 1, .int .u64 0] 30)
                      generalize hw : v33.alloc (.cells #[.int .u64 1, .int .u64 0] 30) = v32 at *
                      clear hw
                      try go_wp2_with fail
                      refine hK.out _ _ ?_ (fun hNew => ?_)
                      · exact ⟨cell_go hHeld.1 hb, cell_go hHeld.2.1 hb, cell_go hHeld.2.2.1 hb, cell_go hHeld.2.2.2.1 hb, cell_go hHeld.2.2.2.2.1 hb, cell_go hHeld.2.2.2.2.2.1 hb, cell_go hHeld.2.2.2.2.2.2.1 hb, cell_go hHeld.2.2.2.2.2.2.2.1 hb, cell_go hHeld.2.2.2.2.2.2.2.2.1 hb, cell_go hHeld.2.2.2.2.2.2.2.2.2.1 hb, Lib.hid ((Hid.out hHeld.2.2.2.2.2.2.2.2.2.2).trans (hb.mono (Hid.out hHeld.2.2.2.2.2.2.2.2.2.2).size))⟩
                      clear hK K
                      replace hHeld := hNew
                      clear hNew
                      ((try simp only [Act.put]); (try simp only [List.setIfInBounds_toArray]); (try simp only [List.set_cons_succ]); (try simp only [List.set_cons_zero]))
                      refine wpAnyH_ready (rs := [34]) (by kernel_rfl) (by simp) ?_
                      refine AllReadyH.cons (o := { dst := some 86, op := Op.buildSlice 35 2 #[(0, Operand.tmp 84), (1, Operand.tmp 85)], type := 35, pos := "law.go:88", after := #[{ on := 32, ground := Ground.data }, { on := 33, ground := Ground.data }, { on := 29, ground := Ground.guard }], guard := some (29, true) }) rfl (fun K hK => ?_) AllReadyH.nil
                      go_simp
                      have Q := Lib.hid (sq_lit (w := v32) (L := [⟨some ⟨v33.heap.size, 0, none⟩, 2, [1, 0]⟩, ⟨some ⟨v31.heap.size, 0, none⟩, 2, [1, 1]⟩]) (cs := #[.slice (some ⟨v33.heap.size, 0, none⟩) 2 2, .slice (some ⟨v31.heap.size, 0, none⟩) 2 2]) (t := 37) (n := 2) (m := [[1, 0], [1, 1]]) rfl rfl rfl (by unfold maxLen; omega) (two_rd L1.out L2.out))
                      replace R := Lib.hid (R.out.below (box_b v32 (.cells #[.slice (some ⟨v33.heap.size, 0, none⟩) 2 2, .slice (some ⟨v31.heap.size, 0, none⟩) 2 2] 37)))
                      have hb := box_b v32 (.cells #[.slice (some ⟨v33.heap.size, 0, none⟩) 2 2, .slice (some ⟨v31.heap.size, 0, none⟩) 2 2] 37)
                      clear L1 L2
                      generalize hw : v32.alloc (.cells #[.slice (some ⟨v33.heap.size, 0, none⟩) 2 2, .slice (some ⟨v31.heap.size, 0, none⟩) 2 2] 37) = v34 at *
                      clear hw
                      try go_wp2_with fail
                      refine hK.out _ _ ?_ (fun hNew => ?_)
                      · exact ⟨cell_go hHeld.1 hb, cell_go hHeld.2.1 hb, cell_go hHeld.2.2.1 hb, cell_go hHeld.2.2.2.1 hb, cell_go hHeld.2.2.2.2.1 hb, cell_go hHeld.2.2.2.2.2.1 hb, cell_go hHeld.2.2.2.2.2.2.1 hb, cell_go hHeld.2.2.2.2.2.2.2.1 hb, cell_go hHeld.2.2.2.2.2.2.2.2.1 hb, cell_go hHeld.2.2.2.2.2.2.2.2.2.1 hb, Lib.hid ((Hid.out hHeld.2.2.2.2.2.2.2.2.2.2).trans (hb.mono (Hid.out hHeld.2.2.2.2.2.2.2.2.2.2).size))⟩
                      clear hK K
                      replace hHeld := hNew
                      clear hNew
                      ((try simp only [Act.put]); (try simp only [List.setIfInBounds_toArray]); (try simp only [List.set_cons_succ]); (try simp only [List.set_cons_zero]))
                      refine wpAnyH_ready (rs := [35]) (by kernel_rfl) (by simp) ?_
                      refine AllReadyH.cons (o := { dst := some 87, op := Op.call { callee := Callee.value (Operand.func 12), args := #[Operand.tmp 83, Operand.tmp 86], argTypes := #[35, 35] }, type := 4, pos := "law.go:88", after := #[{ on := 31, ground := Ground.data }, { on := 34, ground := Ground.data }, { on := 31, ground := Ground.chain }, { on := 29, ground := Ground.guard }], guard := some (29, true) }) rfl (fun K hK => ?_) AllReadyH.nil
                      go_simp
                      refine (squares_at (r := true) R.out Q.out (by decide)).mono ?_
                      rintro e v35 ⟨rfl, nn, hw⟩
                      have hb := drew_b hw
                      clear hw R Q
                      try go_wp2_with fail
                      refine hK.out _ _ ?_ (fun hNew => ?_)
                      · exact ⟨cell_go hHeld.1 hb, cell_go hHeld.2.1 hb, cell_go hHeld.2.2.1 hb, cell_go hHeld.2.2.2.1 hb, cell_go hHeld.2.2.2.2.1 hb, cell_go hHeld.2.2.2.2.2.1 hb, cell_go hHeld.2.2.2.2.2.2.1 hb, cell_go hHeld.2.2.2.2.2.2.2.1 hb, cell_go hHeld.2.2.2.2.2.2.2.2.1 hb, cell_go hHeld.2.2.2.2.2.2.2.2.2.1 hb, Lib.hid ((Hid.out hHeld.2.2.2.2.2.2.2.2.2.2).trans (hb.mono (Hid.out hHeld.2.2.2.2.2.2.2.2.2.2).size))⟩
                      clear hK K
                      replace hHeld := hNew
                      clear hNew
                      ((try simp only [Act.put]); (try simp only [List.setIfInBounds_toArray]); (try simp only [List.set_cons_succ]); (try simp only [List.set_cons_zero]))
                      refine gen1 83 (by kernel_rfl) (fun s83 => ?_)
                      ((try simp only [Act.put]); (try simp only [List.setIfInBounds_toArray]); (try simp only [List.set_cons_succ]); (try simp only [List.set_cons_zero]))
                      refine gen1 84 (by kernel_rfl) (fun s84 => ?_)
                      ((try simp only [Act.put]); (try simp only [List.setIfInBounds_toArray]); (try simp only [List.set_cons_succ]); (try simp only [List.set_cons_zero]))
                      refine gen1 85 (by kernel_rfl) (fun s85 => ?_)
                      ((try simp only [Act.put]); (try simp only [List.setIfInBounds_toArray]); (try simp only [List.set_cons_succ]); (try simp only [List.set_cons_zero]))
                      refine gen1 86 (by kernel_rfl) (fun s86 => ?_)
                      ((try simp only [Act.put]); (try simp only [List.setIfInBounds_toArray]); (try simp only [List.set_cons_succ]); (try simp only [List.set_cons_zero]))
                      refine listed_to (l' := #[true, true, true, true, true, true, true, true, true, true, true, true, true, true, true, true, true, true, true, true, true, true, true, true, true, true, true, true, true, true, true, true, true, true, true, true, false, false, false, false, false, false, false, false, false, false, false, false, false, false, false, false, false, false, false, false, false, false, false, false, false, false, false, false, false, false, false, false, false, false, false, false, false, false, false, false, false, false, false, false, false, false]) (by kernel_rfl) ?_
                      refine genw hHeld (fun y hy => ?_)
                      exact N36 s83 s84 s85 s86 y hy
                  · skip
                    go_simp
                    have L1 := Lib.hid (sl_lit y20 [1, 0] #[.int .u64 1, .int .u64 0] 30 2 rfl rfl (by decide) (by unfold maxLen; omega))
                    have hb := box_b y20 (.cells #[.int .u64 1, .int .u64 0] 30)
                    generalize hw : y20.alloc (.cells #[.int .u64 1, .int .u64 0] 30) = v32 at *
                    clear hw
                    try go_wp2_with fail
                    refine hK.out _ _ ?_ (fun hNew => ?_)
                    · exact ⟨cell_go hHeld.1 hb, cell_go hHeld.2.1 hb, cell_go hHeld.2.2.1 hb, cell_go hHeld.2.2.2.1 hb, cell_go hHeld.2.2.2.2.1 hb, cell_go hHeld.2.2.2.2.2.1 hb, cell_go hHeld.2.2.2.2.2.2.1 hb, cell_go hHeld.2.2.2.2.2.2.2.1 hb, cell_go hHeld.2.2.2.2.2.2.2.2.1 hb, cell_go hHeld.2.2.2.2.2.2.2.2.2.1 hb, Lib.hid ((Hid.out hHeld.2.2.2.2.2.2.2.2.2.2).trans (hb.mono (Hid.out hHeld.2.2.2.2.2.2.2.2.2.2).size))⟩
                    clear hK K
                    replace hHeld := hNew
                    clear hNew
                    ((try simp only [Act.put]); (try simp only [List.setIfInBounds_toArray]); (try simp only [List.set_cons_succ]); (try simp only [List.set_cons_zero]))
                    refine wpAnyH_ready (rs := [31, 33]) (by kernel_rfl) (by simp) ?_
                    refine AllReadyH.cons (o := { dst := some 83, op := Op.call { callee := Callee.value (Operand.func 13), args := #[Operand.tmp 82], argTypes := #[25] }, type := 35, pos := "law.go:88", after := #[{ on := 30, ground := Ground.data }, { on := 29, ground := Ground.chain }, { on := 29, ground := Ground.guard }], guard := some (29, true) }) rfl (fun K hK => ?_) (AllReadyH.cons (o := { dst := some 85, op := Op.buildSlice 37 2 #[(0, Operand.const (Value.int IntKind.u64 1)), (1, Operand.const (Value.int IntKind.u64 1))], type := 37, pos := "law.go:88", after := #[{ on := 29, ground := Ground.guard }], guard := some (29, true) }) rfl (fun K hK => ?_) AllReadyH.nil)
                    · skip
                      go_simp
                      refine (rows_at 2 (F.out.s.below (Hid.out hHeld.2.2.2.2.2.2.2.2.2.2)) (by decide)).mono ?_
                      rintro e v31 ⟨a31, c31, rfl, h5⟩
                      have hb := h5.2
                      replace L1 := Lib.hid (L1.out.below hb)
                      have R := Lib.hid h5.1
                      clear h5
                      try go_wp2_with fail
                      refine hK.out _ _ ?_ (fun hNew => ?_)
                      · exact ⟨cell_go hHeld.1 hb, cell_go hHeld.2.1 hb, cell_go hHeld.2.2.1 hb, cell_go hHeld.2.2.2.1 hb, cell_go hHeld.2.2.2.2.1 hb, cell_go hHeld.2.2.2.2.2.1 hb, cell_go hHeld.2.2.2.2.2.2.1 hb, cell_go hHeld.2.2.2.2.2.2.2.1 hb, cell_go hHeld.2.2.2.2.2.2.2.2.1 hb, cell_go hHeld.2.2.2.2.2.2.2.2.2.1 hb, Lib.hid ((Hid.out hHeld.2.2.2.2.2.2.2.2.2.2).trans (hb.mono (Hid.out hHeld.2.2.2.2.2.2.2.2.2.2).size))⟩
                      clear hK K
                      replace hHeld := hNew
                      clear hNew
                      ((try simp only [Act.put]); (try simp only [List.setIfInBounds_toArray]); (try simp only [List.set_cons_succ]); (try simp only [List.set_cons_zero]))
                      refine wpAnyH_ready (rs := [33]) (by kernel_rfl) (by simp) ?_
                      refine AllReadyH.cons (o := { dst := some 85, op := Op.buildSlice 37 2 #[(0, Operand.const (Value.int IntKind.u64 1)), (1, Operand.const (Value.int IntKind.u64 1))], type := 37, pos := "law.go:88", after := #[{ on := 29, ground := Ground.guard }], guard := some (29, true) }) rfl (fun K hK => ?_) AllReadyH.nil
                      go_simp
                      have L2 := Lib.hid (sl_lit v31 [1, 1] #[.int .u64 1, .int .u64 1] 30 2 rfl rfl (by decide) (by unfold maxLen; omega))
                      replace R := Lib.hid (R.out.below (box_b v31 (.cells #[.int .u64 1, .int .u64 1] 30)))
                      replace L1 := Lib.hid (L1.out.below (box_b v31 (.cells #[.int .u64 1, .int .u64 1] 30)))
                      have hb := box_b v31 (.cells #[.int .u64 1, .int .u64 1] 30)
                      generalize hw : v31.alloc (.cells #[.int .u64 1, .int .u64 1] 30) = v33 at *
                      clear hw
                      try go_wp2_with fail
                      refine hK.out _ _ ?_ (fun hNew => ?_)
                      · exact ⟨cell_go hHeld.1 hb, cell_go hHeld.2.1 hb, cell_go hHeld.2.2.1 hb, cell_go hHeld.2.2.2.1 hb, cell_go hHeld.2.2.2.2.1 hb, cell_go hHeld.2.2.2.2.2.1 hb, cell_go hHeld.2.2.2.2.2.2.1 hb, cell_go hHeld.2.2.2.2.2.2.2.1 hb, cell_go hHeld.2.2.2.2.2.2.2.2.1 hb, cell_go hHeld.2.2.2.2.2.2.2.2.2.1 hb, Lib.hid ((Hid.out hHeld.2.2.2.2.2.2.2.2.2.2).trans (hb.mono (Hid.out hHeld.2.2.2.2.2.2.2.2.2.2).size))⟩
                      clear hK K
                      replace hHeld := hNew
                      clear hNew
                      ((try simp only [Act.put]); (try simp only [List.setIfInBounds_toArray]); (try simp only [List.set_cons_succ]); (try simp only [List.set_cons_zero]))
                      refine wpAnyH_ready (rs := [34]) (by kernel_rfl) (by simp) ?_
                      refine AllReadyH.cons (o := { dst := some 86, op := Op.buildSlice 35 2 #[(0, Operand.tmp 84), (1, Operand.tmp 85)], type := 35, pos := "law.go:88", after := #[{ on := 32, ground := Ground.data }, { on := 33, ground := Ground.data }, { on := 29, ground := Ground.guard }], guard := some (29, true) }) rfl (fun K hK => ?_) AllReadyH.nil
                      go_simp
                      have Q := Lib.hid (sq_lit (w := v33) (L := [⟨some ⟨y20.heap.size, 0, none⟩, 2, [1, 0]⟩, ⟨some ⟨v31.heap.size, 0, none⟩, 2, [1, 1]⟩]) (cs := #[.slice (some ⟨y20.heap.size, 0, none⟩) 2 2, .slice (some ⟨v31.heap.size, 0, none⟩) 2 2]) (t := 37) (n := 2) (m := [[1, 0], [1, 1]]) rfl rfl rfl (by unfold maxLen; omega) (two_rd L1.out L2.out))
                      replace R := Lib.hid (R.out.below (box_b v33 (.cells #[.slice (some ⟨y20.heap.size, 0, none⟩) 2 2, .slice (some ⟨v31.heap.size, 0, none⟩) 2 2] 37)))
                      have hb := box_b v33 (.cells #[.slice (some ⟨y20.heap.size, 0, none⟩) 2 2, .slice (some ⟨v31.heap.size, 0, none⟩) 2 2] 37)
                      clear L1 L2
                      generalize hw : v33.alloc (.cells #[.slice (some ⟨y20.heap.size, 0, none⟩) 2 2, .slice (some ⟨v31.heap.size, 0, none⟩) 2 2] 37) = v34 at *
                      clear hw
                      try go_wp2_with fail
                      refine hK.out _ _ ?_ (fun hNew => ?_)
                      · exact ⟨cell_go hHeld.1 hb, cell_go hHeld.2.1 hb, cell_go hHeld.2.2.1 hb, cell_go hHeld.2.2.2.1 hb, cell_go hHeld.2.2.2.2.1 hb, cell_go hHeld.2.2.2.2.2.1 hb, cell_go hHeld.2.2.2.2.2.2.1 hb, cell_go hHeld.2.2.2.2.2.2.2.1 hb, cell_go hHeld.2.2.2.2.2.2.2.2.1 hb, cell_go hHeld.2.2.2.2.2.2.2.2.2.1 hb, Lib.hid ((Hid.out hHeld.2.2.2.2.2.2.2.2.2.2).trans (hb.mono (Hid.out hHeld.2.2.2.2.2.2.2.2.2.2).size))⟩
                      clear hK K
                      replace hHeld := hNew
                      clear hNew
                      ((try simp only [Act.put]); (try simp only [List.setIfInBounds_toArray]); (try simp only [List.set_cons_succ]); (try simp only [List.set_cons_zero]))
                      refine wpAnyH_ready (rs := [35]) (by kernel_rfl) (by simp) ?_
                      refine AllReadyH.cons (o := { dst := some 87, op := Op.call { callee := Callee.value (Operand.func 12), args := #[Operand.tmp 83, Operand.tmp 86], argTypes := #[35, 35] }, type := 4, pos := "law.go:88", after := #[{ on := 31, ground := Ground.data }, { on := 34, ground := Ground.data }, { on := 31, ground := Ground.chain }, { on := 29, ground := Ground.guard }], guard := some (29, true) }) rfl (fun K hK => ?_) AllReadyH.nil
                      go_simp
                      refine (squares_at (r := true) R.out Q.out (by decide)).mono ?_
                      rintro e v35 ⟨rfl, nn, hw⟩
                      have hb := drew_b hw
                      clear hw R Q
                      try go_wp2_with fail
                      refine hK.out _ _ ?_ (fun hNew => ?_)
                      · exact ⟨cell_go hHeld.1 hb, cell_go hHeld.2.1 hb, cell_go hHeld.2.2.1 hb, cell_go hHeld.2.2.2.1 hb, cell_go hHeld.2.2.2.2.1 hb, cell_go hHeld.2.2.2.2.2.1 hb, cell_go hHeld.2.2.2.2.2.2.1 hb, cell_go hHeld.2.2.2.2.2.2.2.1 hb, cell_go hHeld.2.2.2.2.2.2.2.2.1 hb, cell_go hHeld.2.2.2.2.2.2.2.2.2.1 hb, Lib.hid ((Hid.out hHeld.2.2.2.2.2.2.2.2.2.2).trans (hb.mono (Hid.out hHeld.2.2.2.2.2.2.2.2.2.2).size))⟩
                      clear hK K
                      replace hHeld := hNew
                      clear hNew
                      ((try simp only [Act.put]); (try simp only [List.setIfInBounds_toArray]); (try simp only [List.set_cons_succ]); (try simp only [List.set_cons_zero]))
                      refine gen1 83 (by kernel_rfl) (fun s83 => ?_)
                      ((try simp only [Act.put]); (try simp only [List.setIfInBounds_toArray]); (try simp only [List.set_cons_succ]); (try simp only [List.set_cons_zero]))
                      refine gen1 84 (by kernel_rfl) (fun s84 => ?_)
                      ((try simp only [Act.put]); (try simp only [List.setIfInBounds_toArray]); (try simp only [List.set_cons_succ]); (try simp only [List.set_cons_zero]))
                      refine gen1 85 (by kernel_rfl) (fun s85 => ?_)
                      ((try simp only [Act.put]); (try simp only [List.setIfInBounds_toArray]); (try simp only [List.set_cons_succ]); (try simp only [List.set_cons_zero]))
                      refine gen1 86 (by kernel_rfl) (fun s86 => ?_)
                      ((try simp only [Act.put]); (try simp only [List.setIfInBounds_toArray]); (try simp only [List.set_cons_succ]); (try simp only [List.set_cons_zero]))
                      refine listed_to (l' := #[true, true, true, true, true, true, true, true, true, true, true, true, true, true, true, true, true, true, true, true, true, true, true, true, true, true, true, true, true, true, true, true, true, true, true, true, false, false, false, false, false, false, false, false, false, false, false, false, false, false, false, false, false, false, false, false, false, false, false, false, false, false, false, false, false, false, false, false, false, false, false, false, false, false, false, false, false, false, false, false, false, false]) (by kernel_rfl) ?_
                      refine genw hHeld (fun y hy => ?_)
                      exact N36 s83 s84 s85 s86 y hy
                    · skip
                      go_simp
                      have L2 := Lib.hid (sl_lit v32 [1, 1] #[.int .u64 1, .int .u64 1] 30 2 rfl rfl (by decide) (by unfold maxLen; omega))
                      replace L1 := Lib.hid (L1.out.below (box_b v32 (.cells #[.int .u64 1, .int .u64 1] 30)))
                      have hb := box_b v32 (.cells #[.int .u64 1, .int .u64 1] 30)
                      generalize hw : v32.alloc (.cells #[.int .u64 1, .int .u64 1] 30) = v33 at *
                      clear hw
                      try go_wp2_with fail
                      refine hK.out _ _ ?_ (fun hNew => ?_)
                      · exact ⟨cell_go hHeld.1 hb, cell_go hHeld.2.1 hb, cell_go hHeld.2.2.1 hb, cell_go hHeld.2.2.2.1 hb, cell_go hHeld.2.2.2.2.1 hb, cell_go hHeld.2.2.2.2.2.1 hb, cell_go hHeld.2.2.2.2.2.2.1 hb, cell_go hHeld.2.2.2.2.2.2.2.1 hb, cell_go hHeld.2.2.2.2.2.2.2.2.1 hb, cell_go hHeld.2.2.2.2.2.2.2.2.2.1 hb, Lib.hid ((Hid.out hHeld.2.2.2.2.2.2.2.2.2.2).trans (hb.mono (Hid.out hHeld.2.2.2.2.2.2.2.2.2.2).size))⟩
                      clear hK K
                      replace hHeld := hNew
                      clear hNew
                      ((try simp only [Act.put]); (try simp only [List.setIfInBounds_toArray]); (try simp only [List.set_cons_succ]); (try simp only [List.set_cons_zero]))
                      refine wpAnyH_ready (rs := [31, 34]) (by kernel_rfl) (by simp) ?_
                      refine AllReadyH.cons (o := { dst := some 83, op := Op.call { callee := Callee.value (Operand.func 13), args := #[Operand.tmp 82], argTypes := #[25] }, type := 35, pos := "law.go:88", after := #[{ on := 30, ground := Ground.data }, { on := 29, ground := Ground.chain }, { on := 29, ground := Ground.guard }], guard := some (29, true) }) rfl (fun K hK => ?_) (AllReadyH.cons (o := { dst := some 86, op := Op.buildSlice 35 2 #[(0, Operand.tmp 84), (1, Operand.tmp 85)], type := 35, pos := "law.go:88", after := #[{ on := 32, ground := Ground.data }, { on := 33, ground := Ground.data }, { on := 29, ground := Ground.guard }], guard := some (29, true) }) rfl (fun K hK => ?_) AllReadyH.nil)
                      · skip
                        go_simp
                        refine (rows_at 2 (F.out.s.below (Hid.out hHeld.2.2.2.2.2.2.2.2.2.2)) (by decide)).mono ?_
                        rintro e v31 ⟨a31, c31, rfl, h5⟩
                        have hb := h5.2
                        replace L1 := Lib.hid (L1.out.below hb)
                        replace L2 := Lib.hid (L2.out.below hb)
                        have R := Lib.hid h5.1
                        clear h5
                        try go_wp2_with fail
                        refine hK.out _ _ ?_ (fun hNew => ?_)
                        · exact ⟨cell_go hHeld.1 hb, cell_go hHeld.2.1 hb, cell_go hHeld.2.2.1 hb, cell_go hHeld.2.2.2.1 hb, cell_go hHeld.2.2.2.2.1 hb, cell_go hHeld.2.2.2.2.2.1 hb, cell_go hHeld.2.2.2.2.2.2.1 hb, cell_go hHeld.2.2.2.2.2.2.2.1 hb, cell_go hHeld.2.2.2.2.2.2.2.2.1 hb, cell_go hHeld.2.2.2.2.2.2.2.2.2.1 hb, Lib.hid ((Hid.out hHeld.2.2.2.2.2.2.2.2.2.2).trans (hb.mono (Hid.out hHeld.2.2.2.2.2.2.2.2.2.2).size))⟩
                        clear hK K
                        replace hHeld := hNew
                        clear hNew
                        ((try simp only [Act.put]); (try simp only [List.setIfInBounds_toArray]); (try simp only [List.set_cons_succ]); (try simp only [List.set_cons_zero]))
                        refine wpAnyH_ready (rs := [34]) (by kernel_rfl) (by simp) ?_
                        refine AllReadyH.cons (o := { dst := some 86, op := Op.buildSlice 35 2 #[(0, Operand.tmp 84), (1, Operand.tmp 85)], type := 35, pos := "law.go:88", after := #[{ on := 32, ground := Ground.data }, { on := 33, ground := Ground.data }, { on := 29, ground := Ground.guard }], guard := some (29, true) }) rfl (fun K hK => ?_) AllReadyH.nil
                        go_simp
                        have Q := Lib.hid (sq_lit (w := v31) (L := [⟨some ⟨y20.heap.size, 0, none⟩, 2, [1, 0]⟩, ⟨some ⟨v32.heap.size, 0, none⟩, 2, [1, 1]⟩]) (cs := #[.slice (some ⟨y20.heap.size, 0, none⟩) 2 2, .slice (some ⟨v32.heap.size, 0, none⟩) 2 2]) (t := 37) (n := 2) (m := [[1, 0], [1, 1]]) rfl rfl rfl (by unfold maxLen; omega) (two_rd L1.out L2.out))
                        replace R := Lib.hid (R.out.below (box_b v31 (.cells #[.slice (some ⟨y20.heap.size, 0, none⟩) 2 2, .slice (some ⟨v32.heap.size, 0, none⟩) 2 2] 37)))
                        have hb := box_b v31 (.cells #[.slice (some ⟨y20.heap.size, 0, none⟩) 2 2, .slice (some ⟨v32.heap.size, 0, none⟩) 2 2] 37)
                        clear L1 L2
                        generalize hw : v31.alloc (.cells #[.slice (some ⟨y20.heap.size, 0, none⟩) 2 2, .slice (some ⟨v32.heap.size, 0, none⟩) 2 2] 37) = v34 at *
                        clear hw
                        try go_wp2_with fail
                        refine hK.out _ _ ?_ (fun hNew => ?_)
                        · exact ⟨cell_go hHeld.1 hb, cell_go hHeld.2.1 hb, cell_go hHeld.2.2.1 hb, cell_go hHeld.2.2.2.1 hb, cell_go hHeld.2.2.2.2.1 hb, cell_go hHeld.2.2.2.2.2.1 hb, cell_go hHeld.2.2.2.2.2.2.1 hb, cell_go hHeld.2.2.2.2.2.2.2.1 hb, cell_go hHeld.2.2.2.2.2.2.2.2.1 hb, cell_go hHeld.2.2.2.2.2.2.2.2.2.1 hb, Lib.hid ((Hid.out hHeld.2.2.2.2.2.2.2.2.2.2).trans (hb.mono (Hid.out hHeld.2.2.2.2.2.2.2.2.2.2).size))⟩
                        clear hK K
                        replace hHeld := hNew
                        clear hNew
                        ((try simp only [Act.put]); (try simp only [List.setIfInBounds_toArray]); (try simp only [List.set_cons_succ]); (try simp only [List.set_cons_zero]))
                        refine wpAnyH_ready (rs := [35]) (by kernel_rfl) (by simp) ?_
                        refine AllReadyH.cons (o := { dst := some 87, op := Op.call { callee := Callee.value (Operand.func 12), args := #[Operand.tmp 83, Operand.tmp 86], argTypes := #[35, 35] }, type := 4, pos := "law.go:88", after := #[{ on := 31, ground := Ground.data }, { on := 34, ground := Ground.data }, { on := 31, ground := Ground.chain }, { on := 29, ground := Ground.guard }], guard := some (29, true) }) rfl (fun K hK => ?_) AllReadyH.nil
                        go_simp
                        refine (squares_at (r := true) R.out Q.out (by decide)).mono ?_
                        rintro e v35 ⟨rfl, nn, hw⟩
                        have hb := drew_b hw
                        clear hw R Q
                        try go_wp2_with fail
                        refine hK.out _ _ ?_ (fun hNew => ?_)
                        · exact ⟨cell_go hHeld.1 hb, cell_go hHeld.2.1 hb, cell_go hHeld.2.2.1 hb, cell_go hHeld.2.2.2.1 hb, cell_go hHeld.2.2.2.2.1 hb, cell_go hHeld.2.2.2.2.2.1 hb, cell_go hHeld.2.2.2.2.2.2.1 hb, cell_go hHeld.2.2.2.2.2.2.2.1 hb, cell_go hHeld.2.2.2.2.2.2.2.2.1 hb, cell_go hHeld.2.2.2.2.2.2.2.2.2.1 hb, Lib.hid ((Hid.out hHeld.2.2.2.2.2.2.2.2.2.2).trans (hb.mono (Hid.out hHeld.2.2.2.2.2.2.2.2.2.2).size))⟩
                        clear hK K
                        replace hHeld := hNew
                        clear hNew
                        ((try simp only [Act.put]); (try simp only [List.setIfInBounds_toArray]); (try simp only [List.set_cons_succ]); (try simp only [List.set_cons_zero]))
                        refine gen1 83 (by kernel_rfl) (fun s83 => ?_)
                        ((try simp only [Act.put]); (try simp only [List.setIfInBounds_toArray]); (try simp only [List.set_cons_succ]); (try simp only [List.set_cons_zero]))
                        refine gen1 84 (by kernel_rfl) (fun s84 => ?_)
                        ((try simp only [Act.put]); (try simp only [List.setIfInBounds_toArray]); (try simp only [List.set_cons_succ]); (try simp only [List.set_cons_zero]))
                        refine gen1 85 (by kernel_rfl) (fun s85 => ?_)
                        ((try simp only [Act.put]); (try simp only [List.setIfInBounds_toArray]); (try simp only [List.set_cons_succ]); (try simp only [List.set_cons_zero]))
                        refine gen1 86 (by kernel_rfl) (fun s86 => ?_)
                        ((try simp only [Act.put]); (try simp only [List.setIfInBounds_toArray]); (try simp only [List.set_cons_succ]); (try simp only [List.set_cons_zero]))
                        refine listed_to (l' := #[true, true, true, true, true, true, true, true, true, true, true, true, true, true, true, true, true, true, true, true, true, true, true, true, true, true, true, true, true, true, true, true, true, true, true, true, false, false, false, false, false, false, false, false, false, false, false, false, false, false, false, false, false, false, false, false, false, false, false, false, false, false, false, false, false, false, false, false, false, false, false, false, false, false, false, false, false, false, false, false, false, false]) (by kernel_rfl) ?_
                        refine genw hHeld (fun y hy => ?_)
                        exact N36 s83 s84 s85 s86 y hy
                      · skip
                        go_simp
                        have Q := Lib.hid (sq_lit (w := v33) (L := [⟨some ⟨y20.heap.size, 0, none⟩, 2, [1, 0]⟩, ⟨some ⟨v32.heap.size, 0, none⟩, 2, [1, 1]⟩]) (cs := #[.slice (some ⟨y20.heap.size, 0, none⟩) 2 2, .slice (some ⟨v32.heap.size, 0, none⟩) 2 2]) (t := 37) (n := 2) (m := [[1, 0], [1, 1]]) rfl rfl rfl (by unfold maxLen; omega) (two_rd L1.out L2.out))
                        have hb := box_b v33 (.cells #[.slice (some ⟨y20.heap.size, 0, none⟩) 2 2, .slice (some ⟨v32.heap.size, 0, none⟩) 2 2] 37)
                        clear L1 L2
                        generalize hw : v33.alloc (.cells #[.slice (some ⟨y20.heap.size, 0, none⟩) 2 2, .slice (some ⟨v32.heap.size, 0, none⟩) 2 2] 37) = v34 at *
                        clear hw
                        try go_wp2_with fail
                        refine hK.out _ _ ?_ (fun hNew => ?_)
                        · exact ⟨cell_go hHeld.1 hb, cell_go hHeld.2.1 hb, cell_go hHeld.2.2.1 hb, cell_go hHeld.2.2.2.1 hb, cell_go hHeld.2.2.2.2.1 hb, cell_go hHeld.2.2.2.2.2.1 hb, cell_go hHeld.2.2.2.2.2.2.1 hb, cell_go hHeld.2.2.2.2.2.2.2.1 hb, cell_go hHeld.2.2.2.2.2.2.2.2.1 hb, cell_go hHeld.2.2.2.2.2.2.2.2.2.1 hb, Lib.hid ((Hid.out hHeld.2.2.2.2.2.2.2.2.2.2).trans (hb.mono (Hid.out hHeld.2.2.2.2.2.2.2.2.2.2).size))⟩
                        clear hK K
                        replace hHeld := hNew
                        clear hNew
                        ((try simp only [Act.put]); (try simp only [List.setIfInBounds_toArray]); (try simp only [List.set_cons_succ]); (try simp only [List.set_cons_zero]))
                        refine wpAnyH_ready (rs := [31]) (by kernel_rfl) (by simp) ?_
                        refine AllReadyH.cons (o := { dst := some 83, op := Op.call { callee := Callee.value (Operand.func 13), args := #[Operand.tmp 82], argTypes := #[25] }, type := 35, pos := "law.go:88", after := #[{ on := 30, ground := Ground.data }, { on := 29, ground := Ground.chain }, { on := 29, ground := Ground.guard }], guard := some (29, true) }) rfl (fun K hK => ?_) AllReadyH.nil
                        go_simp
                        refine (rows_at 2 (F.out.s.below (Hid.out hHeld.2.2.2.2.2.2.2.2.2.2)) (by decide)).mono ?_
                        rintro e v31 ⟨a31, c31, rfl, h5⟩
                        have hb := h5.2
                        replace Q := Lib.hid (Q.out.below hb)
                        have R := Lib.hid h5.1
                        clear h5
                        try go_wp2_with fail
                        refine hK.out _ _ ?_ (fun hNew => ?_)
                        · exact ⟨cell_go hHeld.1 hb, cell_go hHeld.2.1 hb, cell_go hHeld.2.2.1 hb, cell_go hHeld.2.2.2.1 hb, cell_go hHeld.2.2.2.2.1 hb, cell_go hHeld.2.2.2.2.2.1 hb, cell_go hHeld.2.2.2.2.2.2.1 hb, cell_go hHeld.2.2.2.2.2.2.2.1 hb, cell_go hHeld.2.2.2.2.2.2.2.2.1 hb, cell_go hHeld.2.2.2.2.2.2.2.2.2.1 hb, Lib.hid ((Hid.out hHeld.2.2.2.2.2.2.2.2.2.2).trans (hb.mono (Hid.out hHeld.2.2.2.2.2.2.2.2.2.2).size))⟩
                        clear hK K
                        replace hHeld := hNew
                        clear hNew
                        ((try simp only [Act.put]); (try simp only [List.setIfInBounds_toArray]); (try simp only [List.set_cons_succ]); (try simp only [List.set_cons_zero]))
                        refine wpAnyH_ready (rs := [35]) (by kernel_rfl) (by simp) ?_
                        refine AllReadyH.cons (o := { dst := some 87, op := Op.call { callee := Callee.value (Operand.func 12), args := #[Operand.tmp 83, Operand.tmp 86], argTypes := #[35, 35] }, type := 4, pos := "law.go:88", after := #[{ on := 31, ground := Ground.data }, { on := 34, ground := Ground.data }, { on := 31, ground := Ground.chain }, { on := 29, ground := Ground.guard }], guard := some (29, true) }) rfl (fun K hK => ?_) AllReadyH.nil
                        go_simp
                        refine (squares_at (r := true) R.out Q.out (by decide)).mono ?_
                        rintro e v35 ⟨rfl, nn, hw⟩
                        have hb := drew_b hw
                        clear hw R Q
                        try go_wp2_with fail
                        refine hK.out _ _ ?_ (fun hNew => ?_)
                        · exact ⟨cell_go hHeld.1 hb, cell_go hHeld.2.1 hb, cell_go hHeld.2.2.1 hb, cell_go hHeld.2.2.2.1 hb, cell_go hHeld.2.2.2.2.1 hb, cell_go hHeld.2.2.2.2.2.1 hb, cell_go hHeld.2.2.2.2.2.2.1 hb, cell_go hHeld.2.2.2.2.2.2.2.1 hb, cell_go hHeld.2.2.2.2.2.2.2.2.1 hb, cell_go hHeld.2.2.2.2.2.2.2.2.2.1 hb, Lib.hid ((Hid.out hHeld.2.2.2.2.2.2.2.2.2.2).trans (hb.mono (Hid.out hHeld.2.2.2.2.2.2.2.2.2.2).size))⟩
                        clear hK K
                        replace hHeld := hNew
                        clear hNew
                        ((try simp only [Act.put]); (try simp only [List.setIfInBounds_toArray]); (try simp only [List.set_cons_succ]); (try simp only [List.set_cons_zero]))
                        refine gen1 83 (by kernel_rfl) (fun s83 => ?_)
                        ((try simp only [Act.put]); (try simp only [List.setIfInBounds_toArray]); (try simp only [List.set_cons_succ]); (try simp only [List.set_cons_zero]))
                        refine gen1 84 (by kernel_rfl) (fun s84 => ?_)
                        ((try simp only [Act.put]); (try simp only [List.setIfInBounds_toArray]); (try simp only [List.set_cons_succ]); (try simp only [List.set_cons_zero]))
                        refine gen1 85 (by kernel_rfl) (fun s85 => ?_)
                        ((try simp only [Act.put]); (try simp only [List.setIfInBounds_toArray]); (try simp only [List.set_cons_succ]); (try simp only [List.set_cons_zero]))
                        refine gen1 86 (by kernel_rfl) (fun s86 => ?_)
                        ((try simp only [Act.put]); (try simp only [List.setIfInBounds_toArray]); (try simp only [List.set_cons_succ]); (try simp only [List.set_cons_zero]))
                        refine listed_to (l' := #[true, true, true, true, true, true, true, true, true, true, true, true, true, true, true, true, true, true, true, true, true, true, true, true, true, true, true, true, true, true, true, true, true, true, true, true, false, false, false, false, false, false, false, false, false, false, false, false, false, false, false, false, false, false, false, false, false, false, false, false, false, false, false, false, false, false, false, false, false, false, false, false, false, false, false, false, false, false, false, false, false, false]) (by kernel_rfl) ?_
                        refine genw hHeld (fun y hy => ?_)
                        exact N36 s83 s84 s85 s86 y hy
                  · skip
                    go_simp
                    have L2 := Lib.hid (sl_lit y20 [1, 1] #[.int .u64 1, .int .u64 1] 30 2 rfl rfl (by decide) (by unfold maxLen; omega))
                    have hb := box_b y20 (.cells #[.int .u64 1, .int .u64 1] 30)
                    generalize hw : y20.alloc (.cells #[.int .u64 1, .int .u64 1] 30) = v33 at *
                    clear hw
                    try go_wp2_with fail
                    refine hK.out _ _ ?_ (fun hNew => ?_)
                    · exact ⟨cell_go hHeld.1 hb, cell_go hHeld.2.1 hb, cell_go hHeld.2.2.1 hb, cell_go hHeld.2.2.2.1 hb, cell_go hHeld.2.2.2.2.1 hb, cell_go hHeld.2.2.2.2.2.1 hb, cell_go hHeld.2.2.2.2.2.2.1 hb, cell_go hHeld.2.2.2.2.2.2.2.1 hb, cell_go hHeld.2.2.2.2.2.2.2.2.1 hb, cell_go hHeld.2.2.2.2.2.2.2.2.2.1 hb, Lib.hid ((Hid.out hHeld.2.2.2.2.2.2.2.2.2.2).trans (hb.mono (Hid.out hHeld.2.2.2.2.2.2.2.2.2.2).size))⟩
                    clear hK K
                    replace hHeld := hNew
                    clear hNew
                    ((try simp only [Act.put]); (try simp only [List.setIfInBounds_toArray]); (try simp only [List.set_cons_succ]); (try simp only [List.set_cons_zero]))
                    refine wpAnyH_ready (rs := [31, 32]) (by kernel_rfl) (by simp) ?_
                    refine AllReadyH.cons (o := { dst := some 83, op := Op.call { callee := Callee.value (Operand.func 13), args := #[Operand.tmp 82], argTypes := #[25] }, type := 35, pos := "law.go:88", after := #[{ on := 30, ground := Ground.data }, { on := 29, ground := Ground.chain }, { on := 29, ground := Ground.guard }], guard := some (29, true) }) rfl (fun K hK => ?_) (AllReadyH.cons (o := { dst := some 84, op := Op.buildSlice 37 2 #[(0, Operand.const (Value.int IntKind.u64 1)), (1, Operand.const (Value.int IntKind.u64 0))], type := 37, pos := "law.go:88", after := #[{ on := 29, ground := Ground.guard }], guard := some (29, true) }) rfl (fun K hK => ?_) AllReadyH.nil)
                    · skip
                      go_simp
                      refine (rows_at 2 (F.out.s.below (Hid.out hHeld.2.2.2.2.2.2.2.2.2.2)) (by decide)).mono ?_
                      rintro e v31 ⟨a31, c31, rfl, h5⟩
                      have hb := h5.2
                      replace L2 := Lib.hid (L2.out.below hb)
                      have R := Lib.hid h5.1
                      clear h5
                      try go_wp2_with fail
                      refine hK.out _ _ ?_ (fun hNew => ?_)
                      · exact ⟨cell_go hHeld.1 hb, cell_go hHeld.2.1 hb, cell_go hHeld.2.2.1 hb, cell_go hHeld.2.2.2.1 hb, cell_go hHeld.2.2.2.2.1 hb, cell_go hHeld.2.2.2.2.2.1 hb, cell_go hHeld.2.2.2.2.2.2.1 hb, cell_go hHeld.2.2.2.2.2.2.2.1 hb, cell_go hHeld.2.2.2.2.2.2.2.2.1 hb, cell_go hHeld.2.2.2.2.2.2.2.2.2.1 hb, Lib.hid ((Hid.out hHeld.2.2.2.2.2.2.2.2.2.2).trans (hb.mono (Hid.out hHeld.2.2.2.2.2.2.2.2.2.2).size))⟩
                      clear hK K
                      replace hHeld := hNew
                      clear hNew
                      ((try simp only [Act.put]); (try simp only [List.setIfInBounds_toArray]); (try simp only [List.set_cons_succ]); (try simp only [List.set_cons_zero]))
                      refine wpAnyH_ready (rs := [32]) (by kernel_rfl) (by simp) ?_
                      refine AllReadyH.cons (o := { dst := some 84, op := Op.buildSlice 37 2 #[(0, Operand.const (Value.int IntKind.u64 1)), (1, Operand.const (Value.int IntKind.u64 0))], type := 37, pos := "law.go:88", after := #[{ on := 29, ground := Ground.guard }], guard := some (29, true) }) rfl (fun K hK => ?_) AllReadyH.nil
                      go_simp
                      have L1 := Lib.hid (sl_lit v31 [1, 0] #[.int .u64 1, .int .u64 0] 30 2 rfl rfl (by decide) (by unfold maxLen; omega))
                      replace R := Lib.hid (R.out.below (box_b v31 (.cells #[.int .u64 1, .int .u64 0] 30)))
                      replace L2 := Lib.hid (L2.out.below (box_b v31 (.cells #[.int .u64 1, .int .u64 0] 30)))
                      have hb := box_b v31 (.cells #[.int .u64 1, .int .u64 0] 30)
                      generalize hw : v31.alloc (.cells #[.int .u64 1, .int .u64 0] 30) = v32 at *
                      clear hw
                      try go_wp2_with fail
                      refine hK.out _ _ ?_ (fun hNew => ?_)
                      · exact ⟨cell_go hHeld.1 hb, cell_go hHeld.2.1 hb, cell_go hHeld.2.2.1 hb, cell_go hHeld.2.2.2.1 hb, cell_go hHeld.2.2.2.2.1 hb, cell_go hHeld.2.2.2.2.2.1 hb, cell_go hHeld.2.2.2.2.2.2.1 hb, cell_go hHeld.2.2.2.2.2.2.2.1 hb, cell_go hHeld.2.2.2.2.2.2.2.2.1 hb, cell_go hHeld.2.2.2.2.2.2.2.2.2.1 hb, Lib.hid ((Hid.out hHeld.2.2.2.2.2.2.2.2.2.2).trans (hb.mono (Hid.out hHeld.2.2.2.2.2.2.2.2.2.2).size))⟩
                      clear hK K
                      replace hHeld := hNew
                      clear hNew
                      ((try simp only [Act.put]); (try simp only [List.setIfInBounds_toArray]); (try simp only [List.set_cons_succ]); (try simp only [List.set_cons_zero]))
                      refine wpAnyH_ready (rs := [34]) (by kernel_rfl) (by simp) ?_
                      refine AllReadyH.cons (o := { dst := some 86, op := Op.buildSlice 35 2 #[(0, Operand.tmp 84), (1, Operand.tmp 85)], type := 35, pos := "law.go:88", after := #[{ on := 32, ground := Ground.data }, { on := 33, ground := Ground.data }, { on := 29, ground := Ground.guard }], guard := some (29, true) }) rfl (fun K hK => ?_) AllReadyH.nil
                      go_simp
                      have Q := Lib.hid (sq_lit (w := v32) (L := [⟨some ⟨v31.heap.size, 0, none⟩, 2, [1, 0]⟩, ⟨some ⟨y20.heap.size, 0, none⟩, 2, [1, 1]⟩]) (cs := #[.slice (some ⟨v31.heap.size, 0, none⟩) 2 2, .slice (some ⟨y20.heap.size, 0, none⟩) 2 2]) (t := 37) (n := 2) (m := [[1, 0], [1, 1]]) rfl rfl rfl (by unfold maxLen; omega) (two_rd L1.out L2.out))
                      replace R := Lib.hid (R.out.below (box_b v32 (.cells #[.slice (some ⟨v31.heap.size, 0, none⟩) 2 2, .slice (some ⟨y20.heap.size, 0, none⟩) 2 2] 37)))
                      have hb := box_b v32 (.cells #[.slice (some ⟨v31.heap.size, 0, none⟩) 2 2, .slice (some ⟨y20.heap.size, 0, none⟩) 2 2] 37)
                      clear L1 L2
                      generalize hw : v32.alloc (.cells #[.slice (some ⟨v31.heap.size, 0, none⟩) 2 2, .slice (some ⟨y20.heap.size, 0, none⟩) 2 2] 37) = v34 at *
                      clear hw
                      try go_wp2_with fail
                      refine hK.out _ _ ?_ (fun hNew => ?_)
                      · exact ⟨cell_go hHeld.1 hb, cell_go hHeld.2.1 hb, cell_go hHeld.2.2.1 hb, cell_go hHeld.2.2.2.1 hb, cell_go hHeld.2.2.2.2.1 hb, cell_go hHeld.2.2.2.2.2.1 hb, cell_go hHeld.2.2.2.2.2.2.1 hb, cell_go hHeld.2.2.2.2.2.2.2.1 hb, cell_go hHeld.2.2.2.2.2.2.2.2.1 hb, cell_go hHeld.2.2.2.2.2.2.2.2.2.1 hb, Lib.hid ((Hid.out hHeld.2.2.2.2.2.2.2.2.2.2).trans (hb.mono (Hid.out hHeld.2.2.2.2.2.2.2.2.2.2).size))⟩
                      clear hK K
                      replace hHeld := hNew
                      clear hNew
                      ((try simp only [Act.put]); (try simp only [List.setIfInBounds_toArray]); (try simp only [List.set_cons_succ]); (try simp only [List.set_cons_zero]))
                      refine wpAnyH_ready (rs := [35]) (by kernel_rfl) (by simp) ?_
                      refine AllReadyH.cons (o := { dst := some 87, op := Op.call { callee := Callee.value (Operand.func 12), args := #[Operand.tmp 83, Operand.tmp 86], argTypes := #[35, 35] }, type := 4, pos := "law.go:88", after := #[{ on := 31, ground := Ground.data }, { on := 34, ground := Ground.data }, { on := 31, ground := Ground.chain }, { on := 29, ground := Ground.guard }], guard := some (29, true) }) rfl (fun K hK => ?_) AllReadyH.nil
                      go_simp
                      refine (squares_at (r := true) R.out Q.out (by decide)).mono ?_
                      rintro e v35 ⟨rfl, nn, hw⟩
                      have hb := drew_b hw
                      clear hw R Q
                      try go_wp2_with fail
                      refine hK.out _ _ ?_ (fun hNew => ?_)
                      · exact ⟨cell_go hHeld.1 hb, cell_go hHeld.2.1 hb, cell_go hHeld.2.2.1 hb, cell_go hHeld.2.2.2.1 hb, cell_go hHeld.2.2.2.2.1 hb, cell_go hHeld.2.2.2.2.2.1 hb, cell_go hHeld.2.2.2.2.2.2.1 hb, cell_go hHeld.2.2.2.2.2.2.2.1 hb, cell_go hHeld.2.2.2.2.2.2.2.2.1 hb, cell_go hHeld.2.2.2.2.2.2.2.2.2.1 hb, Lib.hid ((Hid.out hHeld.2.2.2.2.2.2.2.2.2.2).trans (hb.mono (Hid.out hHeld.2.2.2.2.2.2.2.2.2.2).size))⟩
                      clear hK K
                      replace hHeld := hNew
                      clear hNew
                      ((try simp only [Act.put]); (try simp only [List.setIfInBounds_toArray]); (try simp only [List.set_cons_succ]); (try simp only [List.set_cons_zero]))
                      refine gen1 83 (by kernel_rfl) (fun s83 => ?_)
                      ((try simp only [Act.put]); (try simp only [List.setIfInBounds_toArray]); (try simp only [List.set_cons_succ]); (try simp only [List.set_cons_zero]))
                      refine gen1 84 (by kernel_rfl) (fun s84 => ?_)
                      ((try simp only [Act.put]); (try simp only [List.setIfInBounds_toArray]); (try simp only [List.set_cons_succ]); (try simp only [List.set_cons_zero]))
                      refine gen1 85 (by kernel_rfl) (fun s85 => ?_)
                      ((try simp only [Act.put]); (try simp only [List.setIfInBounds_toArray]); (try simp only [List.set_cons_succ]); (try simp only [List.set_cons_zero]))
                      refine gen1 86 (by kernel_rfl) (fun s86 => ?_)
                      ((try simp only [Act.put]); (try simp only [List.setIfInBounds_toArray]); (try simp only [List.set_cons_succ]); (try simp only [List.set_cons_zero]))
                      refine listed_to (l' := #[true, true, true, true, true, true, true, true, true, true, true, true, true, true, true, true, true, true, true, true, true, true, true, true, true, true, true, true, true, true, true, true, true, true, true, true, false, false, false, false, false, false, false, false, false, false, false, false, false, false, false, false, false, false, false, false, false, false, false, false, false, false, false, false, false, false, false, false, false, false, false, false, false, false, false, false, false, false, false, false, false, false]) (by kernel_rfl) ?_
                      refine genw hHeld (fun y hy => ?_)
                      exact N36 s83 s84 s85 s86 y hy
                    · skip
                      go_simp
                      have L1 := Lib.hid (sl_lit v33 [1, 0] #[.int .u64 1, .int .u64 0] 30 2 rfl rfl (by decide) (by unfold maxLen; omega))
                      replace L2 := Lib.hid (L2.out.below (box_b v33 (.cells #[.int .u64 1, .int .u64 0] 30)))
                      have hb := box_b v33 (.cells #[.int .u64 1, .int .u64 0] 30)
                      generalize hw : v33.alloc (.cells #[.int .u64 1, .int .u64 0] 30) = v32 at *
                      clear hw
                      try go_wp2_with fail
                      refine hK.out _ _ ?_ (fun hNew => ?_)
                      · exact ⟨cell_go hHeld.1 hb, cell_go hHeld.2.1 hb, cell_go hHeld.2.2.1 hb, cell_go hHeld.2.2.2.1 hb, cell_go hHeld.2.2.2.2.1 hb, cell_go hHeld.2.2.2.2.2.1 hb, cell_go hHeld.2.2.2.2.2.2.1 hb, cell_go hHeld.2.2.2.2.2.2.2.1 hb, cell_go hHeld.2.2.2.2.2.2.2.2.1 hb, cell_go hHeld.2.2.2.2.2.2.2.2.2.1 hb, Lib.hid ((Hid.out hHeld.2.2.2.2.2.2.2.2.2.2).trans (hb.mono (Hid.out hHeld.2.2.2.2.2.2.2.2.2.2).size))⟩
                      clear hK K
                      replace hHeld := hNew
                      clear hNew
                      ((try simp only [Act.put]); (try simp only [List.setIfInBounds_toArray]); (try simp only [List.set_cons_succ]); (try simp only [List.set_cons_zero]))
                      refine wpAnyH_ready (rs := [31, 34]) (by kernel_rfl) (by simp) ?_
                      refine AllReadyH.cons (o := { dst := some 83, op := Op.call { callee := Callee.value (Operand.func 13), args := #[Operand.tmp 82], argTypes := #[25] }, type := 35, pos := "law.go:88", after := #[{ on := 30, ground := Ground.data }, { on := 29, ground := Ground.chain }, { on := 29, ground := Ground.guard }], guard := some (29, true) }) rfl (fun K hK => ?_) (AllReadyH.cons (o := { dst := some 86, op := Op.buildSlice 35 2 #[(0, Operand.tmp 84), (1, Operand.tmp 85)], type := 35, pos := "law.go:88", after := #[{ on := 32, ground := Ground.data }, { on := 33, ground := Ground.data }, { on := 29, ground := Ground.guard }], guard := some (29, true) }) rfl (fun K hK => ?_) AllReadyH.nil)
                      · skip
                        go_simp
                        refine (rows_at 2 (F.out.s.below (Hid.out hHeld.2.2.2.2.2.2.2.2.2.2)) (by decide)).mono ?_
                        rintro e v31 ⟨a31, c31, rfl, h5⟩
                        have hb := h5.2
                        replace L1 := Lib.hid (L1.out.below hb)
                        replace L2 := Lib.hid (L2.out.below hb)
                        have R := Lib.hid h5.1
                        clear h5
                        try go_wp2_with fail
                        refine hK.out _ _ ?_ (fun hNew => ?_)
                        · exact ⟨cell_go hHeld.1 hb, cell_go hHeld.2.1 hb, cell_go hHeld.2.2.1 hb, cell_go hHeld.2.2.2.1 hb, cell_go hHeld.2.2.2.2.1 hb, cell_go hHeld.2.2.2.2.2.1 hb, cell_go hHeld.2.2.2.2.2.2.1 hb, cell_go hHeld.2.2.2.2.2.2.2.1 hb, cell_go hHeld.2.2.2.2.2.2.2.2.1 hb, cell_go hHeld.2.2.2.2.2.2.2.2.2.1 hb, Lib.hid ((Hid.out hHeld.2.2.2.2.2.2.2.2.2.2).trans (hb.mono (Hid.out hHeld.2.2.2.2.2.2.2.2.2.2).size))⟩
                        clear hK K
                        replace hHeld := hNew
                        clear hNew
                        ((try simp only [Act.put]); (try simp only [List.setIfInBounds_toArray]); (try simp only [List.set_cons_succ]); (try simp only [List.set_cons_zero]))
                        refine wpAnyH_ready (rs := [34]) (by kernel_rfl) (by simp) ?_
                        refine AllReadyH.cons (o := { dst := some 86, op := Op.buildSlice 35 2 #[(0, Operand.tmp 84), (1, Operand.tmp 85)], type := 35, pos := "law.go:88", after := #[{ on := 32, ground := Ground.data }, { on := 33, ground := Ground.data }, { on := 29, ground := Ground.guard }], guard := some (29, true) }) rfl (fun K hK => ?_) AllReadyH.nil
                        go_simp
                        have Q := Lib.hid (sq_lit (w := v31) (L := [⟨some ⟨v33.heap.size, 0, none⟩, 2, [1, 0]⟩, ⟨some ⟨y20.heap.size, 0, none⟩, 2, [1, 1]⟩]) (cs := #[.slice (some ⟨v33.heap.size, 0, none⟩) 2 2, .slice (some ⟨y20.heap.size, 0, none⟩) 2 2]) (t := 37) (n := 2) (m := [[1, 0], [1, 1]]) rfl rfl rfl (by unfold maxLen; omega) (two_rd L1.out L2.out))
                        replace R := Lib.hid (R.out.below (box_b v31 (.cells #[.slice (some ⟨v33.heap.size, 0, none⟩) 2 2, .slice (some ⟨y20.heap.size, 0, none⟩) 2 2] 37)))
                        have hb := box_b v31 (.cells #[.slice (some ⟨v33.heap.size, 0, none⟩) 2 2, .slice (some ⟨y20.heap.size, 0, none⟩) 2 2] 37)
                        clear L1 L2
                        generalize hw : v31.alloc (.cells #[.slice (some ⟨v33.heap.size, 0, none⟩) 2 2, .slice (some ⟨y20.heap.size, 0, none⟩) 2 2] 37) = v34 at *
                        clear hw
                        try go_wp2_with fail
                        refine hK.out _ _ ?_ (fun hNew => ?_)
                        · exact ⟨cell_go hHeld.1 hb, cell_go hHeld.2.1 hb, cell_go hHeld.2.2.1 hb, cell_go hHeld.2.2.2.1 hb, cell_go hHeld.2.2.2.2.1 hb, cell_go hHeld.2.2.2.2.2.1 hb, cell_go hHeld.2.2.2.2.2.2.1 hb, cell_go hHeld.2.2.2.2.2.2.2.1 hb, cell_go hHeld.2.2.2.2.2.2.2.2.1 hb, cell_go hHeld.2.2.2.2.2.2.2.2.2.1 hb, Lib.hid ((Hid.out hHeld.2.2.2.2.2.2.2.2.2.2).trans (hb.mono (Hid.out hHeld.2.2.2.2.2.2.2.2.2.2).size))⟩
                        clear hK K
                        replace hHeld := hNew
                        clear hNew
                        ((try simp only [Act.put]); (try simp only [List.setIfInBounds_toArray]); (try simp only [List.set_cons_succ]); (try simp only [List.set_cons_zero]))
                        refine wpAnyH_ready (rs := [35]) (by kernel_rfl) (by simp) ?_
                        refine AllReadyH.cons (o := { dst := some 87, op := Op.call { callee := Callee.value (Operand.func 12), args := #[Operand.tmp 83, Operand.tmp 86], argTypes := #[35, 35] }, type := 4, pos := "law.go:88", after := #[{ on := 31, ground := Ground.data }, { on := 34, ground := Ground.data }, { on := 31, ground := Ground.chain }, { on := 29, ground := Ground.guard }], guard := some (29, true) }) rfl (fun K hK => ?_) AllReadyH.nil
                        go_simp
                        refine (squares_at (r := true) R.out Q.out (by decide)).mono ?_
                        rintro e v35 ⟨rfl, nn, hw⟩
                        have hb := drew_b hw
                        clear hw R Q
                        try go_wp2_with fail
                        refine hK.out _ _ ?_ (fun hNew => ?_)
                        · exact ⟨cell_go hHeld.1 hb, cell_go hHeld.2.1 hb, cell_go hHeld.2.2.1 hb, cell_go hHeld.2.2.2.1 hb, cell_go hHeld.2.2.2.2.1 hb, cell_go hHeld.2.2.2.2.2.1 hb, cell_go hHeld.2.2.2.2.2.2.1 hb, cell_go hHeld.2.2.2.2.2.2.2.1 hb, cell_go hHeld.2.2.2.2.2.2.2.2.1 hb, cell_go hHeld.2.2.2.2.2.2.2.2.2.1 hb, Lib.hid ((Hid.out hHeld.2.2.2.2.2.2.2.2.2.2).trans (hb.mono (Hid.out hHeld.2.2.2.2.2.2.2.2.2.2).size))⟩
                        clear hK K
                        replace hHeld := hNew
                        clear hNew
                        ((try simp only [Act.put]); (try simp only [List.setIfInBounds_toArray]); (try simp only [List.set_cons_succ]); (try simp only [List.set_cons_zero]))
                        refine gen1 83 (by kernel_rfl) (fun s83 => ?_)
                        ((try simp only [Act.put]); (try simp only [List.setIfInBounds_toArray]); (try simp only [List.set_cons_succ]); (try simp only [List.set_cons_zero]))
                        refine gen1 84 (by kernel_rfl) (fun s84 => ?_)
                        ((try simp only [Act.put]); (try simp only [List.setIfInBounds_toArray]); (try simp only [List.set_cons_succ]); (try simp only [List.set_cons_zero]))
                        refine gen1 85 (by kernel_rfl) (fun s85 => ?_)
                        ((try simp only [Act.put]); (try simp only [List.setIfInBounds_toArray]); (try simp only [List.set_cons_succ]); (try simp only [List.set_cons_zero]))
                        refine gen1 86 (by kernel_rfl) (fun s86 => ?_)
                        ((try simp only [Act.put]); (try simp only [List.setIfInBounds_toArray]); (try simp only [List.set_cons_succ]); (try simp only [List.set_cons_zero]))
                        refine listed_to (l' := #[true, true, true, true, true, true, true, true, true, true, true, true, true, true, true, true, true, true, true, true, true, true, true, true, true, true, true, true, true, true, true, true, true, true, true, true, false, false, false, false, false, false, false, false, false, false, false, false, false, false, false, false, false, false, false, false, false, false, false, false, false, false, false, false, false, false, false, false, false, false, false, false, false, false, false, false, false, false, false, false, false, false]) (by kernel_rfl) ?_
                        refine genw hHeld (fun y hy => ?_)
                        exact N36 s83 s84 s85 s86 y hy
                      · skip
                        go_simp
                        have Q := Lib.hid (sq_lit (w := v32) (L := [⟨some ⟨v33.heap.size, 0, none⟩, 2, [1, 0]⟩, ⟨some ⟨y20.heap.size, 0, none⟩, 2, [1, 1]⟩]) (cs := #[.slice (some ⟨v33.heap.size, 0, none⟩) 2 2, .slice (some ⟨y20.heap.size, 0, none⟩) 2 2]) (t := 37) (n := 2) (m := [[1, 0], [1, 1]]) rfl rfl rfl (by unfold maxLen; omega) (two_rd L1.out L2.out))
                        have hb := box_b v32 (.cells #[.slice (some ⟨v33.heap.size, 0, none⟩) 2 2, .slice (some ⟨y20.heap.size, 0, none⟩) 2 2] 37)
                        clear L1 L2
                        generalize hw : v32.alloc (.cells #[.slice (some ⟨v33.heap.size, 0, none⟩) 2 2, .slice (some ⟨y20.heap.size, 0, none⟩) 2 2] 37) = v34 at *
                        clear hw
                        try go_wp2_with fail
                        refine hK.out _ _ ?_ (fun hNew => ?_)
                        · exact ⟨cell_go hHeld.1 hb, cell_go hHeld.2.1 hb, cell_go hHeld.2.2.1 hb, cell_go hHeld.2.2.2.1 hb, cell_go hHeld.2.2.2.2.1 hb, cell_go hHeld.2.2.2.2.2.1 hb, cell_go hHeld.2.2.2.2.2.2.1 hb, cell_go hHeld.2.2.2.2.2.2.2.1 hb, cell_go hHeld.2.2.2.2.2.2.2.2.1 hb, cell_go hHeld.2.2.2.2.2.2.2.2.2.1 hb, Lib.hid ((Hid.out hHeld.2.2.2.2.2.2.2.2.2.2).trans (hb.mono (Hid.out hHeld.2.2.2.2.2.2.2.2.2.2).size))⟩
                        clear hK K
                        replace hHeld := hNew
                        clear hNew
                        ((try simp only [Act.put]); (try simp only [List.setIfInBounds_toArray]); (try simp only [List.set_cons_succ]); (try simp only [List.set_cons_zero]))
                        refine wpAnyH_ready (rs := [31]) (by kernel_rfl) (by simp) ?_
                        refine AllReadyH.cons (o := { dst := some 83, op := Op.call { callee := Callee.value (Operand.func 13), args := #[Operand.tmp 82], argTypes := #[25] }, type := 35, pos := "law.go:88", after := #[{ on := 30, ground := Ground.data }, { on := 29, ground := Ground.chain }, { on := 29, ground := Ground.guard }], guard := some (29, true) }) rfl (fun K hK => ?_) AllReadyH.nil
                        go_simp
                        refine (rows_at 2 (F.out.s.below (Hid.out hHeld.2.2.2.2.2.2.2.2.2.2)) (by decide)).mono ?_
                        rintro e v31 ⟨a31, c31, rfl, h5⟩
                        have hb := h5.2
                        replace Q := Lib.hid (Q.out.below hb)
                        have R := Lib.hid h5.1
                        clear h5
                        try go_wp2_with fail
                        refine hK.out _ _ ?_ (fun hNew => ?_)
                        · exact ⟨cell_go hHeld.1 hb, cell_go hHeld.2.1 hb, cell_go hHeld.2.2.1 hb, cell_go hHeld.2.2.2.1 hb, cell_go hHeld.2.2.2.2.1 hb, cell_go hHeld.2.2.2.2.2.1 hb, cell_go hHeld.2.2.2.2.2.2.1 hb, cell_go hHeld.2.2.2.2.2.2.2.1 hb, cell_go hHeld.2.2.2.2.2.2.2.2.1 hb, cell_go hHeld.2.2.2.2.2.2.2.2.2.1 hb, Lib.hid ((Hid.out hHeld.2.2.2.2.2.2.2.2.2.2).trans (hb.mono (Hid.out hHeld.2.2.2.2.2.2.2.2.2.2).size))⟩
                        clear hK K
                        replace hHeld := hNew
                        clear hNew
                        ((try simp only [Act.put]); (try simp only [List.setIfInBounds_toArray]); (try simp only [List.set_cons_succ]); (try simp only [List.set_cons_zero]))
                        refine wpAnyH_ready (rs := [35]) (by kernel_rfl) (by simp) ?_
                        refine AllReadyH.cons (o := { dst := some 87, op := Op.call { callee := Callee.value (Operand.func 12), args := #[Operand.tmp 83, Operand.tmp 86], argTypes := #[35, 35] }, type := 4, pos := "law.go:88", after := #[{ on := 31, ground := Ground.data }, { on := 34, ground := Ground.data }, { on := 31, ground := Ground.chain }, { on := 29, ground := Ground.guard }], guard := some (29, true) }) rfl (fun K hK => ?_) AllReadyH.nil
                        go_simp
                        refine (squares_at (r := true) R.out Q.out (by decide)).mono ?_
                        rintro e v35 ⟨rfl, nn, hw⟩
                        have hb := drew_b hw
                        clear hw R Q
                        try go_wp2_with fail
                        refine hK.out _ _ ?_ (fun hNew => ?_)
                        · exact ⟨cell_go hHeld.1 hb, cell_go hHeld.2.1 hb, cell_go hHeld.2.2.1 hb, cell_go hHeld.2.2.2.1 hb, cell_go hHeld.2.2.2.2.1 hb, cell_go hHeld.2.2.2.2.2.1 hb, cell_go hHeld.2.2.2.2.2.2.1 hb, cell_go hHeld.2.2.2.2.2.2.2.1 hb, cell_go hHeld.2.2.2.2.2.2.2.2.1 hb, cell_go hHeld.2.2.2.2.2.2.2.2.2.1 hb, Lib.hid ((Hid.out hHeld.2.2.2.2.2.2.2.2.2.2).trans (hb.mono (Hid.out hHeld.2.2.2.2.2.2.2.2.2.2).size))⟩
                        clear hK K
                        replace hHeld := hNew
                        clear hNew
                        ((try simp only [Act.put]); (try simp only [List.setIfInBounds_toArray]); (try simp only [List.set_cons_succ]); (try simp only [List.set_cons_zero]))
                        refine gen1 83 (by kernel_rfl) (fun s83 => ?_)
                        ((try simp only [Act.put]); (try simp only [List.setIfInBounds_toArray]); (try simp only [List.set_cons_succ]); (try simp only [List.set_cons_zero]))
                        refine gen1 84 (by kernel_rfl) (fun s84 => ?_)
                        ((try simp only [Act.put]); (try simp only [List.setIfInBounds_toArray]); (try simp only [List.set_cons_succ]); (try simp only [List.set_cons_zero]))
                        refine gen1 85 (by kernel_rfl) (fun s85 => ?_)
                        ((try simp only [Act.put]); (try simp only [List.setIfInBounds_toArray]); (try simp only [List.set_cons_succ]); (try simp only [List.set_cons_zero]))
                        refine gen1 86 (by kernel_rfl) (fun s86 => ?_)
                        ((try simp only [Act.put]); (try simp only [List.setIfInBounds_toArray]); (try simp only [List.set_cons_succ]); (try simp only [List.set_cons_zero]))
                        refine listed_to (l' := #[true, true, true, true, true, true, true, true, true, true, true, true, true, true, true, true, true, true, true, true, true, true, true, true, true, true, true, true, true, true, true, true, true, true, true, true, false, false, false, false, false, false, false, false, false, false, false, false, false, false, false, false, false, false, false, false, false, false, false, false, false, false, false, false, false, false, false, false, false, false, false, false, false, false, false, false, false, false, false, false, false, false]) (by kernel_rfl) ?_
                        refine genw hHeld (fun y hy => ?_)
                        exact N36 s83 s84 s85 s86 y hy
              · as_aux_lemma =>
                  refine wpAnyH_take (i := 36) (oi := { dst := some 88, op := Op.pick (Operand.tmp 81) (Operand.tmp 87) (Operand.const (Value.bool false)), type := 4, pos := "law.go:88", after := #[{ on := 29, ground := Ground.data }, { on := 35, ground := Ground.data }], guard := none }) (v := ?_) rfl (by kernel_rfl) (by kernel_rfl) (by kernel_rfl) (fun _ _ _ h => h) (Or.inl ⟨by rfl, ?_⟩) (by assumption) ?_
                  rotate_left
                  · (intro w hSw; (try dsimp only at hSw); go_simp; try with_reducible rfl)
                  ((try simp only [Act.put]); (try simp only [List.setIfInBounds_toArray]); (try simp only [List.set_cons_succ]); (try simp only [List.set_cons_zero]))
                  refine wpAnyH_take (i := 37) (oi := { dst := some 89, op := Op.move (Operand.tmp 88), type := 4, pos := "law.go:88", after := #[{ on := 36, ground := Ground.data }, { on := 35, ground := Ground.chain }], guard := none }) (v := ?_) rfl (by kernel_rfl) (by kernel_rfl) (by kernel_rfl) (fun _ _ _ h => h) (Or.inl ⟨by rfl, ?_⟩) (by assumption) ?_
                  rotate_left
                  · (intro w hSw; (try dsimp only at hSw); go_simp; try with_reducible rfl)
                  ((try simp only [Act.put]); (try simp only [List.setIfInBounds_toArray]); (try simp only [List.set_cons_succ]); (try simp only [List.set_cons_zero]))
                  refine wpAnyH_take (i := 38) (oi := { dst := some 90, op := Op.load 25 (Operand.tmp 13), type := 25, pos := "law.go:88", after := #[{ on := 37, ground := Ground.guard }], guard := some (37, true) }) (v := ?_) rfl (by kernel_rfl) (by kernel_rfl) (by kernel_rfl) (fun _ _ _ h => h) (Or.inl ⟨by rfl, ?_⟩) (by assumption) ?_
                  rotate_left
                  · (intro w hSw; (try dsimp only at hSw); go_simp; try with_reducible rfl)
                  ((try simp only [Act.put]); (try simp only [List.setIfInBounds_toArray]); (try simp only [List.set_cons_succ]); (try simp only [List.set_cons_zero]))
                  refine' neck2 (S := (fun w' => w'.cell? ⟨pC, 0, none⟩ = some (.int .i64 2) ∧ w'.cell? ⟨pC, 1, none⟩ = some (.slice aC 2 cC) ∧ w'.cell? ⟨pM, 0, none⟩ = some (.int .i64 2) ∧ w'.cell? ⟨pM, 1, none⟩ = some (.slice aM 2 cM) ∧ w'.cell? ⟨pD, 0, none⟩ = some (.int .i64 2) ∧ w'.cell? ⟨pD, 1, none⟩ = some (.slice aD 2 cD) ∧ w'.cell? ⟨pO, 0, none⟩ = some (.int .i64 3) ∧ w'.cell? ⟨pO, 1, none⟩ = some (.slice aO 3 cO) ∧ w'.cell? ⟨pF, 0, none⟩ = some (.int .i64 2) ∧ w'.cell? ⟨pF, 1, none⟩ = some (.slice aF 2 cF) ∧ Hid (Below wc.heap.size wc w'))) (fun N42 => ?_) (fun s91 s92 y42 hHeld => ?_)
                  rotate_left
                  · as_aux_lemma =>
                      refine wpAnyH_ready (rs := [39, 40]) (by kernel_rfl) (by simp) ?_
                      refine AllReadyH.cons (o := { dst := some 91, op := Op.call { callee := Callee.value (Operand.func 15), args := #[Operand.tmp 90, Operand.const (Value.int IntKind.i64 0)], argTypes := #[25, 3] }, type := 39, pos := "law.go:88", after := #[{ on := 38, ground := Ground.data }, { on := 37, ground := Ground.chain }, { on := 37, ground := Ground.guard }], guard := some (37, true) }) rfl (fun K hK => ?_) (AllReadyH.cons (o := { dst := some 92, op := Op.buildSlice 37 2 #[(0, Operand.const (Value.int IntKind.u64 1)), (1, Operand.const (Value.int IntKind.u64 1))], type := 37, pos := "law.go:88", after := #[{ on := 37, ground := Ground.guard }], guard := some (37, true) }) rfl (fun K hK => ?_) AllReadyH.nil)
                      · skip
                        go_simp
                        refine (mcol_at (j := 0) (r := [1, 1]) (k := 2) (F.out.s.below (Hid.out hHeld.2.2.2.2.2.2.2.2.2.2)) (by decide) rfl).mono ?_
                        rintro e v39 ⟨a39, c39, rfl, s, hb⟩
                        have S1 := Lib.hid s
                        clear s
                        try go_wp2_with fail
                        refine hK.out _ _ ?_ (fun hNew => ?_)
                        · exact ⟨cell_go hHeld.1 hb, cell_go hHeld.2.1 hb, cell_go hHeld.2.2.1 hb, cell_go hHeld.2.2.2.1 hb, cell_go hHeld.2.2.2.2.1 hb, cell_go hHeld.2.2.2.2.2.1 hb, cell_go hHeld.2.2.2.2.2.2.1 hb, cell_go hHeld.2.2.2.2.2.2.2.1 hb, cell_go hHeld.2.2.2.2.2.2.2.2.1 hb, cell_go hHeld.2.2.2.2.2.2.2.2.2.1 hb, Lib.hid ((Hid.out hHeld.2.2.2.2.2.2.2.2.2.2).trans (hb.mono (Hid.out hHeld.2.2.2.2.2.2.2.2.2.2).size))⟩
                        clear hK K
                        replace hHeld := hNew
                        clear hNew
                        ((try simp only [Act.put]); (try simp only [List.setIfInBounds_toArray]); (try simp only [List.set_cons_succ]); (try simp only [List.set_cons_zero]))
                        refine wpAnyH_ready (rs := [40]) (by kernel_rfl) (by simp) ?_
                        refine AllReadyH.cons (o := { dst := some 92, op := Op.buildSlice 37 2 #[(0, Operand.const (Value.int IntKind.u64 1)), (1, Operand.const (Value.int IntKind.u64 1))], type := 37, pos := "law.go:88", after := #[{ on := 37, ground := Ground.guard }], guard := some (37, true) }) rfl (fun K hK => ?_) AllReadyH.nil
                        go_simp
                        have L1 := Lib.hid (sl_lit v39 [1, 1] #[.int .u64 1, .int .u64 1] 30 2 rfl rfl (by decide) (by unfold maxLen; omega))
                        replace S1 := Lib.hid (S1.out.below (box_b v39 (.cells #[.int .u64 1, .int .u64 1] 30)))
                        have hb := box_b v39 (.cells #[.int .u64 1, .int .u64 1] 30)
                        generalize hw : v39.alloc (.cells #[.int .u64 1, .int .u64 1] 30) = v40 at *
                        clear hw
                        try go_wp2_with fail
                        refine hK.out _ _ ?_ (fun hNew => ?_)
                        · exact ⟨cell_go hHeld.1 hb, cell_go hHeld.2.1 hb, cell_go hHeld.2.2.1 hb, cell_go hHeld.2.2.2.1 hb, cell_go hHeld.2.2.2.2.1 hb, cell_go hHeld.2.2.2.2.2.1 hb, cell_go hHeld.2.2.2.2.2.2.1 hb, cell_go hHeld.2.2.2.2.2.2.2.1 hb, cell_go hHeld.2.2.2.2.2.2.2.2.1 hb, cell_go hHeld.2.2.2.2.2.2.2.2.2.1 hb, Lib.hid ((Hid.out hHeld.2.2.2.2.2.2.2.2.2.2).trans (hb.mono (Hid.out hHeld.2.2.2.2.2.2.2.2.2.2).size))⟩
                        clear hK K
                        replace hHeld := hNew
                        clear hNew
                        ((try simp only [Act.put]); (try simp only [List.setIfInBounds_toArray]); (try simp only [List.set_cons_succ]); (try simp only [List.set_cons_zero]))
                        refine wpAnyH_ready (rs := [41]) (by kernel_rfl) (by simp) ?_
                        refine AllReadyH.cons (o := { dst := some 93, op := Op.call { callee := Callee.value (Operand.func 14), args := #[Operand.tmp 91, Operand.tmp 92], argTypes := #[37, 37] }, type := 4, pos := "law.go:88", after := #[{ on := 39, ground := Ground.data }, { on := 40, ground := Ground.data }, { on := 39, ground := Ground.chain }, { on := 37, ground := Ground.guard }], guard := some (37, true) }) rfl (fun K hK => ?_) AllReadyH.nil
                        go_simp
                        refine (longs_any (r := true) S1.out L1.out rfl rfl (by decide)).mono ?_
                        rintro e v41 ⟨rfl, nn, hw⟩
                        have hb := drew_b hw
                        clear hw S1 L1
                        try go_wp2_with fail
                        refine hK.out _ _ ?_ (fun hNew => ?_)
                        · exact ⟨cell_go hHeld.1 hb, cell_go hHeld.2.1 hb, cell_go hHeld.2.2.1 hb, cell_go hHeld.2.2.2.1 hb, cell_go hHeld.2.2.2.2.1 hb, cell_go hHeld.2.2.2.2.2.1 hb, cell_go hHeld.2.2.2.2.2.2.1 hb, cell_go hHeld.2.2.2.2.2.2.2.1 hb, cell_go hHeld.2.2.2.2.2.2.2.2.1 hb, cell_go hHeld.2.2.2.2.2.2.2.2.2.1 hb, Lib.hid ((Hid.out hHeld.2.2.2.2.2.2.2.2.2.2).trans (hb.mono (Hid.out hHeld.2.2.2.2.2.2.2.2.2.2).size))⟩
                        clear hK K
                        replace hHeld := hNew
                        clear hNew
                        ((try simp only [Act.put]); (try simp only [List.setIfInBounds_toArray]); (try simp only [List.set_cons_succ]); (try simp only [List.set_cons_zero]))
                        refine gen1 91 (by kernel_rfl) (fun s91 => ?_)
                        ((try simp only [Act.put]); (try simp only [List.setIfInBounds_toArray]); (try simp only [List.set_cons_succ]); (try simp only [List.set_cons_zero]))
                        refine gen1 92 (by kernel_rfl) (fun s92 => ?_)
                        ((try simp only [Act.put]); (try simp only [List.setIfInBounds_toArray]); (try simp only [List.set_cons_succ]); (try simp only [List.set_cons_zero]))
                        refine listed_to (l' := #[true, true, true, true, true, true, true, true, true, true, true, true, true, true, true, true, true, true, true, true, true, true, true, true, true, true, true, true, true, true, true, true, true, true, true, true, true, true, true, true, true, true, false, false, false, false, false, false, false, false, false, false, false, false, false, false, false, false, false, false, false, false, false, false, false, false, false, false, false, false, false, false, false, false, false, false, false, false, false, false, false, false]) (by kernel_rfl) ?_
                        refine genw hHeld (fun y hy => ?_)
                        exact N42 s91 s92 y hy
                      · skip
                        go_simp
                        have L1 := Lib.hid (sl_lit y36 [1, 1] #[.int .u64 1, .int .u64 1] 30 2 rfl rfl (by decide) (by unfold maxLen; omega))
                        have hb := box_b y36 (.cells #[.int .u64 1, .int .u64 1] 30)
                        generalize hw : y36.alloc (.cells #[.int .u64 1, .int .u64 1] 30) = v40 at *
                        clear hw
                        try go_wp2_with fail
                        refine hK.out _ _ ?_ (fun hNew => ?_)
                        · exact ⟨cell_go hHeld.1 hb, cell_go hHeld.2.1 hb, cell_go hHeld.2.2.1 hb, cell_go hHeld.2.2.2.1 hb, cell_go hHeld.2.2.2.2.1 hb, cell_go hHeld.2.2.2.2.2.1 hb, cell_go hHeld.2.2.2.2.2.2.1 hb, cell_go hHeld.2.2.2.2.2.2.2.1 hb, cell_go hHeld.2.2.2.2.2.2.2.2.1 hb, cell_go hHeld.2.2.2.2.2.2.2.2.2.1 hb, Lib.hid ((Hid.out hHeld.2.2.2.2.2.2.2.2.2.2).trans (hb.mono (Hid.out hHeld.2.2.2.2.2.2.2.2.2.2).size))⟩
                        clear hK K
                        replace hHeld := hNew
                        clear hNew
                        ((try simp only [Act.put]); (try simp only [List.setIfInBounds_toArray]); (try simp only [List.set_cons_succ]); (try simp only [List.set_cons_zero]))
                        refine wpAnyH_ready (rs := [39]) (by kernel_rfl) (by simp) ?_
                        refine AllReadyH.cons (o := { dst := some 91, op := Op.call { callee := Callee.value (Operand.func 15), args := #[Operand.tmp 90, Operand.const (Value.int IntKind.i64 0)], argTypes := #[25, 3] }, type := 39, pos := "law.go:88", after := #[{ on := 38, ground := Ground.data }, { on := 37, ground := Ground.chain }, { on := 37, ground := Ground.guard }], guard := some (37, true) }) rfl (fun K hK => ?_) AllReadyH.nil
                        go_simp
                        refine (mcol_at (j := 0) (r := [1, 1]) (k := 2) (F.out.s.below (Hid.out hHeld.2.2.2.2.2.2.2.2.2.2)) (by decide) rfl).mono ?_
                        rintro e v39 ⟨a39, c39, rfl, s, hb⟩
                        replace L1 := Lib.hid (L1.out.below hb)
                        have S1 := Lib.hid s
                        clear s
                        try go_wp2_with fail
                        refine hK.out _ _ ?_ (fun hNew => ?_)
                        · exact ⟨cell_go hHeld.1 hb, cell_go hHeld.2.1 hb, cell_go hHeld.2.2.1 hb, cell_go hHeld.2.2.2.1 hb, cell_go hHeld.2.2.2.2.1 hb, cell_go hHeld.2.2.2.2.2.1 hb, cell_go hHeld.2.2.2.2.2.2.1 hb, cell_go hHeld.2.2.2.2.2.2.2.1 hb, cell_go hHeld.2.2.2.2.2.2.2.2.1 hb, cell_go hHeld.2.2.2.2.2.2.2.2.2.1 hb, Lib.hid ((Hid.out hHeld.2.2.2.2.2.2.2.2.2.2).trans (hb.mono (Hid.out hHeld.2.2.2.2.2.2.2.2.2.2).size))⟩
                        clear hK K
                        replace hHeld := hNew
                        clear hNew
                        ((try simp only [Act.put]); (try simp only [List.setIfInBounds_toArray]); (try simp only [List.set_cons_succ]); (try simp only [List.set_cons_zero]))
                        refine wpAnyH_ready (rs := [41]) (by kernel_rfl) (by simp) ?_
                        refine AllReadyH.cons (o := { dst := some 93, op := Op.call { callee := Callee.value (Operand.func 14), args := #[Operand.tmp 91, Operand.tmp 92], argTypes := #[37, 37] }, type := 4, pos := "law.go:88", after := #[{ on := 39, ground := Ground.data }, { on := 40, ground := Ground.data }, { on := 39, ground := Ground.chain }, { on := 37, ground := Ground.guard }], guard := some (37, true) }) rfl (fun K hK => ?_) AllReadyH.nil
                        go_simp
                        refine (longs_any (r := true) S1.out L1.out rfl rfl (by decide)).mono ?_
                        rintro e v41 ⟨rfl, nn, hw⟩
                        have hb := drew_b hw
                        clear hw S1 L1
                        try go_wp2_with fail
                        refine hK.out _ _ ?_ (fun hNew => ?_)
                        · exact ⟨cell_go hHeld.1 hb, cell_go hHeld.2.1 hb, cell_go hHeld.2.2.1 hb, cell_go hHeld.2.2.2.1 hb, cell_go hHeld.2.2.2.2.1 hb, cell_go hHeld.2.2.2.2.2.1 hb, cell_go hHeld.2.2.2.2.2.2.1 hb, cell_go hHeld.2.2.2.2.2.2.2.1 hb, cell_go hHeld.2.2.2.2.2.2.2.2.1 hb, cell_go hHeld.2.2.2.2.2.2.2.2.2.1 hb, Lib.hid ((Hid.out hHeld.2.2.2.2.2.2.2.2.2.2).trans (hb.mono (Hid.out hHeld.2.2.2.2.2.2.2.2.2.2).size))⟩
                        clear hK K
                        replace hHeld := hNew
                        clear hNew
                        ((try simp only [Act.put]); (try simp only [List.setIfInBounds_toArray]); (try simp only [List.set_cons_succ]); (try simp only [List.set_cons_zero]))
                        refine gen1 91 (by kernel_rfl) (fun s91 => ?_)
                        ((try simp only [Act.put]); (try simp only [List.setIfInBounds_toArray]); (try simp only [List.set_cons_succ]); (try simp only [List.set_cons_zero]))
                        refine gen1 92 (by kernel_rfl) (fun s92 => ?_)
                        ((try simp only [Act.put]); (try simp only [List.setIfInBounds_toArray]); (try simp only [List.set_cons_succ]); (try simp only [List.set_cons_zero]))
                        refine listed_to (l' := #[true, true, true, true, true, true, true, true, true, true, true, true, true, true, true, true, true, true, true, true, true, true, true, true, true, true, true, true, true, true, true, true, true, true, true, true, true, true, true, true, true, true, false, false, false, false, false, false, false, false, false, false, false, false, false, false, false, false, false, false, false, false, false, false, false, false, false, false, false, false, false, false, false, false, false, false, false, false, false, false, false, false]) (by kernel_rfl) ?_
                        refine genw hHeld (fun y hy => ?_)
                        exact N42 s91 s92 y hy
                  · as_aux_lemma =>
                      refine wpAnyH_take (i := 42) (oi := { dst := some 94, op := Op.pick (Operand.tmp 89) (Operand.tmp 93) (Operand.const (Value.bool false)), type := 4, pos := "law.go:88", after := #[{ on := 37, ground := Ground.data }, { on := 41, ground := Ground.data }], guard := none }) (v := ?_) rfl (by kernel_rfl) (by kernel_rfl) (by kernel_rfl) (fun _ _ _ h => h) (Or.inl ⟨by rfl, ?_⟩) (by assumption) ?_
                      rotate_left
                      · (intro w hSw; (try dsimp only at hSw); go_simp; try with_reducible rfl)
                      ((try simp only [Act.put]); (try simp only [List.setIfInBounds_toArray]); (try simp only [List.set_cons_succ]); (try simp only [List.set_cons_zero]))
                      refine wpAnyH_take (i := 43) (oi := { dst := some 95, op := Op.move (Operand.tmp 94), type := 4, pos := "law.go:88", after := #[{ on := 42, ground := Ground.data }, { on := 41, ground := Ground.chain }], guard := none }) (v := ?_) rfl (by kernel_rfl) (by kernel_rfl) (by kernel_rfl) (fun _ _ _ h => h) (Or.inl ⟨by rfl, ?_⟩) (by assumption) ?_
                      rotate_left
                      · (intro w hSw; (try dsimp only at hSw); go_simp; try with_reducible rfl)
                      ((try simp only [Act.put]); (try simp only [List.setIfInBounds_toArray]); (try simp only [List.set_cons_succ]); (try simp only [List.set_cons_zero]))
                      refine wpAnyH_take (i := 44) (oi := { dst := some 96, op := Op.load 25 (Operand.tmp 13), type := 25, pos := "law.go:88", after := #[{ on := 43, ground := Ground.guard }], guard := some (43, true) }) (v := ?_) rfl (by kernel_rfl) (by kernel_rfl) (by kernel_rfl) (fun _ _ _ h => h) (Or.inl ⟨by rfl, ?_⟩) (by assumption) ?_
                      rotate_left
                      · (intro w hSw; (try dsimp only at hSw); go_simp; try with_reducible rfl)
                      ((try simp only [Act.put]); (try simp only [List.setIfInBounds_toArray]); (try simp only [List.set_cons_succ]); (try simp only [List.set_cons_zero]))
                      refine wpAnyH_ready (rs := [45]) (by kernel_rfl) (by simp) ?_
                      refine AllReadyH.cons (o := { dst := some 97, op := Op.call { callee := Callee.value (Operand.func 15), args := #[Operand.tmp 96, Operand.const (Value.int IntKind.i64 2)], argTypes := #[25, 3] }, type := 39, pos := "law.go:88", after := #[{ on := 44, ground := Ground.data }, { on := 43, ground := Ground.chain }, { on := 43, ground := Ground.guard }], guard := some (43, true) }) rfl (fun K hK => ?_) AllReadyH.nil
                      go_simp
                      refine (mcol_at (j := 2) (r := []) (k := 0) (F.out.s.below (Hid.out hHeld.2.2.2.2.2.2.2.2.2.2)) (by decide) rfl).mono ?_
                      rintro e v45 ⟨a45, c45, rfl, s, hb⟩
                      clear s
                      try go_wp2_with fail
                      refine hK.out _ _ ?_ (fun hNew => ?_)
                      · exact ⟨cell_go hHeld.1 hb, cell_go hHeld.2.1 hb, cell_go hHeld.2.2.1 hb, cell_go hHeld.2.2.2.1 hb, cell_go hHeld.2.2.2.2.1 hb, cell_go hHeld.2.2.2.2.2.1 hb, cell_go hHeld.2.2.2.2.2.2.1 hb, cell_go hHeld.2.2.2.2.2.2.2.1 hb, cell_go hHeld.2.2.2.2.2.2.2.2.1 hb, cell_go hHeld.2.2.2.2.2.2.2.2.2.1 hb, Lib.hid ((Hid.out hHeld.2.2.2.2.2.2.2.2.2.2).trans (hb.mono (Hid.out hHeld.2.2.2.2.2.2.2.2.2.2).size))⟩
                      clear hK K
                      replace hHeld := hNew
                      clear hNew
                      ((try simp only [Act.put]); (try simp only [List.setIfInBounds_toArray]); (try simp only [List.set_cons_succ]); (try simp only [List.set_cons_zero]))
                      refine wpAnyH_take (i := 46) (oi := { dst := some 98, op := Op.call { callee := Callee.builtin Builtin.len, args := #[Operand.tmp 97], argTypes := #[39] }, type := 3, pos := "law.go:88", after := #[{ on := 45, ground := Ground.data }, { on := 43, ground := Ground.guard }], guard := some (43, true) }) (v := ?_) rfl (by kernel_rfl) (by kernel_rfl) (by kernel_rfl) (fun _ _ _ h => h) (Or.inl ⟨by rfl, ?_⟩) (by assumption) ?_
                      rotate_left
                      · (intro w hSw; (try dsimp only at hSw); go_simp; try with_reducible rfl)
                      ((try simp only [Act.put]); (try simp only [List.setIfInBounds_toArray]); (try simp only [List.set_cons_succ]); (try simp only [List.set_cons_zero]))
                      refine wpAnyH_take (i := 47) (oi := { dst := some 99, op := Op.binOp BinOp.eql 3 (Operand.tmp 98) (Operand.const (Value.int IntKind.i64 0)) 3, type := 4, pos := "law.go:88", after := #[{ on := 46, ground := Ground.data }, { on := 43, ground := Ground.guard }], guard := some (43, true) }) (v := ?_) rfl (by kernel_rfl) (by kernel_rfl) (by kernel_rfl) (fun _ _ _ h => h) (Or.inl ⟨by rfl, ?_⟩) (by assumption) ?_
                      rotate_left
                      · (intro w hSw; (try dsimp only at hSw); go_simp; try with_reducible rfl)
                      ((try simp only [Act.put]); (try simp only [List.setIfInBounds_toArray]); (try simp only [List.set_cons_succ]); (try simp only [List.set_cons_zero]))
                      refine wpAnyH_take (i := 48) (oi := { dst := some 100, op := Op.pick (Operand.tmp 95) (Operand.tmp 99) (Operand.const (Value.bool false)), type := 4, pos := "law.go:88", after := #[{ on := 43, ground := Ground.data }, { on := 47, ground := Ground.data }], guard := none }) (v := ?_) rfl (by kernel_rfl) (by kernel_rfl) (by kernel_rfl) (fun _ _ _ h => h) (Or.inl ⟨by rfl, ?_⟩) (by assumption) ?_
                      rotate_left
                      · (intro w hSw; (try dsimp only at hSw); go_simp; try with_reducible rfl)
                      ((try simp only [Act.put]); (try simp only [List.setIfInBounds_toArray]); (try simp only [List.set_cons_succ]); (try simp only [List.set_cons_zero]))
                      refine wpAnyH_take (i := 49) (oi := { dst := some 101, op := Op.move (Operand.tmp 100), type := 4, pos := "law.go:88", after := #[{ on := 48, ground := Ground.data }, { on := 45, ground := Ground.chain }], guard := none }) (v := ?_) rfl (by kernel_rfl) (by kernel_rfl) (by kernel_rfl) (fun _ _ _ h => h) (Or.inl ⟨by rfl, ?_⟩) (by assumption) ?_
                      rotate_left
                      · (intro w hSw; (try dsimp only at hSw); go_simp; try with_reducible rfl)
                      ((try simp only [Act.put]); (try simp only [List.setIfInBounds_toArray]); (try simp only [List.set_cons_succ]); (try simp only [List.set_cons_zero]))
                      refine wpAnyH_take (i := 50) (oi := { dst := some 102, op := Op.load 25 (Operand.tmp 13), type := 25, pos := "law.go:88", after := #[{ on := 49, ground := Ground.guard }], guard := some (49, true) }) (v := ?_) rfl (by kernel_rfl) (by kernel_rfl) (by kernel_rfl) (fun _ _ _ h => h) (Or.inl ⟨by rfl, ?_⟩) (by assumption) ?_
                      rotate_left
                      · (intro w hSw; (try dsimp only at hSw); go_simp; try with_reducible rfl)
                      ((try simp only [Act.put]); (try simp only [List.setIfInBounds_toArray]); (try simp only [List.set_cons_succ]); (try simp only [List.set_cons_zero]))
                      refine wpAnyH_ready (rs := [51]) (by kernel_rfl) (by simp) ?_
                      refine AllReadyH.cons (o := { dst := some 103, op := Op.call { callee := Callee.value (Operand.func 16), args := #[Operand.tmp 102, Operand.const (Value.int IntKind.i64 0), Operand.const (Value.int IntKind.i64 2)], argTypes := #[25, 3, 3] }, type := 30, pos := "law.go:88", after := #[{ on := 50, ground := Ground.data }, { on := 49, ground := Ground.chain }, { on := 49, ground := Ground.guard }], guard := some (49, true) }) rfl (fun K hK => ?_) AllReadyH.nil
                      go_simp
                      refine (mat_at (i := 0) (j := 2) (v := 0) (F.out.s.below (Hid.out hHeld.2.2.2.2.2.2.2.2.2.2)) (by decide) (by decide)).mono ?_
                      rintro e v51 ⟨rfl, hb⟩
                      try go_wp2_with fail
                      refine hK.out _ _ ?_ (fun hNew => ?_)
                      · exact ⟨cell_go hHeld.1 hb, cell_go hHeld.2.1 hb, cell_go hHeld.2.2.1 hb, cell_go hHeld.2.2.2.1 hb, cell_go hHeld.2.2.2.2.1 hb, cell_go hHeld.2.2.2.2.2.1 hb, cell_go hHeld.2.2.2.2.2.2.1 hb, cell_go hHeld.2.2.2.2.2.2.2.1 hb, cell_go hHeld.2.2.2.2.2.2.2.2.1 hb, cell_go hHeld.2.2.2.2.2.2.2.2.2.1 hb, Lib.hid ((Hid.out hHeld.2.2.2.2.2.2.2.2.2.2).trans (hb.mono (Hid.out hHeld.2.2.2.2.2.2.2.2.2.2).size))⟩
                      clear hK K
                      replace hHeld := hNew
                      clear hNew
                      ((try simp only [Act.put]); (try simp only [List.setIfInBounds_toArray]); (try simp only [List.set_cons_succ]); (try simp only [List.set_cons_zero]))
                      refine wpAnyH_take (i := 52) (oi := { dst := some 104, op := Op.binOp BinOp.eql 30 (Operand.tmp 103) (Operand.const (Value.int IntKind.u64 0)) 30, type := 4, pos := "law.go:88", after := #[{ on := 51, ground := Ground.data }, { on := 49, ground := Ground.guard }], guard := some (49, true) }) (v := ?_) rfl (by kernel_rfl) (by kernel_rfl) (by kernel_rfl) (fun _ _ _ h => h) (Or.inl ⟨by rfl, ?_⟩) (by assumption) ?_
                      rotate_left
                      · (intro w hSw; (try dsimp only at hSw); go_simp; try with_reducible rfl)
                      ((try simp only [Act.put]); (try simp only [List.setIfInBounds_toArray]); (try simp only [List.set_cons_succ]); (try simp only [List.set_cons_zero]))
                      refine wpAnyH_take (i := 53) (oi := { dst := some 105, op := Op.pick (Operand.tmp 101) (Operand.tmp 104) (Operand.const (Value.bool false)), type := 4, pos := "law.go:88", after := #[{ on := 49, ground := Ground.data }, { on := 52, ground := Ground.data }], guard := none }) (v := ?_) rfl (by kernel_rfl) (by kernel_rfl) (by kernel_rfl) (fun _ _ _ h => h) (Or.inl ⟨by rfl, ?_⟩) (by assumption) ?_
                      rotate_left
                      · (intro w hSw; (try dsimp only at hSw); go_simp; try with_reducible rfl)
                      ((try simp only [Act.put]); (try simp only [List.setIfInBounds_toArray]); (try simp only [List.set_cons_succ]); (try simp only [List.set_cons_zero]))
                      refine wpAnyH_take (i := 54) (oi := { dst := some 106, op := Op.move (Operand.tmp 105), type := 4, pos := "law.go:88", after := #[{ on := 53, ground := Ground.data }, { on := 51, ground := Ground.chain }], guard := none }) (v := ?_) rfl (by kernel_rfl) (by kernel_rfl) (by kernel_rfl) (fun _ _ _ h => h) (Or.inl ⟨by rfl, ?_⟩) (by assumption) ?_
                      rotate_left
                      · (intro w hSw; (try dsimp only at hSw); go_simp; try with_reducible rfl)
                      ((try simp only [Act.put]); (try simp only [List.setIfInBounds_toArray]); (try simp only [List.set_cons_succ]); (try simp only [List.set_cons_zero]))
                      refine wpAnyH_take (i := 55) (oi := { dst := some 107, op := Op.load 25 (Operand.tmp 13), type := 25, pos := "law.go:88", after := #[{ on := 54, ground := Ground.guard }], guard := some (54, true) }) (v := ?_) rfl (by kernel_rfl) (by kernel_rfl) (by kernel_rfl) (fun _ _ _ h => h) (Or.inl ⟨by rfl, ?_⟩) (by assumption) ?_
                      rotate_left
                      · (intro w hSw; (try dsimp only at hSw); go_simp; try with_reducible rfl)
                      ((try simp only [Act.put]); (try simp only [List.setIfInBounds_toArray]); (try simp only [List.set_cons_succ]); (try simp only [List.set_cons_zero]))
                      refine wpAnyH_ready (rs := [56]) (by kernel_rfl) (by simp) ?_
                      refine AllReadyH.cons (o := { dst := some 108, op := Op.call { callee := Callee.value (Operand.func 16), args := #[Operand.tmp 107, Operand.const (Value.int IntKind.i64 (-1)), Operand.const (Value.int IntKind.i64 0)], argTypes := #[25, 3, 3] }, type := 30, pos := "law.go:88", after := #[{ on := 55, ground := Ground.data }, { on := 54, ground := Ground.chain }, { on := 54, ground := Ground.guard }], guard := some (54, true) }) rfl (fun K hK => ?_) AllReadyH.nil
                      go_simp
                      refine (mat_at (i := (-1)) (j := 0) (v := 0) (F.out.s.below (Hid.out hHeld.2.2.2.2.2.2.2.2.2.2)) (by decide) (by decide)).mono ?_
                      rintro e v56 ⟨rfl, hb⟩
                      try go_wp2_with fail
                      refine hK.out _ _ ?_ (fun hNew => ?_)
                      · exact ⟨cell_go hHeld.1 hb, cell_go hHeld.2.1 hb, cell_go hHeld.2.2.1 hb, cell_go hHeld.2.2.2.1 hb, cell_go hHeld.2.2.2.2.1 hb, cell_go hHeld.2.2.2.2.2.1 hb, cell_go hHeld.2.2.2.2.2.2.1 hb, cell_go hHeld.2.2.2.2.2.2.2.1 hb, cell_go hHeld.2.2.2.2.2.2.2.2.1 hb, cell_go hHeld.2.2.2.2.2.2.2.2.2.1 hb, Lib.hid ((Hid.out hHeld.2.2.2.2.2.2.2.2.2.2).trans (hb.mono (Hid.out hHeld.2.2.2.2.2.2.2.2.2.2).size))⟩
                      clear hK K
                      replace hHeld := hNew
                      clear hNew
                      ((try simp only [Act.put]); (try simp only [List.setIfInBounds_toArray]); (try simp only [List.set_cons_succ]); (try simp only [List.set_cons_zero]))
                      refine wpAnyH_take (i := 57) (oi := { dst := some 109, op := Op.binOp BinOp.eql 30 (Operand.tmp 108) (Operand.const (Value.int IntKind.u64 0)) 30, type := 4, pos := "law.go:88", after := #[{ on := 56, ground := Ground.data }, { on := 54, ground := Ground.guard }], guard := some (54, true) }) (v := ?_) rfl (by kernel_rfl) (by kernel_rfl) (by kernel_rfl) (fun _ _ _ h => h) (Or.inl ⟨by rfl, ?_⟩) (by assumption) ?_
                      rotate_left
                      · (intro w hSw; (try dsimp only at hSw); go_simp; try with_reducible rfl)
                      ((try simp only [Act.put]); (try simp only [List.setIfInBounds_toArray]); (try simp only [List.set_cons_succ]); (try simp only [List.set_cons_zero]))
                      refine wpAnyH_take (i := 58) (oi := { dst := some 110, op := Op.pick (Operand.tmp 106) (Operand.tmp 109) (Operand.const (Value.bool false)), type := 4, pos := "law.go:88", after := #[{ on := 54, ground := Ground.data }, { on := 57, ground := Ground.data }], guard := none }) (v := ?_) rfl (by kernel_rfl) (by kernel_rfl) (by kernel_rfl) (fun _ _ _ h => h) (Or.inl ⟨by rfl, ?_⟩) (by assumption) ?_
                      rotate_left
                      · (intro w hSw; (try dsimp only at hSw); go_simp; try with_reducible rfl)
                      ((try simp only [Act.put]); (try simp only [List.setIfInBounds_toArray]); (try simp only [List.set_cons_succ]); (try simp only [List.set_cons_zero]))
                      refine wpAnyH_take (i := 59) (oi := { dst := some 111, op := Op.move (Operand.tmp 110), type := 4, pos := "law.go:88", after := #[{ on := 58, ground := Ground.data }, { on := 56, ground := Ground.chain }], guard := none }) (v := ?_) rfl (by kernel_rfl) (by kernel_rfl) (by kernel_rfl) (fun _ _ _ h => h) (Or.inl ⟨by rfl, ?_⟩) (by assumption) ?_
                      rotate_left
                      · (intro w hSw; (try dsimp only at hSw); go_simp; try with_reducible rfl)
                      ((try simp only [Act.put]); (try simp only [List.setIfInBounds_toArray]); (try simp only [List.set_cons_succ]); (try simp only [List.set_cons_zero]))
                      refine wpAnyH_take (i := 60) (oi := { dst := some 112, op := Op.build 25 #[(0, Operand.const (Value.int IntKind.i64 1))], type := 25, pos := "law.go:88", after := #[{ on := 59, ground := Ground.guard }], guard := some (59, true) }) (v := ?_) rfl (by kernel_rfl) (by kernel_rfl) (by kernel_rfl) (fun _ _ _ h => h) (Or.inl ⟨by rfl, ?_⟩) (by assumption) ?_
                      rotate_left
                      · (intro w hSw; (try dsimp only at hSw); go_simp; try with_reducible rfl)
                      ((try simp only [Act.put]); (try simp only [List.setIfInBounds_toArray]); (try simp only [List.set_cons_succ]); (try simp only [List.set_cons_zero]))
                      refine wpAnyH_ready (rs := [61]) (by kernel_rfl) (by simp) ?_
                      refine AllReadyH.cons (o := { dst := some 113, op := Op.call { callee := Callee.value (Operand.func 17), args := #[Operand.tmp 112], argTypes := #[25] }, type := 4, pos := "law.go:88", after := #[{ on := 60, ground := Ground.data }, { on := 59, ground := Ground.chain }, { on := 59, ground := Ground.guard }], guard := some (59, true) }) rfl (fun K hK => ?_) AllReadyH.nil
                      go_simp
                      refine (mgood_at (A := fun _ => False) (z := 1) (r := false) (SqAt.nil _) (by decide)).mono ?_
                      rintro e v61 ⟨rfl, hb⟩
                      try go_wp2_with fail
                      refine hK.out _ _ ?_ (fun hNew => ?_)
                      · exact ⟨cell_go hHeld.1 hb, cell_go hHeld.2.1 hb, cell_go hHeld.2.2.1 hb, cell_go hHeld.2.2.2.1 hb, cell_go hHeld.2.2.2.2.1 hb, cell_go hHeld.2.2.2.2.2.1 hb, cell_go hHeld.2.2.2.2.2.2.1 hb, cell_go hHeld.2.2.2.2.2.2.2.1 hb, cell_go hHeld.2.2.2.2.2.2.2.2.1 hb, cell_go hHeld.2.2.2.2.2.2.2.2.2.1 hb, Lib.hid ((Hid.out hHeld.2.2.2.2.2.2.2.2.2.2).trans (hb.mono (Hid.out hHeld.2.2.2.2.2.2.2.2.2.2).size))⟩
                      clear hK K
                      replace hHeld := hNew
                      clear hNew
                      ((try simp only [Act.put]); (try simp only [List.setIfInBounds_toArray]); (try simp only [List.set_cons_succ]); (try simp only [List.set_cons_zero]))
                      refine wpAnyH_take (i := 62) (oi := { dst := some 114, op := Op.unOp UnOp.not 4 (Operand.tmp 113), type := 4, pos := "law.go:88", after := #[{ on := 61, ground := Ground.data }, { on := 59, ground := Ground.guard }], guard := some (59, true) }) (v := ?_) rfl (by kernel_rfl) (by kernel_rfl) (by kernel_rfl) (fun _ _ _ h => h) (Or.inl ⟨by rfl, ?_⟩) (by assumption) ?_
                      rotate_left
                      · (intro w hSw; (try dsimp only at hSw); go_simp; try with_reducible rfl)
                      ((try simp only [Act.put]); (try simp only [List.setIfInBounds_toArray]); (try simp only [List.set_cons_succ]); (try simp only [List.set_cons_zero]))
                      refine wpAnyH_take (i := 63) (oi := { dst := some 115, op := Op.pick (Operand.tmp 111) (Operand.tmp 114) (Operand.const (Value.bool false)), type := 4, pos := "law.go:88", after := #[{ on := 59, ground := Ground.data }, { on := 62, ground := Ground.data }], guard := none }) (v := ?_) rfl (by kernel_rfl) (by kernel_rfl) (by kernel_rfl) (fun _ _ _ h => h) (Or.inl ⟨by rfl, ?_⟩) (by assumption) ?_
                      rotate_left
                      · (intro w hSw; (try dsimp only at hSw); go_simp; try with_reducible rfl)
                      ((try simp only [Act.put]); (try simp only [List.setIfInBounds_toArray]); (try simp only [List.set_cons_succ]); (try simp only [List.set_cons_zero]))
                      refine wpAnyH_take (i := 64) (oi := { dst := some 116, op := Op.move (Operand.tmp 115), type := 4, pos := "law.go:88", after := #[{ on := 63, ground := Ground.data }, { on := 61, ground := Ground.chain }], guard := none }) (v := ?_) rfl (by kernel_rfl) (by kernel_rfl) (by kernel_rfl) (fun _ _ _ h => h) (Or.inl ⟨by rfl, ?_⟩) (by assumption) ?_
                      rotate_left
                      · (intro w hSw; (try dsimp only at hSw); go_simp; try with_reducible rfl)
                      ((try simp only [Act.put]); (try simp only [List.setIfInBounds_toArray]); (try simp only [List.set_cons_succ]); (try simp only [List.set_cons_zero]))
                      refine wpAnyH_take (i := 65) (oi := { dst := some 117, op := Op.load 25 (Operand.tmp 8), type := 25, pos := "law.go:88", after := #[{ on := 64, ground := Ground.guard }], guard := some (64, true) }) (v := ?_) rfl (by kernel_rfl) (by kernel_rfl) (by kernel_rfl) (fun _ _ _ h => h) (Or.inl ⟨by rfl, ?_⟩) (by assumption) ?_
                      rotate_left
                      · (intro w hSw; (try dsimp only at hSw); go_simp; try with_reducible rfl)
                      ((try simp only [Act.put]); (try simp only [List.setIfInBounds_toArray]); (try simp only [List.set_cons_succ]); (try simp only [List.set_cons_zero]))
                      refine wpAnyH_take (i := 66) (oi := { dst := some 118, op := Op.load 25 (Operand.tmp 5), type := 25, pos := "law.go:88", after := #[{ on := 64, ground := Ground.guard }], guard := some (64, true) }) (v := ?_) rfl (by kernel_rfl) (by kernel_rfl) (by kernel_rfl) (fun _ _ _ h => h) (Or.inl ⟨by rfl, ?_⟩) (by assumption) ?_
                      rotate_left
                      · (intro w hSw; (try dsimp only at hSw); go_simp; try with_reducible rfl)
                      ((try simp only [Act.put]); (try simp only [List.setIfInBounds_toArray]); (try simp only [List.set_cons_succ]); (try simp only [List.set_cons_zero]))
                      refine wpAnyH_ready (rs := [67]) (by kernel_rfl) (by simp) ?_
                      refine AllReadyH.cons (o := { dst := some 119, op := Op.call { callee := Callee.value (Operand.func 18), args := #[Operand.tmp 117, Operand.tmp 118], argTypes := #[25, 25] }, type := 4, pos := "law.go:88", after := #[{ on := 65, ground := Ground.data }, { on := 66, ground := Ground.data }, { on := 64, ground := Ground.chain }, { on := 64, ground := Ground.guard }], guard := some (64, true) }) rfl (fun K hK => ?_) AllReadyH.nil
                      go_simp
                      refine (mwi_at (r := false) (D.out.s.below (Hid.out hHeld.2.2.2.2.2.2.2.2.2.2)) (M.out.s.below (Hid.out hHeld.2.2.2.2.2.2.2.2.2.2)) (by decide)).mono ?_
                      rintro e v67 ⟨rfl, hb⟩
                      try go_wp2_with fail
                      refine hK.out _ _ ?_ (fun hNew => ?_)
                      · exact ⟨cell_go hHeld.1 hb, cell_go hHeld.2.1 hb, cell_go hHeld.2.2.1 hb, cell_go hHeld.2.2.2.1 hb, cell_go hHeld.2.2.2.2.1 hb, cell_go hHeld.2.2.2.2.2.1 hb, cell_go hHeld.2.2.2.2.2.2.1 hb, cell_go hHeld.2.2.2.2.2.2.2.1 hb, cell_go hHeld.2.2.2.2.2.2.2.2.1 hb, cell_go hHeld.2.2.2.2.2.2.2.2.2.1 hb, Lib.hid ((Hid.out hHeld.2.2.2.2.2.2.2.2.2.2).trans (hb.mono (Hid.out hHeld.2.2.2.2.2.2.2.2.2.2).size))⟩
                      clear hK K
                      replace hHeld := hNew
                      clear hNew
                      ((try simp only [Act.put]); (try simp only [List.setIfInBounds_toArray]); (try simp only [List.set_cons_succ]); (try simp only [List.set_cons_zero]))
                      refine wpAnyH_take (i := 68) (oi := { dst := some 120, op := Op.unOp UnOp.not 4 (Operand.tmp 119), type := 4, pos := "law.go:88", after := #[{ on := 67, ground := Ground.data }, { on := 64, ground := Ground.guard }], guard := some (64, true) }) (v := ?_) rfl (by kernel_rfl) (by kernel_rfl) (by kernel_rfl) (fun _ _ _ h => h) (Or.inl ⟨by rfl, ?_⟩) (by assumption) ?_
                      rotate_left
                      · (intro w hSw; (try dsimp only at hSw); go_simp; try with_reducible rfl)
                      ((try simp only [Act.put]); (try simp only [List.setIfInBounds_toArray]); (try simp only [List.set_cons_succ]); (try simp only [List.set_cons_zero]))
                      refine wpAnyH_take (i := 69) (oi := { dst := some 121, op := Op.pick (Operand.tmp 116) (Operand.tmp 120) (Operand.const (Value.bool false)), type := 4, pos := "law.go:88", after := #[{ on := 64, ground := Ground.data }, { on := 68, ground := Ground.data }], guard := none }) (v := ?_) rfl (by kernel_rfl) (by kernel_rfl) (by kernel_rfl) (fun _ _ _ h => h) (Or.inl ⟨by rfl, ?_⟩) (by assumption) ?_
                      rotate_left
                      · (intro w hSw; (try dsimp only at hSw); go_simp; try with_reducible rfl)
                      ((try simp only [Act.put]); (try simp only [List.setIfInBounds_toArray]); (try simp only [List.set_cons_succ]); (try simp only [List.set_cons_zero]))
                      refine wpAnyH_take (i := 70) (oi := { dst := some 122, op := Op.move (Operand.tmp 121), type := 4, pos := "law.go:88", after := #[{ on := 69, ground := Ground.data }, { on := 67, ground := Ground.chain }], guard := none }) (v := ?_) rfl (by kernel_rfl) (by kernel_rfl) (by kernel_rfl) (fun _ _ _ h => h) (Or.inl ⟨by rfl, ?_⟩) (by assumption) ?_
                      rotate_left
                      · (intro w hSw; (try dsimp only at hSw); go_simp; try with_reducible rfl)
                      ((try simp only [Act.put]); (try simp only [List.setIfInBounds_toArray]); (try simp only [List.set_cons_succ]); (try simp only [List.set_cons_zero]))
                      refine wpAnyH_take (i := 71) (oi := { dst := some 123, op := Op.load 25 (Operand.tmp 5), type := 25, pos := "law.go:88", after := #[{ on := 70, ground := Ground.guard }], guard := some (70, true) }) (v := ?_) rfl (by kernel_rfl) (by kernel_rfl) (by kernel_rfl) (fun _ _ _ h => h) (Or.inl ⟨by rfl, ?_⟩) (by assumption) ?_
                      rotate_left
                      · (intro w hSw; (try dsimp only at hSw); go_simp; try with_reducible rfl)
                      ((try simp only [Act.put]); (try simp only [List.setIfInBounds_toArray]); (try simp only [List.set_cons_succ]); (try simp only [List.set_cons_zero]))
                      refine wpAnyH_take (i := 72) (oi := { dst := some 124, op := Op.load 25 (Operand.tmp 9), type := 25, pos := "law.go:88", after := #[{ on := 70, ground := Ground.guard }], guard := some (70, true) }) (v := ?_) rfl (by kernel_rfl) (by kernel_rfl) (by kernel_rfl) (fun _ _ _ h => h) (Or.inl ⟨by rfl, ?_⟩) (by assumption) ?_
                      rotate_left
                      · (intro w hSw; (try dsimp only at hSw); go_simp; try with_reducible rfl)
                      ((try simp only [Act.put]); (try simp only [List.setIfInBounds_toArray]); (try simp only [List.set_cons_succ]); (try simp only [List.set_cons_zero]))
                      refine wpAnyH_ready (rs := [73]) (by kernel_rfl) (by simp) ?_
                      refine AllReadyH.cons (o := { dst := some 125, op := Op.call { callee := Callee.value (Operand.func 18), args := #[Operand.tmp 123, Operand.tmp 124], argTypes := #[25, 25] }, type := 4, pos := "law.go:88", after := #[{ on := 71, ground := Ground.data }, { on := 72, ground := Ground.data }, { on := 70, ground := Ground.chain }, { on := 70, ground := Ground.guard }], guard := some (70, true) }) rfl (fun K hK => ?_) AllReadyH.nil
                      go_simp
                      refine (mwi_at (r := false) (M.out.s.below (Hid.out hHeld.2.2.2.2.2.2.2.2.2.2)) (O.out.s.below (Hid.out hHeld.2.2.2.2.2.2.2.2.2.2)) (by decide)).mono ?_
                      rintro e v73 ⟨rfl, hb⟩
                      try go_wp2_with fail
                      refine hK.out _ _ ?_ (fun hNew => ?_)
                      · exact ⟨cell_go hHeld.1 hb, cell_go hHeld.2.1 hb, cell_go hHeld.2.2.1 hb, cell_go hHeld.2.2.2.1 hb, cell_go hHeld.2.2.2.2.1 hb, cell_go hHeld.2.2.2.2.2.1 hb, cell_go hHeld.2.2.2.2.2.2.1 hb, cell_go hHeld.2.2.2.2.2.2.2.1 hb, cell_go hHeld.2.2.2.2.2.2.2.2.1 hb, cell_go hHeld.2.2.2.2.2.2.2.2.2.1 hb, Lib.hid ((Hid.out hHeld.2.2.2.2.2.2.2.2.2.2).trans (hb.mono (Hid.out hHeld.2.2.2.2.2.2.2.2.2.2).size))⟩
                      clear hK K
                      replace hHeld := hNew
                      clear hNew
                      ((try simp only [Act.put]); (try simp only [List.setIfInBounds_toArray]); (try simp only [List.set_cons_succ]); (try simp only [List.set_cons_zero]))
                      refine wpAnyH_take (i := 74) (oi := { dst := some 126, op := Op.unOp UnOp.not 4 (Operand.tmp 125), type := 4, pos := "law.go:88", after := #[{ on := 73, ground := Ground.data }, { on := 70, ground := Ground.guard }], guard := some (70, true) }) (v := ?_) rfl (by kernel_rfl) (by kernel_rfl) (by kernel_rfl) (fun _ _ _ h => h) (Or.inl ⟨by rfl, ?_⟩) (by assumption) ?_
                      rotate_left
                      · (intro w hSw; (try dsimp only at hSw); go_simp; try with_reducible rfl)
                      ((try simp only [Act.put]); (try simp only [List.setIfInBounds_toArray]); (try simp only [List.set_cons_succ]); (try simp only [List.set_cons_zero]))
                      refine wpAnyH_take (i := 75) (oi := { dst := some 127, op := Op.pick (Operand.tmp 122) (Operand.tmp 126) (Operand.const (Value.bool false)), type := 4, pos := "law.go:88", after := #[{ on := 70, ground := Ground.data }, { on := 74, ground := Ground.data }], guard := none }) (v := ?_) rfl (by kernel_rfl) (by kernel_rfl) (by kernel_rfl) (fun _ _ _ h => h) (Or.inl ⟨by rfl, ?_⟩) (by assumption) ?_
                      rotate_left
                      · (intro w hSw; (try dsimp only at hSw); go_simp; try with_reducible rfl)
                      ((try simp only [Act.put]); (try simp only [List.setIfInBounds_toArray]); (try simp only [List.set_cons_succ]); (try simp only [List.set_cons_zero]))
                      refine wpAnyH_take (i := 76) (oi := { dst := some 128, op := Op.move (Operand.tmp 127), type := 4, pos := "law.go:88", after := #[{ on := 75, ground := Ground.data }, { on := 73, ground := Ground.chain }], guard := none }) (v := ?_) rfl (by kernel_rfl) (by kernel_rfl) (by kernel_rfl) (fun _ _ _ h => h) (Or.inl ⟨by rfl, ?_⟩) (by assumption) ?_
                      rotate_left
                      · (intro w hSw; (try dsimp only at hSw); go_simp; try with_reducible rfl)
                      ((try simp only [Act.put]); (try simp only [List.setIfInBounds_toArray]); (try simp only [List.set_cons_succ]); (try simp only [List.set_cons_zero]))
                      refine wpAnyH_take (i := 77) (oi := { dst := some 129, op := Op.load 25 (Operand.tmp 8), type := 25, pos := "law.go:88", after := #[{ on := 76, ground := Ground.guard }], guard := some (76, true) }) (v := ?_) rfl (by kernel_rfl) (by kernel_rfl) (by kernel_rfl) (fun _ _ _ h => h) (Or.inl ⟨by rfl, ?_⟩) (by assumption) ?_
                      rotate_left
                      · (intro w hSw; (try dsimp only at hSw); go_simp; try with_reducible rfl)
                      ((try simp only [Act.put]); (try simp only [List.setIfInBounds_toArray]); (try simp only [List.set_cons_succ]); (try simp only [List.set_cons_zero]))
                      refine wpAnyH_take (i := 78) (oi := { dst := some 130, op := Op.load 25 (Operand.tmp 13), type := 25, pos := "law.go:88", after := #[{ on := 76, ground := Ground.guard }], guard := some (76, true) }) (v := ?_) rfl (by kernel_rfl) (by kernel_rfl) (by kernel_rfl) (fun _ _ _ h => h) (Or.inl ⟨by rfl, ?_⟩) (by assumption) ?_
                      rotate_left
                      · (intro w hSw; (try dsimp only at hSw); go_simp; try with_reducible rfl)
                      ((try simp only [Act.put]); (try simp only [List.setIfInBounds_toArray]); (try simp only [List.set_cons_succ]); (try simp only [List.set_cons_zero]))
                      refine wpAnyH_ready (rs := [79]) (by kernel_rfl) (by simp) ?_
                      refine AllReadyH.cons (o := { dst := some 131, op := Op.call { callee := Callee.value (Operand.func 18), args := #[Operand.tmp 129, Operand.tmp 130], argTypes := #[25, 25] }, type := 4, pos := "law.go:88", after := #[{ on := 77, ground := Ground.data }, { on := 78, ground := Ground.data }, { on := 76, ground := Ground.chain }, { on := 76, ground := Ground.guard }], guard := some (76, true) }) rfl (fun K hK => ?_) AllReadyH.nil
                      go_simp
                      refine (mwi_at (r := true) (D.out.s.below (Hid.out hHeld.2.2.2.2.2.2.2.2.2.2)) (F.out.s.below (Hid.out hHeld.2.2.2.2.2.2.2.2.2.2)) (by decide)).mono ?_
                      rintro e v79 ⟨rfl, hb⟩
                      try go_wp2_with fail
                      refine hK.out _ _ ?_ (fun hNew => ?_)
                      · exact ⟨cell_go hHeld.1 hb, cell_go hHeld.2.1 hb, cell_go hHeld.2.2.1 hb, cell_go hHeld.2.2.2.1 hb, cell_go hHeld.2.2.2.2.1 hb, cell_go hHeld.2.2.2.2.2.1 hb, cell_go hHeld.2.2.2.2.2.2.1 hb, cell_go hHeld.2.2.2.2.2.2.2.1 hb, cell_go hHeld.2.2.2.2.2.2.2.2.1 hb, cell_go hHeld.2.2.2.2.2.2.2.2.2.1 hb, Lib.hid ((Hid.out hHeld.2.2.2.2.2.2.2.2.2.2).trans (hb.mono (Hid.out hHeld.2.2.2.2.2.2.2.2.2.2).size))⟩
                      clear hK K
                      replace hHeld := hNew
                      clear hNew
                      ((try simp only [Act.put]); (try simp only [List.setIfInBounds_toArray]); (try simp only [List.set_cons_succ]); (try simp only [List.set_cons_zero]))
                      refine wpAnyH_take (i := 80) (oi := { dst := some 132, op := Op.pick (Operand.tmp 128) (Operand.tmp 131) (Operand.const (Value.bool false)), type := 4, pos := "law.go:88", after := #[{ on := 76, ground := Ground.data }, { on := 79, ground := Ground.data }], guard := none }) (v := ?_) rfl (by kernel_rfl) (by kernel_rfl) (by kernel_rfl) (fun _ _ _ h => h) (Or.inl ⟨by rfl, ?_⟩) (by assumption) ?_
                      rotate_left
                      · (intro w hSw; (try dsimp only at hSw); go_simp; try with_reducible rfl)
                      ((try simp only [Act.put]); (try simp only [List.setIfInBounds_toArray]); (try simp only [List.set_cons_succ]); (try simp only [List.set_cons_zero]))
                      refine wpAnyH_take (i := 81) (oi := { dst := some 0, op := Op.assign (Operand.tmp 132), type := 4, pos := "law.go:88", after := #[{ on := 80, ground := Ground.data }, { on := 79, ground := Ground.chain }, { on := 0, ground := Ground.phase }, { on := 1, ground := Ground.phase }, { on := 2, ground := Ground.phase }, { on := 3, ground := Ground.phase }, { on := 4, ground := Ground.phase }, { on := 5, ground := Ground.phase }, { on := 6, ground := Ground.phase }, { on := 7, ground := Ground.phase }, { on := 8, ground := Ground.phase }, { on := 9, ground := Ground.phase }, { on := 10, ground := Ground.phase }, { on := 11, ground := Ground.phase }, { on := 12, ground := Ground.phase }, { on := 13, ground := Ground.phase }, { on := 14, ground := Ground.phase }, { on := 15, ground := Ground.phase }, { on := 16, ground := Ground.phase }, { on := 17, ground := Ground.phase }, { on := 18, ground := Ground.phase }, { on := 19, ground := Ground.phase }, { on := 20, ground := Ground.phase }, { on := 21, ground := Ground.phase }, { on := 22, ground := Ground.phase }, { on := 23, ground := Ground.phase }, { on := 24, ground := Ground.phase }, { on := 25, ground := Ground.phase }, { on := 26, ground := Ground.phase }, { on := 27, ground := Ground.phase }, { on := 28, ground := Ground.phase }, { on := 29, ground := Ground.phase }, { on := 30, ground := Ground.phase }, { on := 31, ground := Ground.phase }, { on := 32, ground := Ground.phase }, { on := 33, ground := Ground.phase }, { on := 34, ground := Ground.phase }, { on := 35, ground := Ground.phase }, { on := 36, ground := Ground.phase }, { on := 37, ground := Ground.phase }, { on := 38, ground := Ground.phase }, { on := 39, ground := Ground.phase }, { on := 40, ground := Ground.phase }, { on := 41, ground := Ground.phase }, { on := 42, ground := Ground.phase }, { on := 43, ground := Ground.phase }, { on := 44, ground := Ground.phase }, { on := 45, ground := Ground.phase }, { on := 46, ground := Ground.phase }, { on := 47, ground := Ground.phase }, { on := 48, ground := Ground.phase }, { on := 49, ground := Ground.phase }, { on := 50, ground := Ground.phase }, { on := 51, ground := Ground.phase }, { on := 52, ground := Ground.phase }, { on := 53, ground := Ground.phase }, { on := 54, ground := Ground.phase }, { on := 55, ground := Ground.phase }, { on := 56, ground := Ground.phase }, { on := 57, ground := Ground.phase }, { on := 58, ground := Ground.phase }, { on := 59, ground := Ground.phase }, { on := 60, ground := Ground.phase }, { on := 61, ground := Ground.phase }, { on := 62, ground := Ground.phase }, { on := 63, ground := Ground.phase }, { on := 64, ground := Ground.phase }, { on := 65, ground := Ground.phase }, { on := 66, ground := Ground.phase }, { on := 67, ground := Ground.phase }, { on := 68, ground := Ground.phase }, { on := 69, ground := Ground.phase }, { on := 70, ground := Ground.phase }, { on := 71, ground := Ground.phase }, { on := 72, ground := Ground.phase }, { on := 73, ground := Ground.phase }, { on := 74, ground := Ground.phase }, { on := 75, ground := Ground.phase }, { on := 76, ground := Ground.phase }, { on := 77, ground := Ground.phase }, { on := 78, ground := Ground.phase }, { on := 79, ground := Ground.phase }, { on := 80, ground := Ground.phase }], guard := none }) (v := ?_) rfl (by kernel_rfl) (by kernel_rfl) (by kernel_rfl) (fun _ _ _ h => h) (Or.inl ⟨by rfl, ?_⟩) (by assumption) ?_
                      rotate_left
                      · (intro w hSw; (try dsimp only at hSw); go_simp; try with_reducible rfl)
                      ((try simp only [Act.put]); (try simp only [List.setIfInBounds_toArray]); (try simp only [List.set_cons_succ]); (try simp only [List.set_cons_zero]))
                      refine wpAnyH_done (by kernel_rfl) ?_ _
                      refine NoPanic.normal ?_
                      have BF := Lib.hid (B.out.trans ((Hid.out hHeld.2.2.2.2.2.2.2.2.2.2).mono B.out.size))
                      go_wp2_with fail
                      go_ret
                      exact ⟨rfl, BF.out⟩


end Go.Proofs.Ytfiamomadicbpaa
