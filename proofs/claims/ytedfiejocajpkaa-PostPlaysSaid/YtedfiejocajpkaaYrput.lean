/-
  The document's own boxes: one is put in, one is taken out.
-/
import Derived.Test.YtedfiejocajpkaaYref
import Derived.Deep.RegionLaw
namespace Go.Proofs.Ytedfiejocajpkaa
open Go.RowKit

theorem ri_info : (Try.prog.info? 3).map (fun i => (i.zero, i.size, i.bytes)) = some (some (.int .i64 0), 1, 8) := by kernel_rfl
theorem ri_parts {P : Program} {e : TypeId} {z : Value} {a b : Nat} (h : (P.info? e).map (fun i => (i.zero, i.size, i.bytes)) = some (some z, a, b)) : ∃ i, P.info? e = some i ∧ i.zero = some z ∧ i.size = a ∧ i.bytes = b := by
  obtain ⟨i, hi, hz⟩ := Option.map_eq_some_iff.1 h
  simp only [Prod.mk.injEq] at hz
  exact ⟨i, hi, hz⟩
theorem lit_own (w : World) (e : TypeId) (B : Nat) (hB : B ≤ w.heap.size) : (w.alloc (.cells #[] e)).ownsRow B e 1 (.slice (some ⟨w.heap.size, 0, none⟩) 0 0) 0 [] :=
  World.ownsRow_lit (base := B) (e := e) (size := 1) w #[] 0 hB (by unfold maxLen; omega) rfl

section
variable {W w3 : World} {N p n room b k : Nat} {F : Nat → Prop} {B : Nat → List Int} {x : Int}

/-- The longer row is stored. -/
theorem rp_put_row (h : RpV W N p F n room B b) (hk : k < n) (hb : Below W.heap.size W w3) {a : Option Addr} {cap : Nat} {e : TypeId} (hown : w3.ownsRow W.heap.size e 1 (.slice a ((B k).length + 1) cap) ((B k).length + 1) ((B k).map iV ++ [.int .i64 x])) :
    OPost (fun w F => RpAt w N p F n room (upd B k (B k ++ [x]))) W F (.bool true) (.returned (.bool true)) (w3.setCell ⟨b, k, none⟩ (.slice a ((B k).length + 1) cap)) := by
  obtain ⟨_, a', cap', e1, hs⟩ := own_slv hown
  have e2 : ((B k).map iV ++ [Value.int .i64 x]) = (B k ++ [x]).map iV := by simp [iV]
  have e3 : (B k).length + 1 = (B k ++ [x]).length := by simp
  rw [e2] at hs
  simp only [Value.slice.injEq] at e1
  obtain ⟨rfl, _, rfl⟩ := e1
  have hlt := hown.lt
  have hset := h.set hb (k := k) a cap (B k ++ [x]) hk hs (F' := fun i => F i ∨ (W.heap.size ≤ i ∧ i < w3.heap.size)) (fun _ f => Or.inl f) (fun i f => by
    have hN := (h.low p h.inP).1
    have hp := (h.low p h.inP).2
    have hz := hb.size
    rcases f with f | f
    · have := h.low i f
      omega
    · omega) (fun ad e _ => by
    subst e
    have hne : 0 < (B k ++ [x]).length := by simp
    obtain ⟨b2, off2, e4, _⟩ := hs.cell 0 (by simp)
    cases e4
    have := hown.2
    rcases this with h0 | ⟨g, c2, cur, h0, hg, _⟩
    · cases h0.1
    · cases h0
      have := (hown.lt b2 rfl)
      exact ⟨Or.inr this, fun e => by have e5 : b2 = b := e; have := (h.low b h.inB).2; omega⟩)
  rw [← e3] at hset
  refine ⟨rfl, _, ⟨b, hset⟩, (Keep.ofBelow hb).setCell (p := ⟨b, k, none⟩) h.inB _, fun i f => f.imp id And.left⟩

set_option maxRecDepth 20000 in
set_option maxHeartbeats 2000000 in
theorem rp_put_ok (hA : RpAt W N p F n room B) (k : Nat) (x : Int) (hk : k < n) (h : (B k).length < room) :
    Calls Try.prog 16 #[.pointer (some ⟨p, 0, none⟩), .int .i64 (k : Int), .int .i64 x] W (OPost (fun w F => RpAt w N p F n room (upd B k (B k ++ [x]))) W F (.bool true)) := by
  obtain ⟨i0, hi0, hz0, hz1, hz2⟩ := ri_parts ri_info
  obtain ⟨b, hv⟩ := hA
  have c0 := hv.c0
  have c1 := hv.c1
  obtain ⟨a, cap, c2, hs, _⟩ := hv.row k hk
  have hr := hv.rr
  have hbW := (hv.low b hv.inB).2
  have HV := Lib.hid hv
  have HP := Lib.hid c1
  have HC := Lib.hid c2
  have SL := Lib.hid hs
  have hfit := hs.fit
  rw [List.length_map] at hfit
  have OA := Lib.hid (fun q : Nat => own_below (lit_own (W.drewN q) 3 W.heap.size (Nat.le_refl _)) (drew_below _))
  have OB := Lib.hid (fun q : Nat => own_below (own_below (lit_own (W.drewN q) 3 W.heap.size (Nat.le_refl _)) ((Below.refl _ _).alloc (Nat.le_refl _) (.cells #[.int .i64 x] 3))) (drew_below _))
  have OC := Lib.hid (fun q : Nat => own_below (lit_own ((W.drewN q).alloc (.cells #[.int .i64 x] 3)) 3 W.heap.size (by simp)) (drew_below _))
  have LB := Lib.hid (fun q : Nat => (slv_lit ((W.drewN q).alloc (.cells #[] 3)) [.int .i64 x] #[.int .i64 x] 3 1 rfl rfl (by decide)).below (drew_below _))
  have LC := Lib.hid (fun q : Nat => ((slv_lit (W.drewN q) [.int .i64 x] #[.int .i64 x] 3 1 rfl rfl (by decide)).below ((Below.refl _ _).alloc (Nat.le_refl _) (.cells #[] 3))).below (drew_below _))
  have d0 : decide ((k : Int) < 0) = false := decide_eq_false (by omega)
  have d1 : decide ((k : Int) ≥ (n : Int)) = false := decide_eq_false (by omega)
  have d2 : decide (((B k).length : Int) ≥ (room : Int)) = false := decide_eq_false (by omega)
  have i1 : (0 : Int) ≤ (k : Int) := by omega
  have i2 : (k : Int) < (n : Int) := by omega
  clear hv hs
  go_enter Try.func16, Try.ntmps16
  go_wp2_with fail
  go_quiet (fail)
  go_upto_region 3 with fail
  refine wp_region_noPanic ?_
  refine wp_region_z (S := (fun w' => w'.cell? ⟨p, 1, none⟩ = some (.slice (some ⟨b, 0, none⟩) n n) ∧ w'.cell? ⟨b, k, none⟩ = some (.slice a (B k).length cap) ∧ Hid (Below W.heap.size W w'))) (z := 18) (by kernel_rfl) ?_ (fun hHeld => ?_)
  · exact ⟨c1, c2, Lib.hid (⟨rfl, rfl, rfl, Nat.le_refl _, fun _ _ => rfl⟩ : Below W.heap.size W (W.drewN nq).drew)⟩
  refine anyZ_take (i := 0) (oi := { dst := some 33, op := Op.move (Operand.tmp 0), type := 38, pos := "ref.go:72", after := #[], guard := none }) (v := ?_) rfl (by kernel_rfl) (by kernel_rfl) (by kernel_rfl) (by kernel_rfl) (fun _ _ _ h => h) (Or.inl ⟨by rfl, ?_⟩) (by assumption) ?_
  rotate_left
  · (intro w hSw; (try dsimp only at hSw); go_simp; try with_reducible rfl)
  ((try simp only [Act.put]); (try simp only [List.setIfInBounds_toArray]); (try simp only [List.set_cons_succ]); (try simp only [List.set_cons_zero]))
  refine anyZ_take (i := 1) (oi := { dst := some 34, op := Op.nilCheck (Operand.tmp 33), type := 0, pos := "ref.go:72", after := #[{ on := 0, ground := Ground.data }], guard := none }) (v := ?_) rfl (by kernel_rfl) (by kernel_rfl) (by kernel_rfl) (by kernel_rfl) (fun _ _ _ h => h) (Or.inl ⟨by rfl, ?_⟩) (by assumption) ?_
  rotate_left
  · (intro w hSw; (try dsimp only at hSw); go_simp; try with_reducible rfl)
  ((try simp only [Act.put]); (try simp only [List.setIfInBounds_toArray]); (try simp only [List.set_cons_succ]); (try simp only [List.set_cons_zero]))
  refine anyZ_take (i := 2) (oi := { dst := some 35, op := Op.fieldAddr 41 (Operand.tmp 34) 1, type := 0, pos := "ref.go:72", after := #[{ on := 1, ground := Ground.data }], guard := none }) (v := ?_) rfl (by kernel_rfl) (by kernel_rfl) (by kernel_rfl) (by kernel_rfl) (fun _ _ _ h => h) (Or.inl ⟨by rfl, ?_⟩) (by assumption) ?_
  rotate_left
  · (intro w hSw; (try dsimp only at hSw); go_simp; try with_reducible rfl)
  ((try simp only [Act.put]); (try simp only [List.setIfInBounds_toArray]); (try simp only [List.set_cons_succ]); (try simp only [List.set_cons_zero]))
  refine anyZ_take (i := 3) (oi := { dst := some 36, op := Op.load 39 (Operand.tmp 35), type := 39, pos := "ref.go:72", after := #[{ on := 2, ground := Ground.data }], guard := none }) (v := ?_) rfl (by kernel_rfl) (by kernel_rfl) (by kernel_rfl) (by kernel_rfl) (fun _ _ _ h => h) (Or.inl ⟨by rfl, ?_⟩) (by assumption) ?_
  rotate_left
  · (intro w hSw; (try dsimp only at hSw); go_simp; try with_reducible rfl)
  ((try simp only [Act.put]); (try simp only [List.setIfInBounds_toArray]); (try simp only [List.set_cons_succ]); (try simp only [List.set_cons_zero]))
  refine anyZ_take (i := 4) (oi := { dst := some 37, op := Op.move (Operand.tmp 1), type := 3, pos := "ref.go:72", after := #[], guard := none }) (v := ?_) rfl (by kernel_rfl) (by kernel_rfl) (by kernel_rfl) (by kernel_rfl) (fun _ _ _ h => h) (Or.inl ⟨by rfl, ?_⟩) (by assumption) ?_
  rotate_left
  · (intro w hSw; (try dsimp only at hSw); go_simp; try with_reducible rfl)
  ((try simp only [Act.put]); (try simp only [List.setIfInBounds_toArray]); (try simp only [List.set_cons_succ]); (try simp only [List.set_cons_zero]))
  refine anyZ_take (i := 6) (oi := { dst := some 39, op := Op.move (Operand.tmp 0), type := 38, pos := "ref.go:72", after := #[], guard := none }) (v := ?_) rfl (by kernel_rfl) (by kernel_rfl) (by kernel_rfl) (by kernel_rfl) (fun _ _ _ h => h) (Or.inl ⟨by rfl, ?_⟩) (by assumption) ?_
  rotate_left
  · (intro w hSw; (try dsimp only at hSw); go_simp; try with_reducible rfl)
  ((try simp only [Act.put]); (try simp only [List.setIfInBounds_toArray]); (try simp only [List.set_cons_succ]); (try simp only [List.set_cons_zero]))
  refine anyZ_take (i := 7) (oi := { dst := some 40, op := Op.nilCheck (Operand.tmp 39), type := 0, pos := "ref.go:72", after := #[{ on := 6, ground := Ground.data }], guard := none }) (v := ?_) rfl (by kernel_rfl) (by kernel_rfl) (by kernel_rfl) (by kernel_rfl) (fun _ _ _ h => h) (Or.inl ⟨by rfl, ?_⟩) (by assumption) ?_
  rotate_left
  · (intro w hSw; (try dsimp only at hSw); go_simp; try with_reducible rfl)
  ((try simp only [Act.put]); (try simp only [List.setIfInBounds_toArray]); (try simp only [List.set_cons_succ]); (try simp only [List.set_cons_zero]))
  refine anyZ_take (i := 8) (oi := { dst := some 41, op := Op.fieldAddr 41 (Operand.tmp 40) 1, type := 0, pos := "ref.go:72", after := #[{ on := 7, ground := Ground.data }], guard := none }) (v := ?_) rfl (by kernel_rfl) (by kernel_rfl) (by kernel_rfl) (by kernel_rfl) (fun _ _ _ h => h) (Or.inl ⟨by rfl, ?_⟩) (by assumption) ?_
  rotate_left
  · (intro w hSw; (try dsimp only at hSw); go_simp; try with_reducible rfl)
  ((try simp only [Act.put]); (try simp only [List.setIfInBounds_toArray]); (try simp only [List.set_cons_succ]); (try simp only [List.set_cons_zero]))
  refine anyZ_take (i := 9) (oi := { dst := some 42, op := Op.load 39 (Operand.tmp 41), type := 39, pos := "ref.go:72", after := #[{ on := 8, ground := Ground.data }], guard := none }) (v := ?_) rfl (by kernel_rfl) (by kernel_rfl) (by kernel_rfl) (by kernel_rfl) (fun _ _ _ h => h) (Or.inl ⟨by rfl, ?_⟩) (by assumption) ?_
  rotate_left
  · (intro w hSw; (try dsimp only at hSw); go_simp; try with_reducible rfl)
  ((try simp only [Act.put]); (try simp only [List.setIfInBounds_toArray]); (try simp only [List.set_cons_succ]); (try simp only [List.set_cons_zero]))
  refine anyZ_take (i := 10) (oi := { dst := some 43, op := Op.move (Operand.tmp 1), type := 3, pos := "ref.go:72", after := #[], guard := none }) (v := ?_) rfl (by kernel_rfl) (by kernel_rfl) (by kernel_rfl) (by kernel_rfl) (fun _ _ _ h => h) (Or.inl ⟨by rfl, ?_⟩) (by assumption) ?_
  rotate_left
  · (intro w hSw; (try dsimp only at hSw); go_simp; try with_reducible rfl)
  ((try simp only [Act.put]); (try simp only [List.setIfInBounds_toArray]); (try simp only [List.set_cons_succ]); (try simp only [List.set_cons_zero]))
  refine anyZ_take (i := 11) (oi := { dst := some 44, op := Op.indexAddr 39 (Operand.tmp 42) (Operand.tmp 43), type := 0, pos := "ref.go:72", after := #[{ on := 9, ground := Ground.data }, { on := 10, ground := Ground.data }], guard := none }) (v := ?_) rfl (by kernel_rfl) (by kernel_rfl) (by kernel_rfl) (by kernel_rfl) (fun _ _ _ h => h) (Or.inl ⟨by rfl, ?_⟩) (by assumption) ?_
  rotate_left
  · (intro w hSw; (try dsimp only at hSw); go_simp; try with_reducible rfl)
  ((try simp only [Act.put]); (try simp only [List.setIfInBounds_toArray]); (try simp only [List.set_cons_succ]); (try simp only [List.set_cons_zero]))
  refine anyZ_take (i := 12) (oi := { dst := some 45, op := Op.load 50 (Operand.tmp 44), type := 50, pos := "ref.go:72", after := #[{ on := 11, ground := Ground.data }], guard := none }) (v := ?_) rfl (by kernel_rfl) (by kernel_rfl) (by kernel_rfl) (by kernel_rfl) (fun _ _ _ h => h) (Or.inl ⟨by rfl, ?_⟩) (by assumption) ?_
  rotate_left
  · (intro w hSw; (try dsimp only at hSw); go_simp; try with_reducible rfl)
  ((try simp only [Act.put]); (try simp only [List.setIfInBounds_toArray]); (try simp only [List.set_cons_succ]); (try simp only [List.set_cons_zero]))
  refine anyZ_take (i := 14) (oi := { dst := some 47, op := Op.move (Operand.tmp 2), type := 3, pos := "ref.go:72", after := #[], guard := none }) (v := ?_) rfl (by kernel_rfl) (by kernel_rfl) (by kernel_rfl) (by kernel_rfl) (fun _ _ _ h => h) (Or.inl ⟨by rfl, ?_⟩) (by assumption) ?_
  rotate_left
  · (intro w hSw; (try dsimp only at hSw); go_simp; try with_reducible rfl)
  ((try simp only [Act.put]); (try simp only [List.setIfInBounds_toArray]); (try simp only [List.set_cons_succ]); (try simp only [List.set_cons_zero]))
  refine anyZ_ready (rs := [5, 15]) (by kernel_rfl) (by simp) ?_
  refine AllZ.cons (o := { dst := some 38, op := Op.buildSlice 50 0 #[], type := 50, pos := "ref.go:72", after := #[], guard := none }) rfl (fun K hK => ?_) (AllZ.cons (o := { dst := some 48, op := Op.buildSlice 50 1 #[(0, Operand.tmp 47)], type := 50, pos := "ref.go:72", after := #[{ on := 14, ground := Ground.data }], guard := none }) rfl (fun K hK => ?_) AllZ.nil)
  · skip
    go_simp
    refine hK.out _ _ ?_ (fun hNew => ?_)
    · first | exact hHeld | exact ⟨cell_go hHeld.1 ((Below.refl _ _).alloc (Nat.le_refl _) _), cell_go hHeld.2.1 ((Below.refl _ _).alloc (Nat.le_refl _) _), Lib.hid ((Hid.out hHeld.2.2).alloc (Hid.out hHeld.2.2).size _)⟩ | exact ⟨cell_go HP.out B3.out, cell_go HC.out B3.out, B3⟩ | exact ⟨cell_go HP.out B2.out, cell_go HC.out B2.out, B2⟩
    clear hK K
    replace hHeld := hNew
    clear hNew
    ((try simp only [Act.put]); (try simp only [List.setIfInBounds_toArray]); (try simp only [List.set_cons_succ]); (try simp only [List.set_cons_zero]))
    refine anyZ_ready (rs := [13, 15]) (by kernel_rfl) (by simp) ?_
    refine AllZ.cons (o := { dst := some 46, op := Op.call { callee := Callee.builtin Builtin.append, args := #[Operand.tmp 38, Operand.tmp 45], argTypes := #[50, 50] }, type := 50, pos := "ref.go:72", after := #[{ on := 5, ground := Ground.data }, { on := 12, ground := Ground.data }], guard := none }) rfl (fun K hK => ?_) (AllZ.cons (o := { dst := some 48, op := Op.buildSlice 50 1 #[(0, Operand.tmp 47)], type := 50, pos := "ref.go:72", after := #[{ on := 14, ground := Ground.data }], guard := none }) rfl (fun K hK => ?_) AllZ.nil)
    · skip
      refine step_append_at rfl (.tmp 38) (.tmp 45) 50 rfl W.heap.size 3 i0 (.int .i64 0) 1 8 Try.underlying50 hi0 hz0 hz1 hz2 rfl (by decide) _ _ _ (by first | (simp [Act.eval]; done) | (simp [Act.eval, Act.put]; done)) (OA.out nq) a (B k).length cap ((B k).map iV) (by first | (simp [Act.eval]; done) | (simp [Act.eval, Act.put]; done)) (by simp) (fun e => by have := (SL.out.below (Hid.out hHeld.2.2)).empty e; simpa using this) (SL.out.below (Hid.out hHeld.2.2)).news (ones_of _ (fun _ => rfl)) (by unfold maxLen; omega) (by omega) (Hid.out hHeld.2.2).size ?_
      intro a2 cap2 w2 hown2 hgr2 hat2
      have hb2 := (Hid.out hHeld.2.2).grown hgr2 (Hid.out hHeld.2.2).size (fun k h => ((OA.out nq).lt k h).1)
      have O2 := Lib.hid (show w2.ownsRow W.heap.size 3 1 (.slice a2 (0 + (B k).length) cap2) (B k).length ((B k).map iV) by rw [Nat.zero_add, List.nil_append] at hown2; rw [Nat.zero_add]; exact hown2)
      have B2 := Lib.hid hb2
      have L2 := Lib.hid (slv_lit w2 [.int .i64 x] #[.int .i64 x] 3 1 rfl rfl (by decide))
      have O3 := Lib.hid (own_below O2.out ((Below.refl _ w2).alloc (Nat.le_refl _) (.cells #[.int .i64 x] 3)))
      clear hown2 hgr2 hat2 hb2
      refine hK.out _ _ ?_ (fun hNew => ?_)
      · first | exact hHeld | exact ⟨cell_go hHeld.1 ((Below.refl _ _).alloc (Nat.le_refl _) _), cell_go hHeld.2.1 ((Below.refl _ _).alloc (Nat.le_refl _) _), Lib.hid ((Hid.out hHeld.2.2).alloc (Hid.out hHeld.2.2).size _)⟩ | exact ⟨cell_go HP.out B3.out, cell_go HC.out B3.out, B3⟩ | exact ⟨cell_go HP.out B2.out, cell_go HC.out B2.out, B2⟩
      clear hK K
      replace hHeld := hNew
      clear hNew
      ((try simp only [Act.put]); (try simp only [List.setIfInBounds_toArray]); (try simp only [List.set_cons_succ]); (try simp only [List.set_cons_zero]))
      refine anyZ_ready (rs := [15]) (by kernel_rfl) (by simp) ?_
      refine AllZ.cons (o := { dst := some 48, op := Op.buildSlice 50 1 #[(0, Operand.tmp 47)], type := 50, pos := "ref.go:72", after := #[{ on := 14, ground := Ground.data }], guard := none }) rfl (fun K hK => ?_) AllZ.nil
      go_simp
      refine hK.out _ _ ?_ (fun hNew => ?_)
      · first | exact hHeld | exact ⟨cell_go hHeld.1 ((Below.refl _ _).alloc (Nat.le_refl _) _), cell_go hHeld.2.1 ((Below.refl _ _).alloc (Nat.le_refl _) _), Lib.hid ((Hid.out hHeld.2.2).alloc (Hid.out hHeld.2.2).size _)⟩ | exact ⟨cell_go HP.out B3.out, cell_go HC.out B3.out, B3⟩ | exact ⟨cell_go HP.out B2.out, cell_go HC.out B2.out, B2⟩
      clear hK K
      replace hHeld := hNew
      clear hNew
      ((try simp only [Act.put]); (try simp only [List.setIfInBounds_toArray]); (try simp only [List.set_cons_succ]); (try simp only [List.set_cons_zero]))
      refine anyZ_ready (rs := [16]) (by kernel_rfl) (by simp) ?_
      refine AllZ.cons (o := { dst := some 49, op := Op.call { callee := Callee.builtin Builtin.append, args := #[Operand.tmp 46, Operand.tmp 48], argTypes := #[50, 50] }, type := 50, pos := "ref.go:72", after := #[{ on := 13, ground := Ground.data }, { on := 15, ground := Ground.data }, { on := 13, ground := Ground.chain }], guard := none }) rfl (fun K hK => ?_) AllZ.nil
      refine step_append_at rfl (.tmp 46) (.tmp 48) 50 rfl W.heap.size 3 i0 (.int .i64 0) 1 8 Try.underlying50 hi0 hz0 hz1 hz2 rfl (by decide) _ _ _ (by first | (simp [Act.eval]; done) | (simp [Act.eval, Act.put]; done)) O3.out _ 1 1 [.int .i64 x] (by first | (simp [Act.eval]; done) | (simp [Act.eval, Act.put]; done)) (by simp) (fun e => by cases e) L2.out.news (by simp [Value.oneCell']) (by unfold maxLen; omega) (by omega) (Hid.out hHeld.2.2).size ?_
      intro a3 cap3 w3 hown3 hgr3 hat3
      have hb3 := (Hid.out hHeld.2.2).grown hgr3 (Hid.out hHeld.2.2).size (fun k h => (O3.out.lt k h).1)
      have hs3 := rp_put_row HV.out hk hb3 hown3
      have f3 : w3.frozen? ⟨b, k, none⟩ = false := (World.frozen?_of_block (a := ⟨b, k, none⟩) (hb3.block b hbW)).trans (HV.out.fz k)
      have c3 : w3.cell? ⟨b, k, none⟩ = some (.slice a (B k).length cap) := cell_go HC.out hb3
      have R := Lib.hid hs3
      have B3 := Lib.hid hb3
      clear hs3 hown3 hgr3 hat3 hb3
      refine hK.out _ _ ?_ (fun hNew => ?_)
      · first | exact hHeld | exact ⟨cell_go hHeld.1 ((Below.refl _ _).alloc (Nat.le_refl _) _), cell_go hHeld.2.1 ((Below.refl _ _).alloc (Nat.le_refl _) _), Lib.hid ((Hid.out hHeld.2.2).alloc (Hid.out hHeld.2.2).size _)⟩ | exact ⟨cell_go HP.out B3.out, cell_go HC.out B3.out, B3⟩ | exact ⟨cell_go HP.out B2.out, cell_go HC.out B2.out, B2⟩
      clear hK K
      replace hHeld := hNew
      clear hNew
      ((try simp only [Act.put]); (try simp only [List.setIfInBounds_toArray]); (try simp only [List.set_cons_succ]); (try simp only [List.set_cons_zero]))
      refine anyZ_take (i := 17) (oi := { dst := some 50, op := Op.indexAddr 39 (Operand.tmp 36) (Operand.tmp 37), type := 0, pos := "ref.go:72", after := #[{ on := 3, ground := Ground.data }, { on := 4, ground := Ground.data }, { on := 0, ground := Ground.phase }, { on := 1, ground := Ground.phase }, { on := 2, ground := Ground.phase }, { on := 3, ground := Ground.phase }, { on := 4, ground := Ground.phase }, { on := 5, ground := Ground.phase }, { on := 6, ground := Ground.phase }, { on := 7, ground := Ground.phase }, { on := 8, ground := Ground.phase }, { on := 9, ground := Ground.phase }, { on := 10, ground := Ground.phase }, { on := 11, ground := Ground.phase }, { on := 12, ground := Ground.phase }, { on := 13, ground := Ground.phase }, { on := 14, ground := Ground.phase }, { on := 15, ground := Ground.phase }, { on := 16, ground := Ground.phase }], guard := none }) (v := ?_) rfl (by kernel_rfl) (by kernel_rfl) (by kernel_rfl) (by kernel_rfl) (fun _ _ _ h => h) (Or.inl ⟨by rfl, ?_⟩) (by assumption) ?_
      rotate_left
      · (intro w hSw; (try dsimp only at hSw); go_simp; try with_reducible rfl)
      ((try simp only [Act.put]); (try simp only [List.setIfInBounds_toArray]); (try simp only [List.set_cons_succ]); (try simp only [List.set_cons_zero]))
      refine anyZ_ready (rs := [18]) (by kernel_rfl) (by simp) ?_
      refine AllZ.last (o := { dst := none, op := Op.store 50 (Operand.tmp 50) (Operand.tmp 49), type := 0, pos := "ref.go:72", after := #[{ on := 17, ground := Ground.data }, { on := 16, ground := Ground.data }, { on := 16, ground := Ground.chain }, { on := 0, ground := Ground.phase }, { on := 1, ground := Ground.phase }, { on := 2, ground := Ground.phase }, { on := 3, ground := Ground.phase }, { on := 4, ground := Ground.phase }, { on := 5, ground := Ground.phase }, { on := 6, ground := Ground.phase }, { on := 7, ground := Ground.phase }, { on := 8, ground := Ground.phase }, { on := 9, ground := Ground.phase }, { on := 10, ground := Ground.phase }, { on := 11, ground := Ground.phase }, { on := 12, ground := Ground.phase }, { on := 13, ground := Ground.phase }, { on := 14, ground := Ground.phase }, { on := 15, ground := Ground.phase }, { on := 16, ground := Ground.phase }], guard := none }) rfl (fun K hK => ?_)
      go_simp
      refine hK.out _ _ ?_
      clear hK K
      ((try simp only [Act.put]); (try simp only [List.setIfInBounds_toArray]); (try simp only [List.set_cons_succ]); (try simp only [List.set_cons_zero]))
      refine anyZ_done (by kernel_rfl) ?_ _
      refine NoPanic.normal ?_
      go_wp2_with fail
      go_ret
      exact R.out
    · skip
      go_simp
      refine hK.out _ _ ?_ (fun hNew => ?_)
      · first | exact hHeld | exact ⟨cell_go hHeld.1 ((Below.refl _ _).alloc (Nat.le_refl _) _), cell_go hHeld.2.1 ((Below.refl _ _).alloc (Nat.le_refl _) _), Lib.hid ((Hid.out hHeld.2.2).alloc (Hid.out hHeld.2.2).size _)⟩ | exact ⟨cell_go HP.out B3.out, cell_go HC.out B3.out, B3⟩ | exact ⟨cell_go HP.out B2.out, cell_go HC.out B2.out, B2⟩
      clear hK K
      replace hHeld := hNew
      clear hNew
      ((try simp only [Act.put]); (try simp only [List.setIfInBounds_toArray]); (try simp only [List.set_cons_succ]); (try simp only [List.set_cons_zero]))
      refine anyZ_ready (rs := [13]) (by kernel_rfl) (by simp) ?_
      refine AllZ.cons (o := { dst := some 46, op := Op.call { callee := Callee.builtin Builtin.append, args := #[Operand.tmp 38, Operand.tmp 45], argTypes := #[50, 50] }, type := 50, pos := "ref.go:72", after := #[{ on := 5, ground := Ground.data }, { on := 12, ground := Ground.data }], guard := none }) rfl (fun K hK => ?_) AllZ.nil
      refine step_append_at rfl (.tmp 38) (.tmp 45) 50 rfl W.heap.size 3 i0 (.int .i64 0) 1 8 Try.underlying50 hi0 hz0 hz1 hz2 rfl (by decide) _ _ _ (by first | (simp [Act.eval]; done) | (simp [Act.eval, Act.put]; done)) (OB.out nq) a (B k).length cap ((B k).map iV) (by first | (simp [Act.eval]; done) | (simp [Act.eval, Act.put]; done)) (by simp) (fun e => by have := (SL.out.below (Hid.out hHeld.2.2)).empty e; simpa using this) (SL.out.below (Hid.out hHeld.2.2)).news (ones_of _ (fun _ => rfl)) (by unfold maxLen; omega) (by omega) (Hid.out hHeld.2.2).size ?_
      intro a2 cap2 w2 hown2 hgr2 hat2
      have hb2 := (Hid.out hHeld.2.2).grown hgr2 (Hid.out hHeld.2.2).size (fun k h => ((OB.out nq).lt k h).1)
      have O2 := Lib.hid (show w2.ownsRow W.heap.size 3 1 (.slice a2 (0 + (B k).length) cap2) (B k).length ((B k).map iV) by rw [Nat.zero_add, List.nil_append] at hown2; rw [Nat.zero_add]; exact hown2)
      have B2 := Lib.hid hb2
      have L2 := Lib.hid ((LB.out nq).carry hgr2.size (fun ad e _ hl => hgr2.block _ hl (fun e2 => by cases e; simp [Value.ownBlock] at e2)))
      clear hown2 hgr2 hat2 hb2
      refine hK.out _ _ ?_ (fun hNew => ?_)
      · first | exact hHeld | exact ⟨cell_go hHeld.1 ((Below.refl _ _).alloc (Nat.le_refl _) _), cell_go hHeld.2.1 ((Below.refl _ _).alloc (Nat.le_refl _) _), Lib.hid ((Hid.out hHeld.2.2).alloc (Hid.out hHeld.2.2).size _)⟩ | exact ⟨cell_go HP.out B3.out, cell_go HC.out B3.out, B3⟩ | exact ⟨cell_go HP.out B2.out, cell_go HC.out B2.out, B2⟩
      clear hK K
      replace hHeld := hNew
      clear hNew
      ((try simp only [Act.put]); (try simp only [List.setIfInBounds_toArray]); (try simp only [List.set_cons_succ]); (try simp only [List.set_cons_zero]))
      refine anyZ_ready (rs := [16]) (by kernel_rfl) (by simp) ?_
      refine AllZ.cons (o := { dst := some 49, op := Op.call { callee := Callee.builtin Builtin.append, args := #[Operand.tmp 46, Operand.tmp 48], argTypes := #[50, 50] }, type := 50, pos := "ref.go:72", after := #[{ on := 13, ground := Ground.data }, { on := 15, ground := Ground.data }, { on := 13, ground := Ground.chain }], guard := none }) rfl (fun K hK => ?_) AllZ.nil
      refine step_append_at rfl (.tmp 46) (.tmp 48) 50 rfl W.heap.size 3 i0 (.int .i64 0) 1 8 Try.underlying50 hi0 hz0 hz1 hz2 rfl (by decide) _ _ _ (by first | (simp [Act.eval]; done) | (simp [Act.eval, Act.put]; done)) O2.out _ 1 1 [.int .i64 x] (by first | (simp [Act.eval]; done) | (simp [Act.eval, Act.put]; done)) (by simp) (fun e => by cases e) L2.out.news (by simp [Value.oneCell']) (by unfold maxLen; omega) (by omega) (Hid.out hHeld.2.2).size ?_
      intro a3 cap3 w3 hown3 hgr3 hat3
      have hb3 := (Hid.out hHeld.2.2).grown hgr3 (Hid.out hHeld.2.2).size (fun k h => (O2.out.lt k h).1)
      have hs3 := rp_put_row HV.out hk hb3 hown3
      have f3 : w3.frozen? ⟨b, k, none⟩ = false := (World.frozen?_of_block (a := ⟨b, k, none⟩) (hb3.block b hbW)).trans (HV.out.fz k)
      have c3 : w3.cell? ⟨b, k, none⟩ = some (.slice a (B k).length cap) := cell_go HC.out hb3
      have R := Lib.hid hs3
      have B3 := Lib.hid hb3
      clear hs3 hown3 hgr3 hat3 hb3
      refine hK.out _ _ ?_ (fun hNew => ?_)
      · first | exact hHeld | exact ⟨cell_go hHeld.1 ((Below.refl _ _).alloc (Nat.le_refl _) _), cell_go hHeld.2.1 ((Below.refl _ _).alloc (Nat.le_refl _) _), Lib.hid ((Hid.out hHeld.2.2).alloc (Hid.out hHeld.2.2).size _)⟩ | exact ⟨cell_go HP.out B3.out, cell_go HC.out B3.out, B3⟩ | exact ⟨cell_go HP.out B2.out, cell_go HC.out B2.out, B2⟩
      clear hK K
      replace hHeld := hNew
      clear hNew
      ((try simp only [Act.put]); (try simp only [List.setIfInBounds_toArray]); (try simp only [List.set_cons_succ]); (try simp only [List.set_cons_zero]))
      refine anyZ_take (i := 17) (oi := { dst := some 50, op := Op.indexAddr 39 (Operand.tmp 36) (Operand.tmp 37), type := 0, pos := "ref.go:72", after := #[{ on := 3, ground := Ground.data }, { on := 4, ground := Ground.data }, { on := 0, ground := Ground.phase }, { on := 1, ground := Ground.phase }, { on := 2, ground := Ground.phase }, { on := 3, ground := Ground.phase }, { on := 4, ground := Ground.phase }, { on := 5, ground := Ground.phase }, { on := 6, ground := Ground.phase }, { on := 7, ground := Ground.phase }, { on := 8, ground := Ground.phase }, { on := 9, ground := Ground.phase }, { on := 10, ground := Ground.phase }, { on := 11, ground := Ground.phase }, { on := 12, ground := Ground.phase }, { on := 13, ground := Ground.phase }, { on := 14, ground := Ground.phase }, { on := 15, ground := Ground.phase }, { on := 16, ground := Ground.phase }], guard := none }) (v := ?_) rfl (by kernel_rfl) (by kernel_rfl) (by kernel_rfl) (by kernel_rfl) (fun _ _ _ h => h) (Or.inl ⟨by rfl, ?_⟩) (by assumption) ?_
      rotate_left
      · (intro w hSw; (try dsimp only at hSw); go_simp; try with_reducible rfl)
      ((try simp only [Act.put]); (try simp only [List.setIfInBounds_toArray]); (try simp only [List.set_cons_succ]); (try simp only [List.set_cons_zero]))
      refine anyZ_ready (rs := [18]) (by kernel_rfl) (by simp) ?_
      refine AllZ.last (o := { dst := none, op := Op.store 50 (Operand.tmp 50) (Operand.tmp 49), type := 0, pos := "ref.go:72", after := #[{ on := 17, ground := Ground.data }, { on := 16, ground := Ground.data }, { on := 16, ground := Ground.chain }, { on := 0, ground := Ground.phase }, { on := 1, ground := Ground.phase }, { on := 2, ground := Ground.phase }, { on := 3, ground := Ground.phase }, { on := 4, ground := Ground.phase }, { on := 5, ground := Ground.phase }, { on := 6, ground := Ground.phase }, { on := 7, ground := Ground.phase }, { on := 8, ground := Ground.phase }, { on := 9, ground := Ground.phase }, { on := 10, ground := Ground.phase }, { on := 11, ground := Ground.phase }, { on := 12, ground := Ground.phase }, { on := 13, ground := Ground.phase }, { on := 14, ground := Ground.phase }, { on := 15, ground := Ground.phase }, { on := 16, ground := Ground.phase }], guard := none }) rfl (fun K hK => ?_)
      go_simp
      refine hK.out _ _ ?_
      clear hK K
      ((try simp only [Act.put]); (try simp only [List.setIfInBounds_toArray]); (try simp only [List.set_cons_succ]); (try simp only [List.set_cons_zero]))
      refine anyZ_done (by kernel_rfl) ?_ _
      refine NoPanic.normal ?_
      go_wp2_with fail
      go_ret
      exact R.out
  · skip
    go_simp
    refine hK.out _ _ ?_ (fun hNew => ?_)
    · first | exact hHeld | exact ⟨cell_go hHeld.1 ((Below.refl _ _).alloc (Nat.le_refl _) _), cell_go hHeld.2.1 ((Below.refl _ _).alloc (Nat.le_refl _) _), Lib.hid ((Hid.out hHeld.2.2).alloc (Hid.out hHeld.2.2).size _)⟩ | exact ⟨cell_go HP.out B3.out, cell_go HC.out B3.out, B3⟩ | exact ⟨cell_go HP.out B2.out, cell_go HC.out B2.out, B2⟩
    clear hK K
    replace hHeld := hNew
    clear hNew
    ((try simp only [Act.put]); (try simp only [List.setIfInBounds_toArray]); (try simp only [List.set_cons_succ]); (try simp only [List.set_cons_zero]))
    refine anyZ_ready (rs := [5]) (by kernel_rfl) (by simp) ?_
    refine AllZ.cons (o := { dst := some 38, op := Op.buildSlice 50 0 #[], type := 50, pos := "ref.go:72", after := #[], guard := none }) rfl (fun K hK => ?_) AllZ.nil
    go_simp
    refine hK.out _ _ ?_ (fun hNew => ?_)
    · first | exact hHeld | exact ⟨cell_go hHeld.1 ((Below.refl _ _).alloc (Nat.le_refl _) _), cell_go hHeld.2.1 ((Below.refl _ _).alloc (Nat.le_refl _) _), Lib.hid ((Hid.out hHeld.2.2).alloc (Hid.out hHeld.2.2).size _)⟩ | exact ⟨cell_go HP.out B3.out, cell_go HC.out B3.out, B3⟩ | exact ⟨cell_go HP.out B2.out, cell_go HC.out B2.out, B2⟩
    clear hK K
    replace hHeld := hNew
    clear hNew
    ((try simp only [Act.put]); (try simp only [List.setIfInBounds_toArray]); (try simp only [List.set_cons_succ]); (try simp only [List.set_cons_zero]))
    refine anyZ_ready (rs := [13]) (by kernel_rfl) (by simp) ?_
    refine AllZ.cons (o := { dst := some 46, op := Op.call { callee := Callee.builtin Builtin.append, args := #[Operand.tmp 38, Operand.tmp 45], argTypes := #[50, 50] }, type := 50, pos := "ref.go:72", after := #[{ on := 5, ground := Ground.data }, { on := 12, ground := Ground.data }], guard := none }) rfl (fun K hK => ?_) AllZ.nil
    refine step_append_at rfl (.tmp 38) (.tmp 45) 50 rfl W.heap.size 3 i0 (.int .i64 0) 1 8 Try.underlying50 hi0 hz0 hz1 hz2 rfl (by decide) _ _ _ (by first | (simp [Act.eval]; done) | (simp [Act.eval, Act.put]; done)) (OC.out nq) a (B k).length cap ((B k).map iV) (by first | (simp [Act.eval]; done) | (simp [Act.eval, Act.put]; done)) (by simp) (fun e => by have := (SL.out.below (Hid.out hHeld.2.2)).empty e; simpa using this) (SL.out.below (Hid.out hHeld.2.2)).news (ones_of _ (fun _ => rfl)) (by unfold maxLen; omega) (by omega) (Hid.out hHeld.2.2).size ?_
    intro a2 cap2 w2 hown2 hgr2 hat2
    have hb2 := (Hid.out hHeld.2.2).grown hgr2 (Hid.out hHeld.2.2).size (fun k h => ((OC.out nq).lt k h).1)
    have O2 := Lib.hid (show w2.ownsRow W.heap.size 3 1 (.slice a2 (0 + (B k).length) cap2) (B k).length ((B k).map iV) by rw [Nat.zero_add, List.nil_append] at hown2; rw [Nat.zero_add]; exact hown2)
    have B2 := Lib.hid hb2
    have L2 := Lib.hid ((LC.out nq).carry hgr2.size (fun ad e _ hl => hgr2.block _ hl (fun e2 => by cases e; simp [Value.ownBlock] at e2)))
    clear hown2 hgr2 hat2 hb2
    refine hK.out _ _ ?_ (fun hNew => ?_)
    · first | exact hHeld | exact ⟨cell_go hHeld.1 ((Below.refl _ _).alloc (Nat.le_refl _) _), cell_go hHeld.2.1 ((Below.refl _ _).alloc (Nat.le_refl _) _), Lib.hid ((Hid.out hHeld.2.2).alloc (Hid.out hHeld.2.2).size _)⟩ | exact ⟨cell_go HP.out B3.out, cell_go HC.out B3.out, B3⟩ | exact ⟨cell_go HP.out B2.out, cell_go HC.out B2.out, B2⟩
    clear hK K
    replace hHeld := hNew
    clear hNew
    ((try simp only [Act.put]); (try simp only [List.setIfInBounds_toArray]); (try simp only [List.set_cons_succ]); (try simp only [List.set_cons_zero]))
    refine anyZ_ready (rs := [16]) (by kernel_rfl) (by simp) ?_
    refine AllZ.cons (o := { dst := some 49, op := Op.call { callee := Callee.builtin Builtin.append, args := #[Operand.tmp 46, Operand.tmp 48], argTypes := #[50, 50] }, type := 50, pos := "ref.go:72", after := #[{ on := 13, ground := Ground.data }, { on := 15, ground := Ground.data }, { on := 13, ground := Ground.chain }], guard := none }) rfl (fun K hK => ?_) AllZ.nil
    refine step_append_at rfl (.tmp 46) (.tmp 48) 50 rfl W.heap.size 3 i0 (.int .i64 0) 1 8 Try.underlying50 hi0 hz0 hz1 hz2 rfl (by decide) _ _ _ (by first | (simp [Act.eval]; done) | (simp [Act.eval, Act.put]; done)) O2.out _ 1 1 [.int .i64 x] (by first | (simp [Act.eval]; done) | (simp [Act.eval, Act.put]; done)) (by simp) (fun e => by cases e) L2.out.news (by simp [Value.oneCell']) (by unfold maxLen; omega) (by omega) (Hid.out hHeld.2.2).size ?_
    intro a3 cap3 w3 hown3 hgr3 hat3
    have hb3 := (Hid.out hHeld.2.2).grown hgr3 (Hid.out hHeld.2.2).size (fun k h => (O2.out.lt k h).1)
    have hs3 := rp_put_row HV.out hk hb3 hown3
    have f3 : w3.frozen? ⟨b, k, none⟩ = false := (World.frozen?_of_block (a := ⟨b, k, none⟩) (hb3.block b hbW)).trans (HV.out.fz k)
    have c3 : w3.cell? ⟨b, k, none⟩ = some (.slice a (B k).length cap) := cell_go HC.out hb3
    have R := Lib.hid hs3
    have B3 := Lib.hid hb3
    clear hs3 hown3 hgr3 hat3 hb3
    refine hK.out _ _ ?_ (fun hNew => ?_)
    · first | exact hHeld | exact ⟨cell_go hHeld.1 ((Below.refl _ _).alloc (Nat.le_refl _) _), cell_go hHeld.2.1 ((Below.refl _ _).alloc (Nat.le_refl _) _), Lib.hid ((Hid.out hHeld.2.2).alloc (Hid.out hHeld.2.2).size _)⟩ | exact ⟨cell_go HP.out B3.out, cell_go HC.out B3.out, B3⟩ | exact ⟨cell_go HP.out B2.out, cell_go HC.out B2.out, B2⟩
    clear hK K
    replace hHeld := hNew
    clear hNew
    ((try simp only [Act.put]); (try simp only [List.setIfInBounds_toArray]); (try simp only [List.set_cons_succ]); (try simp only [List.set_cons_zero]))
    refine anyZ_take (i := 17) (oi := { dst := some 50, op := Op.indexAddr 39 (Operand.tmp 36) (Operand.tmp 37), type := 0, pos := "ref.go:72", after := #[{ on := 3, ground := Ground.data }, { on := 4, ground := Ground.data }, { on := 0, ground := Ground.phase }, { on := 1, ground := Ground.phase }, { on := 2, ground := Ground.phase }, { on := 3, ground := Ground.phase }, { on := 4, ground := Ground.phase }, { on := 5, ground := Ground.phase }, { on := 6, ground := Ground.phase }, { on := 7, ground := Ground.phase }, { on := 8, ground := Ground.phase }, { on := 9, ground := Ground.phase }, { on := 10, ground := Ground.phase }, { on := 11, ground := Ground.phase }, { on := 12, ground := Ground.phase }, { on := 13, ground := Ground.phase }, { on := 14, ground := Ground.phase }, { on := 15, ground := Ground.phase }, { on := 16, ground := Ground.phase }], guard := none }) (v := ?_) rfl (by kernel_rfl) (by kernel_rfl) (by kernel_rfl) (by kernel_rfl) (fun _ _ _ h => h) (Or.inl ⟨by rfl, ?_⟩) (by assumption) ?_
    rotate_left
    · (intro w hSw; (try dsimp only at hSw); go_simp; try with_reducible rfl)
    ((try simp only [Act.put]); (try simp only [List.setIfInBounds_toArray]); (try simp only [List.set_cons_succ]); (try simp only [List.set_cons_zero]))
    refine anyZ_ready (rs := [18]) (by kernel_rfl) (by simp) ?_
    refine AllZ.last (o := { dst := none, op := Op.store 50 (Operand.tmp 50) (Operand.tmp 49), type := 0, pos := "ref.go:72", after := #[{ on := 17, ground := Ground.data }, { on := 16, ground := Ground.data }, { on := 16, ground := Ground.chain }, { on := 0, ground := Ground.phase }, { on := 1, ground := Ground.phase }, { on := 2, ground := Ground.phase }, { on := 3, ground := Ground.phase }, { on := 4, ground := Ground.phase }, { on := 5, ground := Ground.phase }, { on := 6, ground := Ground.phase }, { on := 7, ground := Ground.phase }, { on := 8, ground := Ground.phase }, { on := 9, ground := Ground.phase }, { on := 10, ground := Ground.phase }, { on := 11, ground := Ground.phase }, { on := 12, ground := Ground.phase }, { on := 13, ground := Ground.phase }, { on := 14, ground := Ground.phase }, { on := 15, ground := Ground.phase }, { on := 16, ground := Ground.phase }], guard := none }) rfl (fun K hK => ?_)
    go_simp
    refine hK.out _ _ ?_
    clear hK K
    ((try simp only [Act.put]); (try simp only [List.setIfInBounds_toArray]); (try simp only [List.set_cons_succ]); (try simp only [List.set_cons_zero]))
    refine anyZ_done (by kernel_rfl) ?_ _
    refine NoPanic.normal ?_
    go_wp2_with fail
    go_ret
    exact R.out

set_option maxRecDepth 20000 in
set_option maxHeartbeats 2000000 in
theorem rp_get_ok (hA : RpAt W N p F n room B) (k : Nat) (x : Int) (t : List Int) (hk : k < n) (h : B k = x :: t) :
    Calls Try.prog 18 #[.pointer (some ⟨p, 0, none⟩), .int .i64 (k : Int)] W (OPost (fun w F => RpAt w N p F n room (upd B k t)) W F (.tuple #[.int .i64 x, .bool true])) := by
  obtain ⟨b, hv⟩ := hA
  have c1 := hv.c1
  obtain ⟨a, cap, c2, hs, hn⟩ := hv.row k hk
  rw [h] at hs
  obtain ⟨g, off, rfl, hg, hx⟩ := hs.at 0 (by simp)
  have hx0 : W.cell? ⟨g, off, none⟩ = some (.int .i64 x) := hx
  have hfit := hs.fit
  rw [List.length_map, List.length_cons] at hfit
  have hmax := hs.max
  unfold maxLen at hmax
  obtain ⟨A, hA⟩ : ∃ A : Addr, (if cap = 1 then some (⟨g, off, none⟩ : Addr) else some ⟨g, off + 1, none⟩) = some A := by split <;> exact ⟨_, rfl⟩
  have hAb : A.block = g := by
    split at hA <;> (cases hA; rfl)
  have hD : SlV W (some A) (cap - 1) (t.map iV) := by
    have h1 := hs.drop 1 (by simp)
    have e : (if cap = 1 then some (⟨g, off, none⟩ : Addr) else (some (⟨g, off, none⟩ : Addr)).map (·.add 1)) = some A := by rw [← hA]; simp [Addr.add_lit]
    rw [e] at h1
    exact h1
  have hset := hv.set (w2 := W.drew) (drew_below W) (k := k) (some A) (cap - 1) t hk (hD.below (drew_below W)) (F' := F) (fun _ f => f) (fun i f => hv.low i f) (fun ad e _ => by
    cases e
    rw [hAb]
    exact hn ⟨g, off, none⟩ rfl (by rw [h]; simp))
  have R := Lib.hid (show OPost (fun w F => RpAt w N p F n room (upd B k t)) W F (.tuple #[.int .i64 x, .bool true]) (.returned (.tuple #[.int .i64 x, .bool true])) _ from
    ⟨rfl, F, ⟨b, hset⟩, ((Keep.refl F W).drew).setCell (p := ⟨b, k, none⟩) hv.inB _, fun _ f => Or.inl f⟩)
  have f2 := hv.fz k
  have f3 : W.drew.frozen? ⟨b, k, none⟩ = false := f2
  rw [h, List.length_cons] at c2
  have d0 : decide ((k : Int) < 0) = false := decide_eq_false (by omega)
  have d1 : decide ((k : Int) ≥ (n : Int)) = false := decide_eq_false (by omega)
  have i1 : (0 : Int) ≤ (k : Int) := by omega
  have i2 : (k : Int) < (n : Int) := by omega
  have j1 : (1 : Int) ≤ ((t.length + 1 : Nat) : Int) := by omega
  have j2 : ((t.length + 1 : Nat) : Int) ≤ (cap : Int) := by omega
  have j3 : 1 ≤ cap := by omega
  have j4 : ((t.length : Int) + 1 == 0) = false := by simp; omega
  have j5 : (1 : Int) ≤ (t.length : Int) + 1 := by omega
  have j6 : (t.length : Int) + 1 ≤ (cap : Int) := by omega
  have d3 : decide (n ≤ k) = false := decide_eq_false (by omega)
  clear hv hs hn hg hx hD hset hAb hmax h
  go_enter Try.func18, Try.ntmps18
  go_upto_region 4 with fail
  refine wp_region_noPanic ?_
  refine wp_region_z (S := (fun w' => w'.cell? ⟨p, 1, none⟩ = some (.slice (some ⟨b, 0, none⟩) n n) ∧ w'.cell? ⟨b, k, none⟩ = some (.slice (some ⟨g, off, none⟩) (t.length + 1) cap))) (z := 14) (by kernel_rfl) ?_ (fun hHeld => ?_)
  · exact ⟨c1, c2⟩
  refine anyZ_take (i := 0) (oi := { dst := some 38, op := Op.move (Operand.tmp 0), type := 38, pos := "ref.go:81", after := #[], guard := none }) (v := ?_) rfl (by kernel_rfl) (by kernel_rfl) (by kernel_rfl) (by kernel_rfl) (fun _ _ _ h => h) (Or.inl ⟨by rfl, ?_⟩) (by assumption) ?_
  rotate_left
  · (intro w hSw; (try dsimp only at hSw); go_simp; try with_reducible rfl)
  ((try simp only [Act.put]); (try simp only [List.setIfInBounds_toArray]); (try simp only [List.set_cons_succ]); (try simp only [List.set_cons_zero]))
  refine anyZ_take (i := 1) (oi := { dst := some 39, op := Op.nilCheck (Operand.tmp 38), type := 0, pos := "ref.go:81", after := #[{ on := 0, ground := Ground.data }], guard := none }) (v := ?_) rfl (by kernel_rfl) (by kernel_rfl) (by kernel_rfl) (by kernel_rfl) (fun _ _ _ h => h) (Or.inl ⟨by rfl, ?_⟩) (by assumption) ?_
  rotate_left
  · (intro w hSw; (try dsimp only at hSw); go_simp; try with_reducible rfl)
  ((try simp only [Act.put]); (try simp only [List.setIfInBounds_toArray]); (try simp only [List.set_cons_succ]); (try simp only [List.set_cons_zero]))
  refine anyZ_take (i := 2) (oi := { dst := some 40, op := Op.fieldAddr 41 (Operand.tmp 39) 1, type := 0, pos := "ref.go:81", after := #[{ on := 1, ground := Ground.data }], guard := none }) (v := ?_) rfl (by kernel_rfl) (by kernel_rfl) (by kernel_rfl) (by kernel_rfl) (fun _ _ _ h => h) (Or.inl ⟨by rfl, ?_⟩) (by assumption) ?_
  rotate_left
  · (intro w hSw; (try dsimp only at hSw); go_simp; try with_reducible rfl)
  ((try simp only [Act.put]); (try simp only [List.setIfInBounds_toArray]); (try simp only [List.set_cons_succ]); (try simp only [List.set_cons_zero]))
  refine anyZ_take (i := 3) (oi := { dst := some 41, op := Op.load 39 (Operand.tmp 40), type := 39, pos := "ref.go:81", after := #[{ on := 2, ground := Ground.data }], guard := none }) (v := ?_) rfl (by kernel_rfl) (by kernel_rfl) (by kernel_rfl) (by kernel_rfl) (fun _ _ _ h => h) (Or.inl ⟨by rfl, ?_⟩) (by assumption) ?_
  rotate_left
  · (intro w hSw; (try dsimp only at hSw); go_simp; try with_reducible rfl)
  ((try simp only [Act.put]); (try simp only [List.setIfInBounds_toArray]); (try simp only [List.set_cons_succ]); (try simp only [List.set_cons_zero]))
  refine anyZ_take (i := 4) (oi := { dst := some 42, op := Op.move (Operand.tmp 1), type := 3, pos := "ref.go:81", after := #[], guard := none }) (v := ?_) rfl (by kernel_rfl) (by kernel_rfl) (by kernel_rfl) (by kernel_rfl) (fun _ _ _ h => h) (Or.inl ⟨by rfl, ?_⟩) (by assumption) ?_
  rotate_left
  · (intro w hSw; (try dsimp only at hSw); go_simp; try with_reducible rfl)
  ((try simp only [Act.put]); (try simp only [List.setIfInBounds_toArray]); (try simp only [List.set_cons_succ]); (try simp only [List.set_cons_zero]))
  refine anyZ_take (i := 5) (oi := { dst := some 43, op := Op.move (Operand.tmp 0), type := 38, pos := "ref.go:81", after := #[], guard := none }) (v := ?_) rfl (by kernel_rfl) (by kernel_rfl) (by kernel_rfl) (by kernel_rfl) (fun _ _ _ h => h) (Or.inl ⟨by rfl, ?_⟩) (by assumption) ?_
  rotate_left
  · (intro w hSw; (try dsimp only at hSw); go_simp; try with_reducible rfl)
  ((try simp only [Act.put]); (try simp only [List.setIfInBounds_toArray]); (try simp only [List.set_cons_succ]); (try simp only [List.set_cons_zero]))
  refine anyZ_take (i := 6) (oi := { dst := some 44, op := Op.nilCheck (Operand.tmp 43), type := 0, pos := "ref.go:81", after := #[{ on := 5, ground := Ground.data }], guard := none }) (v := ?_) rfl (by kernel_rfl) (by kernel_rfl) (by kernel_rfl) (by kernel_rfl) (fun _ _ _ h => h) (Or.inl ⟨by rfl, ?_⟩) (by assumption) ?_
  rotate_left
  · (intro w hSw; (try dsimp only at hSw); go_simp; try with_reducible rfl)
  ((try simp only [Act.put]); (try simp only [List.setIfInBounds_toArray]); (try simp only [List.set_cons_succ]); (try simp only [List.set_cons_zero]))
  refine anyZ_take (i := 7) (oi := { dst := some 45, op := Op.fieldAddr 41 (Operand.tmp 44) 1, type := 0, pos := "ref.go:81", after := #[{ on := 6, ground := Ground.data }], guard := none }) (v := ?_) rfl (by kernel_rfl) (by kernel_rfl) (by kernel_rfl) (by kernel_rfl) (fun _ _ _ h => h) (Or.inl ⟨by rfl, ?_⟩) (by assumption) ?_
  rotate_left
  · (intro w hSw; (try dsimp only at hSw); go_simp; try with_reducible rfl)
  ((try simp only [Act.put]); (try simp only [List.setIfInBounds_toArray]); (try simp only [List.set_cons_succ]); (try simp only [List.set_cons_zero]))
  refine anyZ_take (i := 8) (oi := { dst := some 46, op := Op.load 39 (Operand.tmp 45), type := 39, pos := "ref.go:81", after := #[{ on := 7, ground := Ground.data }], guard := none }) (v := ?_) rfl (by kernel_rfl) (by kernel_rfl) (by kernel_rfl) (by kernel_rfl) (fun _ _ _ h => h) (Or.inl ⟨by rfl, ?_⟩) (by assumption) ?_
  rotate_left
  · (intro w hSw; (try dsimp only at hSw); go_simp; try with_reducible rfl)
  ((try simp only [Act.put]); (try simp only [List.setIfInBounds_toArray]); (try simp only [List.set_cons_succ]); (try simp only [List.set_cons_zero]))
  refine anyZ_take (i := 9) (oi := { dst := some 47, op := Op.move (Operand.tmp 1), type := 3, pos := "ref.go:81", after := #[], guard := none }) (v := ?_) rfl (by kernel_rfl) (by kernel_rfl) (by kernel_rfl) (by kernel_rfl) (fun _ _ _ h => h) (Or.inl ⟨by rfl, ?_⟩) (by assumption) ?_
  rotate_left
  · (intro w hSw; (try dsimp only at hSw); go_simp; try with_reducible rfl)
  ((try simp only [Act.put]); (try simp only [List.setIfInBounds_toArray]); (try simp only [List.set_cons_succ]); (try simp only [List.set_cons_zero]))
  refine anyZ_take (i := 10) (oi := { dst := some 48, op := Op.indexAddr 39 (Operand.tmp 46) (Operand.tmp 47), type := 0, pos := "ref.go:81", after := #[{ on := 8, ground := Ground.data }, { on := 9, ground := Ground.data }], guard := none }) (v := ?_) rfl (by kernel_rfl) (by kernel_rfl) (by kernel_rfl) (by kernel_rfl) (fun _ _ _ h => h) (Or.inl ⟨by rfl, ?_⟩) (by assumption) ?_
  rotate_left
  · (intro w hSw; (try dsimp only at hSw); go_simp; try with_reducible rfl)
  ((try simp only [Act.put]); (try simp only [List.setIfInBounds_toArray]); (try simp only [List.set_cons_succ]); (try simp only [List.set_cons_zero]))
  refine anyZ_take (i := 11) (oi := { dst := some 49, op := Op.load 50 (Operand.tmp 48), type := 50, pos := "ref.go:81", after := #[{ on := 10, ground := Ground.data }], guard := none }) (v := ?_) rfl (by kernel_rfl) (by kernel_rfl) (by kernel_rfl) (by kernel_rfl) (fun _ _ _ h => h) (Or.inl ⟨by rfl, ?_⟩) (by assumption) ?_
  rotate_left
  · (intro w hSw; (try dsimp only at hSw); go_simp; try with_reducible rfl)
  ((try simp only [Act.put]); (try simp only [List.setIfInBounds_toArray]); (try simp only [List.set_cons_succ]); (try simp only [List.set_cons_zero]))
  refine anyZ_take (i := 12) (oi := { dst := some 50, op := Op.slice 50 (Operand.tmp 49) (some (Operand.const (Value.int IntKind.i64 1))) none none, type := 50, pos := "ref.go:81", after := #[{ on := 11, ground := Ground.data }], guard := none }) (v := ?_) rfl (by kernel_rfl) (by kernel_rfl) (by kernel_rfl) (by kernel_rfl) (fun _ _ _ h => h) (Or.inl ⟨by rfl, ?_⟩) (by assumption) ?_
  rotate_left
  · (intro w hSw; (try dsimp only at hSw); go_simp; try with_reducible rfl)
  ((try simp only [Act.put]); (try simp only [List.setIfInBounds_toArray]); (try simp only [List.set_cons_succ]); (try simp only [List.set_cons_zero]))
  refine anyZ_take (i := 13) (oi := { dst := some 51, op := Op.indexAddr 39 (Operand.tmp 41) (Operand.tmp 42), type := 0, pos := "ref.go:81", after := #[{ on := 3, ground := Ground.data }, { on := 4, ground := Ground.data }, { on := 0, ground := Ground.phase }, { on := 1, ground := Ground.phase }, { on := 2, ground := Ground.phase }, { on := 3, ground := Ground.phase }, { on := 4, ground := Ground.phase }, { on := 5, ground := Ground.phase }, { on := 6, ground := Ground.phase }, { on := 7, ground := Ground.phase }, { on := 8, ground := Ground.phase }, { on := 9, ground := Ground.phase }, { on := 10, ground := Ground.phase }, { on := 11, ground := Ground.phase }, { on := 12, ground := Ground.phase }], guard := none }) (v := ?_) rfl (by kernel_rfl) (by kernel_rfl) (by kernel_rfl) (by kernel_rfl) (fun _ _ _ h => h) (Or.inl ⟨by rfl, ?_⟩) (by assumption) ?_
  rotate_left
  · (intro w hSw; (try dsimp only at hSw); go_simp; try with_reducible rfl)
  ((try simp only [Act.put]); (try simp only [List.setIfInBounds_toArray]); (try simp only [List.set_cons_succ]); (try simp only [List.set_cons_zero]))
  refine anyZ_ready (rs := [14]) (by kernel_rfl) (by simp) ?_
  refine AllZ.last (o := { dst := none, op := Op.store 50 (Operand.tmp 51) (Operand.tmp 50), type := 0, pos := "ref.go:81", after := #[{ on := 13, ground := Ground.data }, { on := 12, ground := Ground.data }, { on := 0, ground := Ground.phase }, { on := 1, ground := Ground.phase }, { on := 2, ground := Ground.phase }, { on := 3, ground := Ground.phase }, { on := 4, ground := Ground.phase }, { on := 5, ground := Ground.phase }, { on := 6, ground := Ground.phase }, { on := 7, ground := Ground.phase }, { on := 8, ground := Ground.phase }, { on := 9, ground := Ground.phase }, { on := 10, ground := Ground.phase }, { on := 11, ground := Ground.phase }, { on := 12, ground := Ground.phase }], guard := none }) rfl (fun K hK => ?_)
  go_simp
  refine hK.out _ _ ?_
  clear hK K
  ((try simp only [Act.put]); (try simp only [List.setIfInBounds_toArray]); (try simp only [List.set_cons_succ]); (try simp only [List.set_cons_zero]))
  refine anyZ_done (by kernel_rfl) ?_ _
  refine NoPanic.normal ?_
  go_wp2_with fail
  go_ret2
  exact R.out

end

end Go.Proofs.Ytedfiejocajpkaa
