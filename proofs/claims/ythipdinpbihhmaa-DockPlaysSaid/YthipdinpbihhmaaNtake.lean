/-
  Take; Held.
-/
import Derived.Test.YthipdinpbihhmaaNgo
namespace Go.Proofs.Ythipdinpbihhmaa
open Go.RowKit

/-- What Take leaves. -/
def TakePost (W : World) (p q M : Nat) (S : Dk) (num : Nat) (s : ByteArray) (e : Ending) (w : World) : Prop :=
  ∃ v, e = .returned (.tuple #[v, .bool (S.may num)]) ∧ UpR M w v (S.gave num s) ∧ DkAt w p q M (S.came num s) ∧ Keep (PQ p q) W w

section
variable {W : World} {p q M : Nat} {S : Dk}

theorem take_in {win next num : Nat} {E : List (Nat × Bd)} {b : Bd} {w1 w2 : World} {D : DataW Value} (h : DkV W p q M win next E) (hb : Below W.heap.size W w1) (hB : BodyV (fun k => W.heap.size ≤ k) w1 b) (hV : Vw D E) (hT : Maps.Tidy D) (hn : E.lookup num = none)
    (hm : w2.ownsMap Try.prog 30 anyR q (E.length + 1) (D.put (kN num) (.held (bdV b)))) (ht : w1.mapTurned w2 q) : DkV w2 p q M win next (ins num b E) ∧ Keep (PQ p q) W w2 := by
  have k1 : Keep (fun k => k = q) W w2 := (Keep.ofBelow (F := fun k => k = q) hb).grown ht.grown (fun k h => Or.inl (by cases h; rfl))
  have hM := h.size
  have hqM := h.qM
  refine ⟨⟨h.c.keep k1 h.ne, h.pM, h.qM, h.ne, Nat.le_trans h.size k1.size, ⟨_, by rw [ins_len]; exact hm, hV.put hT num b hn⟩, fun x hx => ?_⟩, k1.mono (fun i e => Or.inr e)⟩
  rcases ins_mem.1 hx with rfl | hx
  · refine ((hB.mono (fun k _ hk => Nat.le_trans hM hk)).carry ht.grown.size (fun k hk hk2 => ht.grown.block k hk (fun e => ?_)))
    cases e
    omega
  · refine (h.body x hx).carry k1.size (fun k hk hk2 => k1.block k hk (fun e => by omega))

set_option maxRecDepth 20000 in
set_option maxHeartbeats 4000000 in
theorem take_any {c num : Nat} {b : Bd} {A : Nat → Prop} (h : DkAt W p q M S) (hS : S.ok c) (hc : c ≤ 1000) (hn : num < 18446744073709551616) (hB : BodyV A W b) (hs : b.s.size ≤ 140737488355328) :
    Calls Try.prog 10 #[.pointer (some ⟨p, 0, none⟩), .int .u64 (num : Nat), .slice b.a b.s.size b.c] W (TakePost W p q M S num b.s) := by
  obtain ⟨E, hE, hH⟩ := h
  have hnx := hS.next
  have hwin := hS.win
  have LK : S.held.lookup num = (E.lookup num).map Bd.s := by rw [← hH, mapN_lookup]
  obtain ⟨b1, hb1⟩ : ∃ x, (decide (S.next ≤ num) && decide (num - S.next < S.win)) = x := ⟨_, rfl⟩
  obtain ⟨b2, hb2⟩ : ∃ x, (E.lookup num).isSome = x := ⟨_, rfl⟩
  have HM : S.may num = (b1 && !b2) := by
    unfold Dk.may
    rw [hb1, LK, ← hb2]
    cases E.lookup num <;> rfl
  have C1 := Lib.hid (within_any hE hn (show S.next ≤ 1000000 by omega) b1 hb1)
  have C2 := Lib.hid (fun k => holds_any (hE.below (show Below W.heap.size W (W.drewN k) from ⟨rfl, rfl, rfl, Nat.le_refl _, fun _ _ => rfl⟩)) hn b2 hb2)
  have HE := Lib.hid hE
  have HB := Lib.hid hB
  have HS := Lib.hid hS
  have HH := Lib.hid hH
  have BK : ∀ k, Below W.heap.size W (W.drewN k) := fun k => ⟨rfl, rfl, rfl, Nat.le_refl _, fun _ _ => rfl⟩
  have NO := Lib.hid (fun (k : Nat) (hm : S.may num = false) => show TakePost W p q M S num b.s (.returned (.tuple #[.slice none 0 0, .bool (S.may num)])) (W.drewN k) from by
    have h1 : S.gave num b.s = [] := by unfold Dk.gave; rw [hm]; rfl
    have h2 : S.came num b.s = S := by unfold Dk.came; rw [hm]; rfl
    refine ⟨_, rfl, ?_, ?_, (Keep.refl _ W).drewN k⟩
    · rw [h1]; exact UpR.none M _
    · rw [h2]; exact ⟨E, hE.below (BK k), hH⟩)
  clear hE hB hS hH LK hb1
  go_enter Try.func10, Try.ntmps10
  cases b1
  · have hm : S.may num = false := HM
    have NO2 := Lib.hid (fun k => NO.out k hm)
    rw [hm] at NO2
    clear HM NO
    go_wp2_with (go_at_call 16; refine C1.out.mono ?_; rintro e w' ⟨rfl, k, rfl⟩)
    go_ret2
    exact NO2.out k
  · cases b2
    · have hm : S.may num = true := HM
      obtain ⟨h1, h2, h3⟩ := Dk.may_is.1 hm
      have hEn : E.lookup num = none := by
        cases he : E.lookup num with
        | none => rfl
        | some v => rw [he] at hb2; cases hb2
      have UE := Lib.hid (fun (b1 : Bd) (e1 : b1.s = b.s) => show Up S.next (S.next + S.win) (ins num b1 E) from mapN_up (f := Bd.s) (by rw [mapN_ins, HH.out, e1]; exact HS.out.ins hm b.s))
      obtain ⟨D, hD, hV⟩ := HE.out.map
      have hT := hD.tidy keyed
      have HD := Lib.hid hD
      have T := Lib.hid (fun (w0 : World) (h0 : Below W.heap.size W w0) (b1 : Bd) (w1 w2 : World) h4 h5 h6 h7 => take_in (w1 := w1) (w2 := w2) (b := b1) (HE.out.below h0) h4 h5 hV hT hEn h6 h7)
      have EL : E.length ≤ 15 := by
        have := HS.out.len.1
        rw [← HH.out, mapN_len] at this
        exact this
      have YES := Lib.hid (fun (k : Nat) (b1 : Bd) (w2 w3 : World) (e1 : b1.s = b.s) (hK : Keep (PQ p q) W w2) (v : Value) (h4 : UpR M w3 v ((goN S.next (ins num b1 E)).1.map Bd.s)) (h5 : DkV w3 p q M S.win (S.next + (goN S.next (ins num b1 E)).1.length) (goN S.next (ins num b1 E)).2) (h6 : Keep (PQ p q) w2 w3) =>
        show TakePost W p q M S num b.s (.returned (.tuple #[v, .bool true])) w3 from by
          have e2 : goN S.next (ins num b.s S.held) = ((goN S.next (ins num b1 E)).1.map Bd.s, mapN Bd.s (goN S.next (ins num b1 E)).2) := by
            rw [← mapN_go, mapN_ins, HH.out, e1]
          refine ⟨v, by rw [hm], ?_, ⟨(goN S.next (ins num b1 E)).2, ?_, ?_⟩, hK.trans h6 (fun _ _ h => h)⟩
          · unfold Dk.gave Dk.went
            rw [hm, if_pos rfl, e2]
            exact h4
          · unfold Dk.came Dk.take Dk.went
            rw [hm, if_pos rfl, e2, List.length_map]
            exact h5
          · unfold Dk.came Dk.take
            rw [hm, if_pos rfl, e2])
      clear HM NO hb2 hV hT hD
      obtain ⟨c0, c1, c2⟩ := HE.out.cells
      clear c0 c1
      go_wp2_with (first
        | (go_at_call 16; refine C1.out.mono ?_; rintro e w' ⟨rfl, k, hw⟩; subst hw)
        | (go_at_call 17; refine (C2.out k).mono ?_; rintro e w' ⟨rfl, hw⟩; have hw2 := hw.symm; clear hw; subst hw2))
      have e2 : (W.drewN k).drew.cell? ⟨p, 2, none⟩ = some (.map (some q)) := c2
      have BD : Below W.heap.size W (W.drewN k).drew := ⟨rfl, rfl, rfl, Nat.le_refl _, fun _ _ => rfl⟩
      have hqW : q < W.heap.size := Nat.lt_of_lt_of_le HE.out.qM HE.out.size
      have EM : E.length < maxLen := by unfold maxLen; omega
      have HB2 := Lib.hid (HB.out.below BD)
      have HD2 := Lib.hid (ownsMap_block HD.out (BD.block q hqW))
      clear c2 C2 HB HD
      generalize W.drewN k = wk at *
      go_region_law (go_simp; go_at_call 18; refine (bclone_any wk.drew A b HB2.out (by omega)).mono ?_; rintro e w1 ⟨b1, hs1, rfl, hbd, hbl⟩; obtain ⟨w2, hst, hm2, ht2⟩ := (ownsMap_block HD2.out (hbl.block q (by have := BD.size; omega))).store keyed Try.underlying54 EM (keyOf_n hn) (R := anyR) (val := .slice b1.a b.s.size b1.c) rfl; have hst2 : (Instr.mapUpdate 54 (.map (some q)) (.int .u64 (num : Int)) (.slice b1.a b.s.size b1.c)).run Try.prog w1 = .ok () w2 := hst; have c1 : w1.cell? ⟨p, 2, none⟩ = some (.map (some q)) := (hbl.cell (p := ⟨p, 2, none⟩) (by have := HE.out.pM; have := HE.out.size; have := BD.size; show p < _; omega)).trans e2; have HT := Lib.hid (T.out wk.drew BD b1 w1 w2 hbl hbd (by unfold bdV; rw [hs1]; exact hm2) ht2); have HS1 := Lib.hid hs1; clear hst hm2 ht2 hbl hbd hs1)
      all_goals
        go_wp2_with fail
        try go_simp
        go_wp2_with (go_at_call 19; refine (goOn_any HT.out.1 (UE.out b1 HS1.out) (by omega) (by omega) (by rw [ins_len]; omega)).mono ?_; rintro e w3 ⟨v, rfl, h4, h5, h6⟩; have RR := Lib.hid (YES.out k b1 w2 w3 HS1.out ((Keep.ofBelow (F := PQ p q) BD).trans HT.out.2 (fun _ _ f => f)) v h4 h5 h6); clear h4 h5 h6)
        go_ret2
        exact RR.out
    · have hm : S.may num = false := HM
      have NO2 := Lib.hid (fun k => NO.out k hm)
      rw [hm] at NO2
      clear HM NO
      go_wp2_with (first
        | (go_at_call 16; refine C1.out.mono ?_; rintro e w' ⟨rfl, k, hw⟩; subst hw)
        | (go_at_call 17; refine (C2.out k).mono ?_; rintro e w' ⟨rfl, hw⟩; have hw2 := hw.symm; clear hw; subst hw2))
      go_ret2
      exact NO2.out k
end
end Go.Proofs.Ythipdinpbihhmaa
