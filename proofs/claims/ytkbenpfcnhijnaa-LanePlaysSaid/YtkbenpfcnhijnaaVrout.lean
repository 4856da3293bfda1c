/-
  The document's own lane: one is taken out.
-/
import Derived.Test.YtkbenpfcnhijnaaVref
import Derived.Deep.RegionLaw
namespace Go.Proofs.Ytkbenpfcnhijnaa
open Go.RowKit

theorem wrap_add {k : Nat} (h : k < 1000000) : IntKind.i64.wrap ((k : Int) + 1) = (k : Int) + 1 := by
  simp [IntKind.wrap, IntKind.signed, IntKind.bits]
  omega

section
variable {W : World} {N p : Nat} {F : Nat → Prop} {S : St Int}

theorem lr_out_no {k : Int} (hA : LnAt iV 3 W N p F S) (hk : hasZ S.l.length k = false) :
    Calls Try.prog 36 #[.pointer (some ⟨p, 0, none⟩), .int .i64 k] W fun e w' => e = .returned (.tuple #[.int .i64 0, .bool false]) ∧ w' = W := by
  have h := of_decide_eq_false hk
  obtain ⟨v, hV⟩ := hA
  obtain ⟨a, cap, rfl, _⟩ := hV.slice
  have c0 := hV.c0
  clear hV hk
  by_cases h0 : 0 ≤ k
  · have h1 : (S.l.length : Int) ≤ k := by omega
    clear h
    go_enter Try.func36, Try.ntmps36
    go_wp2_with fail
    go_ret2
    exact ⟨rfl, rfl⟩
  · clear h
    go_enter Try.func36, Try.ntmps36
    go_wp2_with fail
    go_ret2
    exact ⟨rfl, rfl⟩

set_option maxRecDepth 20000 in
set_option maxHeartbeats 1000000 in
theorem lr_out_ok {k : Nat} (hA : LnAt iV 3 W N p F S) (hk : k < S.l.length) (hl : S.l.length ≤ 5000) :
    Calls Try.prog 36 #[.pointer (some ⟨p, 0, none⟩), .int .i64 (k : Nat)] W
      (LnPost iV 3 W N p F { S with l := cutL S.l k } (.tuple #[.int .i64 S.l[k], .bool true])) := by
  obtain ⟨i0, hi0, hz0, hz1, hz2⟩ := info_parts li_info
  obtain ⟨v, hV⟩ := hA
  obtain ⟨a, cap, rfl, hs⟩ := hV.slice
  obtain ⟨b, off, rfl, hb, hc⟩ := hs.at k hk
  have hcell : W.cell? ⟨b, off + k, none⟩ = some (.int .i64 S.l[k]) := hc
  have c0 := hV.c0
  have hp : p < W.heap.size := (hV.low p hV.inP).2
  have j0 : (0 : Int) ≤ (k : Int) := by omega
  have j1 : (k : Int) < (S.l.length : Int) := by omega
  have hfit := hs.fit
  have hmax := hs.max
  rw [List.length_map] at hfit
  unfold maxLen at hmax
  have hkc : k ≤ cap := by omega
  have hkc1 : k + 1 ≤ cap := by omega
  have t1 : IntKind.i64.wrap ((k : Int) + 1) = (k : Int) + 1 := wrap_add (by omega)
  have t2 : ((k : Int) + 1).toNat = k + 1 := by omega
  have t3 : (0 : Int) ≤ (k : Int) + 1 := by omega
  have t4 : (k : Int) + 1 ≤ (S.l.length : Int) := by omega
  have t5 : (S.l.length : Int) ≤ (cap : Int) := by omega
  obtain ⟨A, hA⟩ : ∃ A : Addr, (if cap = k + 1 then some (⟨b, off, none⟩ : Addr) else some ⟨b, off + (k + 1), none⟩) = some A := by split <;> exact ⟨_, rfl⟩
  have hD : SlV W (some A) (cap - (k + 1)) ((S.l.drop (k + 1)).map iV) := by
    have := hs.drop (k + 1) (by rw [List.length_map]; omega)
    rw [← List.map_drop] at this
    have e : (if cap = k + 1 then some (⟨b, off, none⟩ : Addr) else (some (⟨b, off, none⟩ : Addr)).map (·.add (k + 1))) = some A := by rw [← hA]; simp [Addr.add_lit]
    rw [e] at this
    exact this
  have hT : SlV W (some ⟨b, off, none⟩) cap ((S.l.take k).map iV) := by rw [List.map_take]; exact hs.take k
  have HV := Lib.hid hV
  have HC := Lib.hid c0
  have B0 := Lib.hid (below_drew (Below.refl W.heap.size W))
  have O1 := Lib.hid (own_below (own_lit W 3 W.heap.size (Nat.le_refl _)) (drew_below _))
  have B1 := Lib.hid (below_drew ((Below.refl W.heap.size W).alloc (Nat.le_refl _) (.cells #[] 3)))
  have T1 := Lib.hid (hT.below B1.out)
  have HD := Lib.hid hD
  have c00 : W.drew.cell? ⟨p, 0, none⟩ = some (.slice (some ⟨b, off, none⟩) S.l.length cap) := c0
  have c01 : (W.alloc (.cells #[] 3)).drew.cell? ⟨p, 0, none⟩ = some (.slice (some ⟨b, off, none⟩) S.l.length cap) := cell_go c0 B1.out
  have lt1 : ((S.l.take k).map iV).length = k := by rw [List.length_map, List.length_take]; omega
  have lt2 : ((S.l.drop (k + 1)).map iV).length = S.l.length - (k + 1) := by rw [List.length_map, List.length_drop]
  have LT1 := Lib.hid lt1
  have LT2 := Lib.hid lt2
  clear hV hs hc hb hT hD lt1 lt2
  generalize S.l[k] = x at *
  go_enter Try.func36, Try.ntmps36
  go_wp2_with fail
  go_region_law (first
    | (refine step_append_own rfl (.tmp 26) (.tmp 32) 33 rfl W.heap.size 3 i0 (.int .i64 0) 1 8 Try.underlying33 hi0 hz0 hz1 hz2 rfl (by decide) _ _ _ (by first | (simp [Act.eval]; done) | (simp [Act.eval, Act.put]; done)) O1.out _ k cap ((S.l.take k).map iV) (by first | (simp [Act.eval]; done) | (simp [Act.eval, Act.put]; done)) (by rw [LT1.out]; simp) (T1.out.news _ rfl) (ones_of _ (fun _ => rfl)) (by unfold maxLen; omega) (by omega) (by simp) ?_
       intro a2 cap2 w2 hown2 hgr2 hat2
       have hb2 := B1.out.grown hgr2 (by simp) (fun k h => (O1.out.lt k h).1)
       have O2 := Lib.hid (show w2.ownsRow W.heap.size 3 1 (.slice a2 (0 + k) cap2) k ((S.l.take k).map iV) by rw [Nat.zero_add] at hown2 ⊢; exact hown2)
       have D2 := Lib.hid (HD.out.below hb2)
       have B2 := Lib.hid hb2
       have c02 : w2.cell? ⟨p, 0, none⟩ = some (.slice (some ⟨b, off, none⟩) S.l.length cap) := cell_go HC.out hb2
       clear hown2 hgr2 hat2 hb2)
    | (refine step_append_own rfl (.tmp 33) (.tmp 40) 33 rfl W.heap.size 3 i0 (.int .i64 0) 1 8 Try.underlying33 hi0 hz0 hz1 hz2 rfl (by decide) _ _ _ (by first | (simp [Act.eval]; done) | (simp [Act.eval, Act.put]; done)) O2.out _ (S.l.length - (k + 1)) (cap - (k + 1)) ((S.l.drop (k + 1)).map iV) (by first | (simp [Act.eval]; done) | (simp [Act.eval, Act.put]; done)) (by rw [LT2.out]; simp) (D2.out.news _ rfl) (ones_of _ (fun _ => rfl)) (by unfold maxLen; omega) (by omega) B2.out.size ?_
       intro a3 cap3 w3 hown3 hgr3 hat3
       have hb3 := B2.out.grown hgr3 B2.out.size (fun k h => (O2.out.lt k h).1)
       have e3 : k + (S.l.length - (k + 1)) = (cutL S.l k).length := by rw [cutL_len hk]; omega
       have hst := HV.out.renew (l := cutL S.l k) (v3 := .slice a3 (k + (S.l.length - (k + 1))) cap3) hb3 (by unfold cutL at e3 ⊢; rw [List.map_append, ← e3]; exact hown3)
       have c3 : w3.cell? ⟨p, 0, none⟩ = some _ := cell_go HC.out hb3
       have f3 : w3.frozen? ⟨p, 0, none⟩ = false := (World.frozen?_of_block (a := ⟨p, 0, none⟩) (hb3.block p hp)).trans (HV.out.fz 0)
       have R := Lib.hid hst
       clear hst hown3 hgr3 hat3 e3 hb3))
  all_goals
    go_wp2_with fail
    go_ret2
    exact R.out.1.post R.out.2.1 R.out.2.2
end

end Go.Proofs.Ytkbenpfcnhijnaa
