/-
  The document's own lane: one is doubled.
-/
import Derived.Test.YtkbenpfcnhijnaaVrout
namespace Go.Proofs.Ytkbenpfcnhijnaa
open Go.RowKit

/-- A slice that lies in none of the rows that grew. -/
theorem SlV.grown {w w' : World} {b off cap : Nat} {vs : List Value} {row : Option Nat} (h : SlV w (some ⟨b, off, Option.none⟩) cap vs) (hg : w.grownBy w' row) (hb : row ≠ some b) : SlV w' (some ⟨b, off, Option.none⟩) cap vs :=
  h.carry hg.size (fun ad e _ hl => by cases e; exact hg.block b hl (fun e => hb e.symm))

section
variable {W : World} {N p : Nat} {F : Nat → Prop} {S : St Int}

theorem lr_double_none {k : Int} (hA : LnAt iV 3 W N p F S) (hk : hasZ S.l.length k = false) :
    Calls Try.prog 20 #[.pointer (some ⟨p, 0, none⟩), .int .i64 k] W fun e w' => e = .returned (.bool false) ∧ w' = W := by
  have h := of_decide_eq_false hk
  obtain ⟨v, hV⟩ := hA
  obtain ⟨a, cap, rfl, _⟩ := hV.slice
  have c0 := hV.c0
  clear hV hk
  by_cases h0 : 0 ≤ k
  · have h1 : (S.l.length : Int) ≤ k := by omega
    clear h
    go_enter Try.func20, Try.ntmps20
    go_wp2_with fail
    go_ret
    exact ⟨rfl, rfl⟩
  · clear h
    go_enter Try.func20, Try.ntmps20
    go_wp2_with fail
    go_ret
    exact ⟨rfl, rfl⟩

set_option maxRecDepth 20000 in
theorem lr_double_full {k : Int} (hA : LnAt iV 3 W N p F S) (hk : hasZ S.l.length k = true) (h : decide (S.l.length < 4096) = false) :
    Calls Try.prog 20 #[.pointer (some ⟨p, 0, none⟩), .int .i64 k] W fun e w' => e = .returned (.bool false) ∧ w' = W := by
  have h1 := of_decide_eq_true hk
  have h2 := of_decide_eq_false h
  obtain ⟨v, hV⟩ := hA
  obtain ⟨a, cap, rfl, _⟩ := hV.slice
  have c0 := hV.c0
  have j0 := h1.1
  have j1 := h1.2
  have j2 : 4096 ≤ S.l.length := by omega
  clear hV hk h h1 h2
  go_enter Try.func20, Try.ntmps20
  go_wp2_with fail
  go_ret
  exact ⟨rfl, rfl⟩

set_option maxRecDepth 20000 in
set_option maxHeartbeats 4000000 in
theorem lr_double_ok {k : Nat} (hA : LnAt iV 3 W N p F S) (hk : k < S.l.length) (h : decide (S.l.length < 4096) = true) (hn : S.m ≤ 5000) :
    Calls Try.prog 20 #[.pointer (some ⟨p, 0, none⟩), .int .i64 (k : Nat)] W
      (LnPost iV 3 W N p F { S with l := S.l ++ [S.l[k]], m := S.m + 1 } (.bool true)) := by
  have hl := of_decide_eq_true h
  obtain ⟨i0, hi0, hz0, hz1, hz2⟩ := info_parts li_info
  obtain ⟨v, hV⟩ := hA
  obtain ⟨a, cap, rfl, hs⟩ := hV.slice
  obtain ⟨b, off, rfl, hb, hc⟩ := hs.at k hk
  have hcell : W.cell? ⟨b, off + k, none⟩ = some (.int .i64 S.l[k]) := hc
  have c0 := hV.c0
  have hp : p < W.heap.size := (hV.low p hV.inP).2
  have j0 : (0 : Int) ≤ (k : Int) := by omega
  have j1 : (k : Int) < (S.l.length : Int) := by omega
  generalize S.l[k] = x at *
  have HV := Lib.hid hV
  have HC := Lib.hid c0
  have HX := Lib.hid hcell
  have bE := (Below.refl W.heap.size W).alloc (Nat.le_refl _) (.cells #[] 3)
  have bX := (Below.refl W.heap.size W).alloc (Nat.le_refl _) (.cells #[.int .i64 x] 3)
  have bEX := bE.alloc bE.size (.cells #[.int .i64 x] 3)
  have bXE := bX.alloc bX.size (.cells #[] 3)
  have c00 : W.drew.cell? ⟨p, 0, none⟩ = _ := c0
  have c01 : (W.alloc (.cells #[] 3)).drew.cell? ⟨p, 0, none⟩ = _ := cell_go c0 (below_drew bE)
  have c02 : (W.alloc (.cells #[.int .i64 x] 3)).drew.cell? ⟨p, 0, none⟩ = _ := cell_go c0 (below_drew bX)
  have c03 : ((W.alloc (.cells #[.int .i64 x] 3)).alloc (.cells #[] 3)).drew.cell? ⟨p, 0, none⟩ = _ := cell_go c0 (below_drew bXE)
  have x00 : W.drew.cell? ⟨b, off + k, none⟩ = _ := hcell
  have x01 : (W.alloc (.cells #[] 3)).drew.cell? ⟨b, off + k, none⟩ = _ := cell_go hcell (below_drew bE)
  have BE := Lib.hid (below_drew bE)
  have BEX := Lib.hid (below_drew bEX)
  have BXE := Lib.hid (below_drew bXE)
  have OE := Lib.hid (own_below (own_lit W 3 W.heap.size (Nat.le_refl _)) (drew_below _))
  have OEX := Lib.hid (own_below (own_lit W 3 W.heap.size (Nat.le_refl _)) (below_drew ((Below.refl _ _).alloc (Nat.le_refl _) (.cells #[.int .i64 x] 3))))
  have OXE := Lib.hid (show ((W.alloc (.cells #[.int .i64 x] 3)).alloc (.cells #[] 3)).drew.ownsRow W.heap.size 3 1 (.slice (some ⟨W.heap.size + 1, 0, none⟩) 0 0) 0 [] by
    have := own_below (own_lit (W.alloc (.cells #[.int .i64 x] 3)) 3 W.heap.size bX.size) (drew_below _)
    rwa [show (W.alloc (.cells #[.int .i64 x] 3)).heap.size = W.heap.size + 1 by simp] at this)
  have LEX := Lib.hid (show SlV ((W.alloc (.cells #[] 3)).alloc (.cells #[.int .i64 x] 3)).drew (some ⟨W.heap.size + 1, 0, none⟩) 1 [.int .i64 x] by
    have := (slv_lit (W.alloc (.cells #[] 3)) [.int .i64 x] #[.int .i64 x] 3 1 rfl rfl (by decide)).below (drew_below _)
    rwa [show (W.alloc (.cells #[] 3)).heap.size = W.heap.size + 1 by simp] at this)
  have LXE := Lib.hid ((slv_lit W [.int .i64 x] #[.int .i64 x] 3 1 rfl rfl (by decide)).below (below_drew ((Below.refl _ _).alloc (Nat.le_refl _) (.cells #[] 3))))
  have HS := Lib.hid hs
  have LM := Lib.hid (S.l.length_map (f := iV))
  clear hV hs hc hb h bE bX bEX bXE hcell
  go_enter Try.func20, Try.ntmps20
  go_wp2_with fail
  go_region_law (first
    | (refine step_append_own rfl (.tmp 25) (.tmp 29) 33 rfl W.heap.size 3 i0 (.int .i64 0) 1 8 Try.underlying33 hi0 hz0 hz1 hz2 rfl (by decide) _ _ _ (by first | (simp [Act.eval]; done) | (simp [Act.eval, Act.put]; done)) OE.out _ S.l.length cap (S.l.map iV) (by first | (simp [Act.eval]; done) | (simp [Act.eval, Act.put]; done)) (by rw [LM.out]; simp) ((HS.out.below BE.out).news _ rfl) (ones_of _ (fun _ => rfl)) (by unfold maxLen; omega) (by omega) BE.out.size ?_
       intro a2 cap2 w2 hown2 hgr2 hat2
       have hb2 := BE.out.grown hgr2 BE.out.size (fun k h => (OE.out.lt k h).1)
       have hb3 := hb2.alloc hb2.size (.cells #[.int .i64 x] 3)
       have O2 := Lib.hid (show (w2.alloc (.cells #[.int .i64 x] 3)).ownsRow W.heap.size 3 1 (.slice a2 (0 + S.l.length) cap2) S.l.length (S.l.map iV) by rw [Nat.zero_add] at hown2 ⊢; exact own_below hown2 ((Below.refl _ _).alloc (Nat.le_refl _) _))
       have L2 := Lib.hid (slv_lit w2 [.int .i64 x] #[.int .i64 x] 3 1 rfl rfl (by decide))
       have B2 := Lib.hid hb3
       have c04 : w2.cell? ⟨p, 0, none⟩ = _ := cell_go HC.out hb2
       have x04 : w2.cell? ⟨b, off + k, none⟩ = _ := cell_go HX.out hb2
       clear hown2 hgr2 hat2 hb2 hb3)
    | (refine step_append_own rfl (.tmp 25) (.tmp 29) 33 rfl W.heap.size 3 i0 (.int .i64 0) 1 8 Try.underlying33 hi0 hz0 hz1 hz2 rfl (by decide) _ _ _ (by first | (simp [Act.eval]; done) | (simp [Act.eval, Act.put]; done)) OEX.out _ S.l.length cap (S.l.map iV) (by first | (simp [Act.eval]; done) | (simp [Act.eval, Act.put]; done)) (by rw [LM.out]; simp) ((HS.out.below BEX.out).news _ rfl) (ones_of _ (fun _ => rfl)) (by unfold maxLen; omega) (by omega) BEX.out.size ?_
       intro a2 cap2 w2 hown2 hgr2 hat2
       have hb2 := BEX.out.grown hgr2 BEX.out.size (fun k h => (OEX.out.lt k h).1)
       have O2 := Lib.hid (show w2.ownsRow W.heap.size 3 1 (.slice a2 (0 + S.l.length) cap2) S.l.length (S.l.map iV) by rw [Nat.zero_add] at hown2 ⊢; exact hown2)
       have L2 := Lib.hid (LEX.out.grown hgr2 (by simp [Value.ownBlock]))
       have B2 := Lib.hid hb2
       clear hown2 hgr2 hat2 hb2)
    | (refine step_append_own rfl (.tmp 25) (.tmp 29) 33 rfl W.heap.size 3 i0 (.int .i64 0) 1 8 Try.underlying33 hi0 hz0 hz1 hz2 rfl (by decide) _ _ _ (by first | (simp [Act.eval]; done) | (simp [Act.eval, Act.put]; done)) OXE.out _ S.l.length cap (S.l.map iV) (by first | (simp [Act.eval]; done) | (simp [Act.eval, Act.put]; done)) (by rw [LM.out]; simp) ((HS.out.below BXE.out).news _ rfl) (ones_of _ (fun _ => rfl)) (by unfold maxLen; omega) (by omega) BXE.out.size ?_
       intro a2 cap2 w2 hown2 hgr2 hat2
       have hb2 := BXE.out.grown hgr2 BXE.out.size (fun k h => (OXE.out.lt k h).1)
       have O2 := Lib.hid (show w2.ownsRow W.heap.size 3 1 (.slice a2 (0 + S.l.length) cap2) S.l.length (S.l.map iV) by rw [Nat.zero_add] at hown2 ⊢; exact hown2)
       have L2 := Lib.hid (LXE.out.grown hgr2 (by simp [Value.ownBlock]))
       have B2 := Lib.hid hb2
       clear hown2 hgr2 hat2 hb2)
    | (refine step_append_own rfl (.tmp 30) (.tmp 38) 33 rfl W.heap.size 3 i0 (.int .i64 0) 1 8 Try.underlying33 hi0 hz0 hz1 hz2 rfl (by decide) _ _ _ (by first | (simp [Act.eval]; done) | (simp [Act.eval, Act.put]; done)) O2.out _ 1 1 [.int .i64 x] (by first | (simp [Act.eval]; done) | (simp [Act.eval, Act.put]; done)) (by simp) (L2.out.news _ rfl) (by simp [Value.oneCell']) (by unfold maxLen; omega) (by omega) B2.out.size ?_
       intro a3 cap3 w3 hown3 hgr3 hat3
       have hb3 := B2.out.grown hgr3 B2.out.size (fun k h => (O2.out.lt k h).1)
       have hst := HV.out.renew (l := S.l ++ [x]) (v3 := .slice a3 (S.l.length + 1) cap3) hb3 (by rw [List.map_append, List.length_append]; exact hown3)
       have c3 : w3.cell? ⟨p, 0, none⟩ = some _ := cell_go HC.out hb3
       have f3 : w3.frozen? ⟨p, 0, none⟩ = false := (World.frozen?_of_block (a := ⟨p, 0, none⟩) (hb3.block p hp)).trans (HV.out.fz 0)
       have c4 : (w3.setCell ⟨p, 0, none⟩ (.slice a3 (S.l.length + 1) cap3)).cell? ⟨p, 4, none⟩ = some (.int .i64 (S.m : Int)) := hst.1.c4
       have f4 := hst.1.fz 4
       have R := Lib.hid hst
       clear hst hown3 hgr3 hat3 hb3))
  all_goals
    go_wp2_with fail
    go_ret
    exact (R.out.1.bump_m).post (R.out.2.1.setCell (p := ⟨p, 4, none⟩) HV.out.inP _) R.out.2.2

theorem lr_double {k : Int} (hA : LnAt iV 3 W N p F S) (hn : S.m ≤ 5000) :
    Calls Try.prog 20 #[.pointer (some ⟨p, 0, none⟩), .int .i64 k] W
      (LnPost iV 3 W N p F (S.double 0 k) (.bool (S.can k))) := by
  cases h : hasZ S.l.length k with
  | false =>
    have e0 : S.can k = false := by unfold St.can; rw [h]; rfl
    have e1 : S.double 0 k = S := by unfold St.double; rw [e0]; rfl
    rw [e1, e0]
    refine (lr_double_none hA h).mono ?_
    rintro e w' ⟨rfl, rfl⟩
    exact ⟨rfl, F, hA, Keep.refl _ _, fun _ f => Or.inl f⟩
  | true =>
    cases h2 : decide (S.l.length < 4096) with
    | false =>
      have e0 : S.can k = false := by unfold St.can; rw [h, h2]; rfl
      have e1 : S.double 0 k = S := by unfold St.double; rw [e0]; rfl
      rw [e1, e0]
      refine (lr_double_full hA h h2).mono ?_
      rintro e w' ⟨rfl, rfl⟩
      exact ⟨rfl, F, hA, Keep.refl _ _, fun _ f => Or.inl f⟩
    | true =>
      have e0 : S.can k = true := by unfold St.can; rw [h, h2]; rfl
      obtain ⟨j, rfl, hj⟩ := hasZ_nat h
      have e1 : S.double 0 (j : Int) = { S with l := S.l ++ [S.l[j]], m := S.m + 1 } := by unfold St.double; rw [e0, got_nat hj]; rfl
      rw [e1, e0]
      exact lr_double_ok hA hj h2 hn
end

end Go.Proofs.Ytkbenpfcnhijnaa
