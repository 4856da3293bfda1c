/-
  The document's own lane: what its calls do.
-/
import Derived.Test.YtkbenpfcnhijnaaVdel
import Derived.Deep.RegionHeld3
namespace Go.Proofs.Ytkbenpfcnhijnaa
open Go.RowKit

theorem below_drew {B : Nat} {W w : World} (h : Below B W w) : Below B W w.drew := ⟨h.os, h.tape, h.output, h.size, h.block⟩

/-- What a region that reads the lane's row relies on. -/
def RS (W : World) (p : Nat) (u : Value) (w : World) : Prop := w.cell? ⟨p, 0, none⟩ = some u ∧ Hid (Below W.heap.size W w)
theorem RS.of {W w : World} {p : Nat} {u : Value} (hc : W.cell? ⟨p, 0, none⟩ = some u) (hb : Below W.heap.size W w) : RS W p u w := ⟨cell_go hc hb, hb⟩
theorem RS.alloc {W w : World} {p : Nat} {u : Value} (hc : W.cell? ⟨p, 0, none⟩ = some u) (h : RS W p u w) (o : Obj) : RS W p u (w.alloc o) := RS.of hc (h.2.alloc h.2.size o)

/-- A row of what the call itself has made is stored. -/
theorem LnV.renew {α : Type} {enc : α → Value} {e : TypeId} {W w3 : World} {N p : Nat} {F : Nat → Prop} {S : St α} {v v3 : Value} {l : List α} (h : LnV enc e W N p F S v) (hb : Below W.heap.size W w3) (hown : w3.ownsRow W.heap.size e 1 v3 l.length (l.map enc)) :
    LnV enc e (w3.setCell ⟨p, 0, none⟩ v3) N p (fun k => F k ∨ v3.ownBlock = some k) { S with l := l } v3 ∧ Keep F W (w3.setCell ⟨p, 0, none⟩ v3) ∧ ∀ k, F k ∨ v3.ownBlock = some k → F k ∨ W.heap.size ≤ k := by
  have hp := (h.low p h.inP).2
  have hN := (h.low p h.inP).1
  refine ⟨h.put hb.size (hb.block p hp) (own_mono hown (by omega)) (fun k hk => Or.inr (hown.lt k hk).1), (Keep.ofBelow hb).setCell (p := ⟨p, 0, none⟩) h.inP _, fun k f => f.imp id (fun e => (hown.lt k e).1)⟩

theorem own_lit (w : World) (e : TypeId) (B : Nat) (hB : B ≤ w.heap.size) : (w.alloc (.cells #[] e)).ownsRow B e 1 (.slice (some ⟨w.heap.size, 0, none⟩) 0 0) 0 [] :=
  World.ownsRow_lit (base := B) (e := e) (size := 1) w #[] 0 hB (by unfold maxLen; omega) rfl

section
variable {W : World} {N p : Nat} {F : Nat → Prop} {S : St Int}

set_option maxRecDepth 20000 in
theorem lr_send_no {x : Int} (hA : LnAt iV 3 W N p F S) (h : decide (S.l.length < 4096) = false) :
    Calls Try.prog 17 #[.pointer (some ⟨p, 0, none⟩), .int .i64 x] W fun e w' => e = .returned (.bool false) ∧ w' = W := by
  have hl := of_decide_eq_false h
  obtain ⟨v, hV⟩ := hA
  obtain ⟨a, cap, rfl, _⟩ := hV.slice
  have c0 := hV.c0
  have hl2 : 4096 ≤ S.l.length := by omega
  clear hV h hl
  go_enter Try.func17, Try.ntmps17
  go_wp2_with fail
  go_ret
  exact ⟨rfl, rfl⟩

set_option maxRecDepth 20000 in
theorem lr_send_ok {x : Int} (hA : LnAt iV 3 W N p F S) (h : decide (S.l.length < 4096) = true) (hn : S.s ≤ 5000) :
    Calls Try.prog 17 #[.pointer (some ⟨p, 0, none⟩), .int .i64 x] W
      (LnPost iV 3 W N p F ⟨S.l ++ [x], S.s + 1, S.t, S.d, S.m⟩ (.bool true)) := by
  have hl := of_decide_eq_true h
  obtain ⟨i0, hi0, hz0, hz1, hz2⟩ := info_parts li_info
  obtain ⟨v, hV⟩ := hA
  obtain ⟨a, cap, rfl, hs⟩ := hV.slice
  have c0 := hV.c0
  have hp : p < W.heap.size := (hV.low p hV.inP).2
  have HV := Lib.hid hV
  have hb1 : Below W.heap.size W (W.alloc (.cells #[] 3)) := (Below.refl _ _).alloc (Nat.le_refl _) _
  have O1 := Lib.hid (own_lit W 3 W.heap.size (Nat.le_refl _))
  have S1 := Lib.hid (hs.below hb1)
  have B1 := Lib.hid hb1
  clear h hV hs hb1
  go_enter Try.func17, Try.ntmps17
  go_wp2_with (at_builtin; first
    | (refine wpList_append_at rfl (.tmp 12) (.tmp 16) 33 rfl W.heap.size 3 i0 (.int .i64 0) 1 8 Try.underlying33 hi0 hz0 hz1 hz2 rfl (by decide) _ _ _ rfl O1.out _ _ _ (S.l.map iV) rfl (by simp) (fun e => by have := S1.out.empty e; simpa using this) S1.out.news (ones_of _ (fun _ => rfl)) (by unfold maxLen; omega) (by omega) (by simp) ?_
       intro v2 w2 hown2 hgr2 hat2
       rw [Nat.zero_add, List.nil_append] at hown2
       have hb2 := B1.out.grown hgr2 (by simp) (fun k h => (O1.out.lt k h).1)
       have hsz := hb2.size
       have hb3 := hb2.alloc hb2.size (.cells #[.int .i64 x] 3)
       have O2 := Lib.hid (own_below hown2 (((Below.refl _ w2).alloc (Nat.le_refl _) (.cells #[.int .i64 x] 3))))
       have L2 := Lib.hid (slv_lit w2 [.int .i64 x] #[.int .i64 x] 3 1 rfl rfl (by decide))
       have B2 := Lib.hid hb3
       clear hown2 hgr2 hb2 hat2 hb3)
    | (refine wpList_append_at rfl (.tmp 17) (.tmp 19) 33 rfl W.heap.size 3 i0 (.int .i64 0) 1 8 Try.underlying33 hi0 hz0 hz1 hz2 rfl (by decide) _ _ _ rfl O2.out _ _ _ [.int .i64 x] rfl (by simp) (fun e => by cases e) L2.out.news (by simp [Value.oneCell']) (by unfold maxLen; omega) (by omega) B2.out.size ?_
       intro v3 w3 hown3 hgr3 hat3
       obtain ⟨a3, cap3, rfl⟩ := own_form hown3
       have hb4 := B2.out.grown hgr3 B2.out.size (fun k h => (O2.out.lt k h).1)
       have hst := HV.out.renew (l := S.l ++ [x]) hb4 (by rw [List.map_append, List.length_append]; exact hown3)
       have c2 : w3.cell? ⟨p, 0, none⟩ = some _ := cell_go c0 hb4
       have f2 : w3.frozen? ⟨p, 0, none⟩ = false := (World.frozen?_of_block (a := ⟨p, 0, none⟩) (hb4.block p hp)).trans (HV.out.fz 0)
       have c3 : (w3.setCell ⟨p, 0, none⟩ (.slice a3 (S.l.length + 1) cap3)).cell? ⟨p, 1, none⟩ = some (.int .i64 (S.s : Int)) := hst.1.c1
       have f3 := hst.1.fz 1
       have R := Lib.hid hst
       clear hst hown3 hgr3 hb4 hat3))
  go_ret
  exact (R.out.1.bump_s).post (R.out.2.1.setCell (p := ⟨p, 1, none⟩) HV.out.inP _) R.out.2.2
end

end Go.Proofs.Ytkbenpfcnhijnaa
