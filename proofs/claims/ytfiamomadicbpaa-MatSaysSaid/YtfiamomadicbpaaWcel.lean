/-
  A block of so many cells that nothing else holds.
-/
import Derived.Test.YtfiamomadicbpaaWkp
namespace Go.Proofs.Ytfiamomadicbpaa
open Go.RowKit

def updc (V : Nat → Value) (o : Nat) (v : Value) : Nat → Value := fun x => if x = o then v else V x
/-- A block of n cells that nothing else holds. -/
structure Cel (n : Nat) (w : World) (B : Nat) (V : Nat → Value) : Prop where
  c : ∀ o, o < n → w.cell? ⟨B, o, none⟩ = some (V o)
  fz : ∀ o, w.frozen? ⟨B, o, none⟩ = false
  lt : B < w.heap.size
theorem Cel.keep {n : Nat} {w w' : World} {B : Nat} {V : Nat → Value} {F : Nat → Prop} (h : Cel n w B V) (hk : Keep F w w') (hF : ¬ F B) : Cel n w' B V :=
  ⟨fun o ho => (hk.cell (p := ⟨B, o, none⟩) h.lt hF).trans (h.c o ho), fun o => (hk.frozen (p := ⟨B, o, none⟩) h.lt hF).trans (h.fz o), Nat.lt_of_lt_of_le h.lt hk.size⟩
theorem Cel.below {n : Nat} {w w' : World} {B : Nat} {V : Nat → Value} (h : Cel n w B V) (hb : Below w.heap.size w w') : Cel n w' B V := h.keep (F := fun _ => False) (Keep.ofBelow hb) id
theorem Cel.put {n : Nat} {w : World} {B : Nat} {V : Nat → Value} (h : Cel n w B V) (o : Nat) (v : Value) : Cel n (w.setCell ⟨B, o, none⟩ v) B (updc V o v) := by
  refine ⟨fun x hx => ?_, fun x => (World.frozen?_setCell ..).trans (h.fz x), by simpa [World.setCell] using h.lt⟩
  unfold updc
  by_cases e : x = o
  · subst e
    rw [if_pos rfl]
    exact World.cell?_setCell_same w _ _ (h.c x hx)
  · rw [if_neg e]
    exact (World.cell?_setCell_other w _ _ v (fun e' => by cases e'; exact e rfl)).trans (h.c x hx)

theorem Cel.conv {n : Nat} {w : World} {B : Nat} {V V2 : Nat → Value} (h : Cel n w B V) (hv : ∀ o, o < n → V o = V2 o) : Cel n w B V2 :=
  ⟨fun o ho => by rw [h.c o ho, hv o ho], h.fz, h.lt⟩
theorem Cel.drewN {n : Nat} {w : World} {B : Nat} {V : Nat → Value} (h : Cel n w B V) (q : Nat) : Cel n (w.drewN q) B V := h.below ⟨rfl, rfl, rfl, Nat.le_refl _, fun _ _ => rfl⟩
theorem Cel.drew {n : Nat} {w : World} {B : Nat} {V : Nat → Value} (h : Cel n w B V) : Cel n w.drew B V := h.below (drew_below w)
/-- A new block. -/
theorem Cel.new (W : World) (vs : List Value) (t : TypeId) : Cel vs.length (W.alloc (.cells vs.toArray t)) W.heap.size (fun o => vs.getD o (.int .i64 0)) := by
  refine ⟨fun o ho => ?_, by simp, by simp⟩
  simp [ho]

/-- What a call on such a block leaves: its result, the block as it then is; all else as it was. -/
def CelPost (n : Nat) (V : Nat → Value) (W : World) (p : Nat) (r : Value) (e : Ending) (w : World) : Prop := e = .returned r ∧ Cel n w p V ∧ Keep (fun k => k = p) W w
theorem Keep.put {p : Nat} {a b : World} (h : Keep (fun k => k = p) a b) (i : Nat) (u : Value) : Keep (fun k => k = p) a (b.setCell ⟨p, i, none⟩ u) := h.setCell (p := ⟨p, i, none⟩) rfl u

end Go.Proofs.Ytfiamomadicbpaa
