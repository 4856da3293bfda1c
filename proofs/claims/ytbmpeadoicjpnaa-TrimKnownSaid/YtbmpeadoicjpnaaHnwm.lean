import Derived.Test.YtbmpeadoicjpnaaMaa
import Derived.Deep.QuietTactic
import Derived.Sort.Grow

/-
  Regions that draw their order, whose callees may make memory of their own: walked once, in the order of the text.
-/
namespace Go.Proofs.Ytbmpeadoicjpnaa
open Go.RowKit Go.Sort

theorem below_grow (w : World) (q : Nat) (os : Array Obj) : Below w.heap.size w (grow (w.drewN q) os) :=
  ⟨rfl, rfl, rfl, by rw [size_grow]; exact Nat.le_add_right _ _, fun j hj => by
    show (w.heap ++ os)[j]? = w.heap[j]?
    exact Array.getElem?_append_left hj⟩

/-- A world that has all that w has, as it was. -/
structure NewBy (w : World) where
  now : World
  b : Below w.heap.size w now
instance (w : World) : Inhabited (NewBy w) := ⟨⟨w, Below.refl _ _⟩⟩
theorem NewBy.cell {w : World} {a : Addr} {v : Value} (p : NewBy w) (h : w.cell? a = some v) : p.now.cell? a = some v := cell_go h p.b
theorem new_cell {w : World} {a : Addr} {v : Value} (h : w.cell? a = some v) : ∀ p : NewBy w, p.now.cell? a = some v := fun p => p.cell h

theorem wp_region_new {P : Program} {id : Nat} {Q : Exit → Act → World → Prop} {a : Act} {w : World} {l : List Oper} (hm : P.follows .mixedOrders = true) (hB : Region.lexB .any l.toArray = true)
    (h : wpQuiet P l.toArray (fun w' => ∃ p : NewBy w, w' = p.now) (fun a' => ∀ w', (∃ p : NewBy w, w' = p.now) → Q .normal a' w') l a) : (Code.region id l.toArray true).wp P Q a w :=
  wp_region_quiet (C := fun w' => ∃ p : NewBy w, w' = p.now) hm hB ⟨⟨w.drew, drew_below w⟩, rfl⟩ (by simpa using h)

theorem if_no {c : Prop} [Decidable c] {p q : Prop} (hc : ¬ c) (hq : q) : if c then p else q := by rw [if_neg hc]; exact hq

/-- A callee's contract, met in a world of the class. -/
theorem new_of {P : Program} {f : FuncId} {args : Array Value} {w : World} {p : NewBy w} {v : Value}
    (h : Calls P f args p.now fun e w' => e = .returned v ∧ Below p.now.heap.size p.now w') : Calls P f args p.now fun e w'' => e = .returned v ∧ ∃ q : NewBy w, w'' = q.now :=
  h.mono fun _ w' ⟨he, hb⟩ => ⟨he, ⟨w', p.b.trans (hb.mono p.b.size)⟩, rfl⟩
theorem new_same {P : Program} {f : FuncId} {args : Array Value} {w : World} {p : NewBy w} {v : Value}
    (h : Calls P f args p.now fun e w' => e = .returned v ∧ p.now = w') : Calls P f args p.now fun e w'' => e = .returned v ∧ ∃ q : NewBy w, w'' = q.now :=
  h.mono fun _ _ ⟨he, hb⟩ => ⟨he, p, hb.symm⟩
theorem new_grown {P : Program} {f : FuncId} {args : Array Value} {w : World} {p : NewBy w} {v : Value}
    (h : Calls P f args p.now fun e w' => e = .returned v ∧ ∃ q os, w' = grow (p.now.drewN q) os) : Calls P f args p.now fun e w'' => e = .returned v ∧ ∃ q : NewBy w, w'' = q.now :=
  new_of (h.mono fun _ _ ⟨he, q, os, hb⟩ => ⟨he, by rw [hb]; exact below_grow _ _ _⟩)

end Go.Proofs.Ytbmpeadoicjpnaa
