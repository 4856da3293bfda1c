/-
  Two alarms side by side: the program's and the document's own.
-/
import Derived.Test.YtkokfebjobokhaaKaw
import Derived.Test.YtkokfebjobokhaaKpr
namespace Go.Proofs.Ytkokfebjobokhaa
open Go.RowKit

/-- Apart, both made by the call; all below N as it was. -/
structure Pair (W : World) (N p r : Nat) (S T : Pa) (w : World) : Prop where
  pa : PaAt w p S
  pr : PrAt w r T
  ne : p ≠ r
  lp : N ≤ p
  lr : N ≤ r
  be : Below N W w

section
variable {W w w' : World} {N p r n : Nat} {S T S2 T2 : Pa} {R : Value} {e : Ending} {f : FuncId} {args : Array Value}
theorem Pair.low (h : Pair W N p r S T w) : N ≤ w.heap.size := Nat.le_trans h.lp (Nat.le_of_lt h.pa.lt)
theorem Pair.below (h : Pair W N p r S T w) (hb : Below w.heap.size w w') : Pair W N p r S T w' :=
  ⟨h.pa.below hb, h.pr.below hb, h.ne, h.lp, h.lr, h.be.trans (hb.mono h.low)⟩
theorem Pair.drewN (h : Pair W N p r S T w) (q : Nat) : Pair W N p r S T (w.drewN q) := h.below ⟨rfl, rfl, rfl, Nat.le_refl _, fun _ _ => rfl⟩
theorem pair_left (h : Pair W N p r S T w) (hc : Calls Try.prog f args w (PaPost S2 w p R)) : Calls Try.prog f args w fun e w' => e = .returned R ∧ Pair W N p r S2 T w' :=
  hc.mono fun _ _ ⟨he, hA, hK⟩ => ⟨he, hA, h.pr.keep hK (fun e => h.ne e.symm), h.ne, h.lp, h.lr, h.be.trans (hK.below h.low (fun _ e => e ▸ h.lp))⟩
theorem pair_right (h : Pair W N p r S T w) (hc : Calls Try.prog f args w (PrPost T2 w r R)) : Calls Try.prog f args w fun e w' => e = .returned R ∧ Pair W N p r S T2 w' :=
  hc.mono fun _ _ ⟨he, hA, hK⟩ => ⟨he, h.pa.keep hK (fun e => h.ne e), hA, h.ne, h.lp, h.lr, h.be.trans (hK.below h.low (fun _ e => e ▸ h.lr))⟩
theorem Pair.of (h : PaOn W N p S w) (hr : PrNew T w e w') : e = .returned (.pointer (some ⟨w.heap.size, 0, none⟩)) ∧ Pair W N p w.heap.size S T w' := by
  obtain ⟨he, hA, hB, _⟩ := hr
  have := h.at'.lt
  have := h.low
  exact ⟨he, h.at'.below hB, hA, by omega, h.low, by omega, h.be.trans (hB.mono (by omega))⟩
end

end Go.Proofs.Ytkokfebjobokhaa
