/-
  One post above N; all below N as it was.
-/
import Derived.Test.YtedfiejocajpkaaYpo
namespace Go.Proofs.Ytedfiejocajpkaa
open Go.RowKit

def PoOn {α : Type} (enc : α → Value) (W : World) (N p n room : Nat) (B : Nat → List α) (w : World) : Prop := ∃ F, PoAt enc w N p F n room B ∧ Below N W w
section
variable {α : Type} {enc : α → Value} {W w w' : World} {N p n room : Nat} {F : Nat → Prop} {B B1 : Nat → List α} {r : Value} {E : Ending}
theorem OPost.on (h : OPost (fun w F => PoAt enc w N p F n room B1) w F r E w') (hA : PoAt enc w N p F n room B) (hb : Below N W w) : E = .returned r ∧ PoOn enc W N p n room B1 w' := by
  obtain ⟨he, F2, hA2, hk, _⟩ := h
  exact ⟨he, F2, hA2, hb.trans (hk.below hA.size.1 (fun k f => (hA.size.2.2 k f).1))⟩
theorem PoOn.below (h : PoOn enc W N p n room B w) (hb : Below w.heap.size w w') : PoOn enc W N p n room B w' := by
  obtain ⟨F, hA, hB⟩ := h
  exact ⟨F, hA.below hb, hB.trans (hb.mono hA.size.1)⟩
theorem PoOn.drew (h : PoOn enc W N p n room B w) : PoOn enc W N p n room B w.drew := h.below (drew_below w)
theorem PoOn.drewN (h : PoOn enc W N p n room B w) (q : Nat) : PoOn enc W N p n room B (w.drewN q) := h.below ⟨rfl, rfl, rfl, Nat.le_refl _, fun _ _ => rfl⟩
theorem PoOn.be (h : PoOn enc W N p n room B w) : Below N W w := h.elim fun _ h => h.2
theorem PoOn.nn (h : PoOn enc W N p n room B w) : 0 < n ∧ n ≤ 16 ∧ 0 < room ∧ room ≤ 64 := h.elim fun _ h => h.1.nn
end

end Go.Proofs.Ytedfiejocajpkaa
