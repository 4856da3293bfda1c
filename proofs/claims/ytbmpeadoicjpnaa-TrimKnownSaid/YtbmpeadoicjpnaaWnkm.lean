import Derived.Test.YtbmpeadoicjpnaaProg
import Derived.Deep.RegionHeld3

/-
  A long drawn region's ways meet at necks.
-/
namespace Go.Proofs.Ytbmpeadoicjpnaa

theorem neck2 {S : World → Prop} {R : Prop} {G : Value → Value → World → Prop} (use : (∀ a b w, S w → G a b w) → R) (pf : ∀ a b w, S w → G a b w) : R := use pf
section
variable {P : Program} {md : Region.Mode} {ops : Array Oper} {Q : Exit → Act → World → Prop} {S : World → Prop} {n : Nat} {l l' : Array Bool} {a : Act} {w : World}
theorem gen1 (k : Nat) (h : a.put (some k) (a.tmps.getD k undef) = a) (g : ∀ v, wpAnyH P md ops Q S n l (a.put (some k) v) w) : wpAnyH P md ops Q S n l a w := by
  have := g (a.tmps.getD k undef)
  rwa [h] at this
theorem listed_to (h : l = l') (g : wpAnyH P md ops Q S n l' a w) : wpAnyH P md ops Q S n l a w := h ▸ g
theorem genw (h : S w) (g : ∀ u, S u → wpAnyH P md ops Q S n l a u) : wpAnyH P md ops Q S n l a w := g w h
end

end Go.Proofs.Ytbmpeadoicjpnaa
