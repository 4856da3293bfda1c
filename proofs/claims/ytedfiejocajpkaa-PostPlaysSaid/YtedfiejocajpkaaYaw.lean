/-
  What the statements look at first.
-/
import Derived.Test.YtedfiejocajpkaaYon
namespace Go.Proofs.Ytedfiejocajpkaa
open Go.RowKit

/-- True, and all below as it was. -/
def PoOk (W : World) (E : Ending) (w' : World) : Prop := E = .returned (.bool true) ∧ Below W.heap.size W w'

theorem no_boxes {α : Type} : ∀ j, j < 0 → (fun _ : Nat => ([] : List α)) j = [] := fun _ _ => rfl

set_option maxRecDepth 20000 in
set_option maxHeartbeats 2000000 in
theorem po_awake (W : World) : Calls Try.prog 7 #[] W (PoOk W) := by
  go_enter Try.func7, Try.ntmps7
  go_wp2_with fail
  refine (pi_on_new 3 2 (Below.refl W.heap.size W) (Nat.le_refl _) (by decide) (by decide)).mono ?_
  rintro e w1 ⟨p, rfl, h1⟩
  have L1 := Lib.hid h1
  clear h1
  go_wp2_with fail
  refine (pi_on_put (k := 1) (x := 7) (r := true) L1.out (by decide)).mono ?_
  rintro e w2 ⟨rfl, h2⟩
  have L2 := Lib.hid h2
  clear h2
  go_wp2_with fail
  refine (pi_on_any (m := 1) (k := 1) (x := 7) (r := true) L2.out (by decide) (by decide) (by decide) rfl (by decide) (by decide)).mono ?_
  rintro e w3 ⟨rfl, h3⟩
  have L3 := Lib.hid h3
  clear h3
  go_wp2_with fail
  refine (pi_on_len (k := 1) (z := 0) L3.out (by decide)).mono ?_
  rintro e w4 ⟨rfl, rfl⟩
  go_wp2_with fail
  go_ret
  exact ⟨rfl, L3.out.be⟩

end Go.Proofs.Ytedfiejocajpkaa
