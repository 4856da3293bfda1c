/-
  What the statements look at first.
-/
import Derived.Test.YtkbenpfcnhijnaaVon
import Derived.Test.YtkbenpfcnhijnaaVint
namespace Go.Proofs.Ytkbenpfcnhijnaa
open Go.RowKit

/-- True, and all below as it was. -/
def LnOk (W : World) (E : Ending) (w' : World) : Prop := E = .returned (.bool true) ∧ Below W.heap.size W w'

set_option maxRecDepth 20000 in
set_option maxHeartbeats 2000000 in
theorem ln_awake (W : World) : Calls Try.prog 8 #[] W (LnOk W) := by
  go_enter Try.func8, Try.ntmps8
  go_wp2_with fail
  refine (li_on_new (Below.refl W.heap.size W) (Nat.le_refl _)).mono ?_
  rintro e w1 ⟨p, rfl, h1, _⟩
  have L1 := Lib.hid h1
  clear h1
  go_wp2_with fail
  refine (li_on_send (b := true) (x := 1) (S1 := ⟨[1], 1, 0, 0, 0⟩) L1.out (by decide) (by decide) rfl).mono ?_
  rintro e w2 ⟨rfl, h2⟩
  have L2 := Lib.hid h2
  clear h2
  go_wp2_with fail
  refine (li_on_send (b := true) (x := 2) (S1 := ⟨[1, 2], 2, 0, 0, 0⟩) L2.out (by decide) (by decide) rfl).mono ?_
  rintro e w3 ⟨rfl, h3⟩
  have L3 := Lib.hid h3
  clear h3
  go_wp2_with fail
  refine (li_on_hold (b := true) (k := 0) (S1 := ⟨[2, 1], 2, 0, 0, 0⟩) L3.out (by decide) (by decide) rfl).mono ?_
  rintro e w4 ⟨rfl, h4⟩
  have L4 := Lib.hid h4
  clear h4
  go_wp2_with fail
  refine (li_on_take (b := true) (k := 0) (x := 2) (S1 := ⟨[1], 2, 1, 0, 0⟩) L4.out (by decide) (by decide) (by decide) rfl rfl).mono ?_
  rintro e w5 ⟨rfl, h5⟩
  have L5 := Lib.hid h5
  clear h5
  go_wp2_with fail
  refine (li_on_all (l := [1]) (n := 1) L5.out rfl rfl (by decide)).mono ?_
  rintro e w6 ⟨a6, c6, rfl, hs6, h6, _⟩
  have S6 := Lib.hid (hs6.below ((Below.refl _ _).alloc (Nat.le_refl _) (.cells #[.int .i64 1] 3)))
  have L6 := Lib.hid (slv_lit w6 [.int .i64 1] #[.int .i64 1] 3 1 rfl rfl (by decide))
  have B6 := Lib.hid ((h6.below ((Below.refl _ _).alloc (Nat.le_refl _) (.cells #[.int .i64 1] 3))).be)
  clear hs6 h6
  go_wp2_with fail
  refine (ints_is (xs := [1]) (ys := [1]) (r := true) S6.out L6.out rfl rfl (by decide)).mono ?_
  rintro e w7 ⟨rfl, q, rfl⟩
  go_wp2_with fail
  go_ret
  exact ⟨rfl, drewN_below B6.out q⟩

end Go.Proofs.Ytkbenpfcnhijnaa
