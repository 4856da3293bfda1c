/-
  What the statements of the alarm look at first.
-/
import Derived.Test.YtkokfebjobokhaaKrg
namespace Go.Proofs.Ytkokfebjobokhaa
open Go.RowKit

/-- True, and all below as it was. -/
def PaOk (W : World) (E : Ending) (w' : World) : Prop := E = .returned (.bool true) ∧ Below W.heap.size W w'

set_option maxRecDepth 20000 in
set_option maxHeartbeats 2000000 in
theorem pa_awake (W : World) : Calls Try.prog 7 #[] W (PaOk W) := by
  go_enter Try.func7, Try.ntmps7
  go_wp2_with fail
  refine (on_new (f := 1) (m := 4) rfl rfl (by decide) (Below.refl W.heap.size W) (Nat.le_refl _)).mono ?_
  rintro e w1 ⟨rfl, h1⟩
  have L1 := Lib.hid h1
  clear h1
  go_wp2_with fail
  refine (on_start (S2 := ⟨1, 4, 1, 1, 0⟩) L1.out rfl).mono ?_
  rintro e w2 ⟨rfl, h2⟩
  have L2 := Lib.hid h2
  clear h2
  go_wp2_with fail
  refine (rings_any 12 w2 W.heap.size ⟨1, 4, 1, 1, 0⟩ 0 L2.out.at' ⟨by decide, by decide, by decide, by decide⟩ (by decide) (by decide)).mono ?_
  rintro e w3 ⟨a, c, rfl, hs, hA, hK⟩
  have L3 := Lib.hid (L2.out.post (r := .bool true) ⟨rfl, hA, hK⟩).2
  have S3 := Lib.hid (show SlV w3 a c ([1, 3, 7, 11].map iV) from hs)
  clear hs hA hK
  have S4 := Lib.hid (slv_lit w3 ([1, 3, 7, 11].map iV) #[.int .i64 1, .int .i64 3, .int .i64 7, .int .i64 11] 3 4 rfl rfl (by unfold maxLen; omega))
  have S5 := Lib.hid (S3.out.below (((Below.refl w3.heap.size w3).alloc (Nat.le_refl _) (.cells #[.int .i64 1, .int .i64 3, .int .i64 7, .int .i64 11] 3))))
  have L5 := Lib.hid (L3.out.below (((Below.refl w3.heap.size w3).alloc (Nat.le_refl _) (.cells #[.int .i64 1, .int .i64 3, .int .i64 7, .int .i64 11] 3))))
  go_wp2_with (first
    | (go_at_call 19; refine (ints_is (xs := [1, 3, 7, 11]) (ys := [1, 3, 7, 11]) S5.out S4.out rfl rfl (r := true) rfl).mono ?_
       rintro e w6 ⟨rfl, q, rfl⟩
       have L6 := Lib.hid (L5.out.drewN q))
    | (go_at_call 14; refine (on_rings (z := 4) L6.out rfl).mono ?_; rintro e w7 ⟨rfl, rfl⟩))
  go_ret
  exact ⟨rfl, L6.out.be⟩

end Go.Proofs.Ytkokfebjobokhaa
