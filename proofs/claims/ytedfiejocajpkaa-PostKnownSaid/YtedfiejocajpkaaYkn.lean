/-
  The examples.
-/
import Derived.Test.YtedfiejocajpkaaYaw
import Derived.Test.YtedfiejocajpkaaZon
namespace Go.Proofs.Ytedfiejocajpkaa
open Go.RowKit

set_option maxRecDepth 20000 in
set_option maxHeartbeats 4000000 in
theorem law_PostKnown (W : World) : Calls Try.prog 3 #[] W (PoOk W) := by
  go_enter Try.func3, Try.ntmps3
  go_wp2_with fail
  refine (po_awake W).mono ?_
  rintro e w0 ⟨rfl, hb⟩
  have B0 := Lib.hid hb
  have hsz := Lib.hid (Nat.le_refl W.heap.size)
  clear hb
  go_wp2_with fail
  refine (pi_new_bad 0 1 w0 (by decide)).mono ?_
  rintro e w1 ⟨rfl, rfl⟩
  go_wp2_with fail
  refine (pi_new_bad 17 1 w1 (by decide)).mono ?_
  rintro e w2 ⟨rfl, rfl⟩
  go_wp2_with fail
  refine (pi_new_bad 1 65 w2 (by decide)).mono ?_
  rintro e w3 ⟨rfl, rfl⟩
  go_wp2_with fail
  refine (ps_on_new 2 1 B0.out hsz.out (by decide) (by decide)).mono ?_
  rintro e w4 ⟨p, rfl, h4⟩
  have L4 := Lib.hid h4
  clear h4
  go_wp2_with fail
  refine (ps_on_put (k := 2) (r := false) L4.out rfl).mono ?_
  rintro e w5 ⟨rfl, h5⟩
  have L5 := Lib.hid h5
  clear h5
  go_wp2_with fail
  refine (ps_on_put (k := 0) (r := true) L5.out rfl).mono ?_
  rintro e w6 ⟨rfl, h6⟩
  have L6 := Lib.hid h6
  clear h6
  go_wp2_with fail
  refine (ps_on_put (k := 0) (r := false) L6.out rfl).mono ?_
  rintro e w7 ⟨rfl, h7⟩
  have L7 := Lib.hid h7
  clear h7
  go_wp2_with fail
  refine (ps_on_get (k := -1) (x := ⟨#[]⟩) (r := false) L7.out rfl rfl).mono ?_
  rintro e w8 ⟨rfl, h8⟩
  have L8 := Lib.hid h8
  clear h8
  go_wp2_with fail
  refine (ps_on_put (k := 1) (r := true) L8.out rfl).mono ?_
  rintro e w9 ⟨rfl, h9⟩
  have L9 := Lib.hid h9
  clear h9
  go_wp2_with fail
  refine (ps_on_either (a := 1) (b := 0) (k := 1) (x := ⟨#[122]⟩) (r := true) L9.out rfl rfl rfl).mono ?_
  rintro e w10 ⟨rfl, h10⟩
  have L10 := Lib.hid h10
  clear h10
  go_wp2_with fail
  refine (ps_on_either (a := 1) (b := 0) (k := 0) (x := ⟨#[120]⟩) (r := true) L10.out rfl rfl rfl).mono ?_
  rintro e w11 ⟨rfl, h11⟩
  have L11 := Lib.hid h11
  clear h11
  go_wp2_with fail
  refine (ps_on_either (a := 0) (b := 5) (k := 0) (x := ⟨#[]⟩) (r := false) L11.out rfl rfl rfl).mono ?_
  rintro e w12 ⟨rfl, h12⟩
  have L12 := Lib.hid h12
  clear h12
  go_wp2_with fail
  refine (ps_on_any (m := 2) (k := 0) (x := ⟨#[]⟩) (r := false) L12.out (by decide) ?_ (by decide) rfl rfl rfl).mono ?_
  · intro j hj
    rcases (show j = 0 ∨ j = 1 by omega) with rfl | rfl <;> rfl
  rintro e w13 ⟨rfl, h13⟩
  have L13 := Lib.hid h13
  clear h13
  go_wp2_with fail
  refine (ps_on_len (k := 0) (z := 0) L13.out rfl).mono ?_
  rintro e w14 ⟨rfl, rfl⟩
  go_wp2_with fail
  refine (ps_on_len (k := 9) (z := 0) L13.out rfl).mono ?_
  rintro e w15 ⟨rfl, rfl⟩
  go_wp2_with fail
  go_ret
  exact ⟨rfl, L13.out.be⟩

end Go.Proofs.Ytedfiejocajpkaa
