/-
  What chapter 11 says of an alarm that does not run, and of bounds.
-/
import Derived.Test.YtkokfebjobokhaaKaw
namespace Go.Proofs.Ytkokfebjobokhaa
open Go.RowKit

theorem new_no {f m : Int} {w : World} (h : ¬ (1 ≤ f ∧ f ≤ m ∧ m ≤ 1000)) : Calls Try.prog 8 #[.int .i64 f, .int .i64 m] w fun e w' => e = .returned (.tuple #[.pointer none, .int .i64 1]) ∧ w' = w := pa_new_no f m w h

set_option maxRecDepth 20000 in
set_option maxHeartbeats 4000000 in
theorem law_PaceKnown (W : World) : Calls Try.prog 3 #[] W (PaOk W) := by
  go_enter Try.func3, Try.ntmps3
  try simp only [List.append_eq, List.cons_append, List.nil_append]
  go_wp2_with fail
  refine (pa_awake W).mono ?_
  rintro e w0 ⟨rfl, hb0⟩
  have B0 := Lib.hid hb0
  clear hb0
  go_wp2_with fail
  refine (new_no (by decide)).mono ?_
  rintro e w' ⟨rfl, rfl⟩
  go_wp2_with fail
  refine (new_no (by decide)).mono ?_
  rintro e w' ⟨rfl, rfl⟩
  go_wp2_with fail
  refine (new_no (by decide)).mono ?_
  rintro e w' ⟨rfl, rfl⟩
  go_wp2_with fail
  refine (on_new (f := 3) (m := 5) rfl rfl (by decide) B0.out B0.out.size).mono ?_
  rintro e w1 ⟨rfl, h1⟩
  have L1 := Lib.hid h1
  clear h1
  generalize hP : w'.heap.size = P at *
  go_wp2_with fail
  refine (on_tick (n := 10) (S2 := ⟨3, 5, 3, 0, 0⟩) (b := false) L1.out ⟨by decide, by decide, by decide, by decide⟩ (by decide) rfl rfl).mono ?_
  rintro e w2 ⟨rfl, h2⟩
  have L2 := Lib.hid h2
  clear h2
  go_wp2_with fail
  refine (on_left (z := 0) (b := false) L2.out rfl rfl).mono ?_
  rintro e w3 ⟨rfl, q3, rfl⟩
  have L3 := Lib.hid (L2.out.drewN q3)
  generalize w2.drewN q3 = w3 at *
  go_wp2_with fail
  refine (on_start (S2 := ⟨3, 5, 3, 3, 0⟩) L3.out rfl).mono ?_
  rintro e w4 ⟨rfl, h4⟩
  have L4 := Lib.hid h4
  clear h4
  go_wp2_with fail
  refine (on_tick (n := 10) (S2 := ⟨3, 5, 3, 2, 0⟩) (b := false) L4.out ⟨by decide, by decide, by decide, by decide⟩ (by decide) rfl rfl).mono ?_
  rintro e w5 ⟨rfl, h5⟩
  have L5 := Lib.hid h5
  clear h5
  go_wp2_with fail
  refine (on_start (S2 := ⟨3, 5, 3, 2, 0⟩) L5.out rfl).mono ?_
  rintro e w6 ⟨rfl, h6⟩
  have L6 := Lib.hid h6
  clear h6
  go_wp2_with fail
  refine (on_left (z := 2) (b := true) L6.out rfl rfl).mono ?_
  rintro e w7 ⟨rfl, q7, rfl⟩
  have L7 := Lib.hid (L6.out.drewN q7)
  generalize w6.drewN q7 = w7 at *
  go_wp2_with fail
  refine (on_tick (n := 10) (S2 := ⟨3, 5, 3, 1, 0⟩) (b := false) L7.out ⟨by decide, by decide, by decide, by decide⟩ (by decide) rfl rfl).mono ?_
  rintro e w8 ⟨rfl, h8⟩
  have L8 := Lib.hid h8
  clear h8
  go_wp2_with fail
  refine (on_tick (n := 10) (S2 := ⟨3, 5, 5, 5, 1⟩) (b := true) L8.out ⟨by decide, by decide, by decide, by decide⟩ (by decide) rfl rfl).mono ?_
  rintro e w9 ⟨rfl, h9⟩
  have L9 := Lib.hid h9
  clear h9
  go_wp2_with fail
  refine (on_step (z := 5) L9.out rfl).mono ?_
  rintro e w10 ⟨rfl, rfl⟩
  go_wp2_with fail
  refine (on_stop (S2 := ⟨3, 5, 3, 0, 1⟩) L9.out rfl).mono ?_
  rintro e w10 ⟨rfl, h10⟩
  have L10 := Lib.hid h10
  clear h10
  go_wp2_with fail
  refine (on_tick (n := 10) (S2 := ⟨3, 5, 3, 0, 1⟩) (b := false) L10.out ⟨by decide, by decide, by decide, by decide⟩ (by decide) rfl rfl).mono ?_
  rintro e w11 ⟨rfl, h11⟩
  have L11 := Lib.hid h11
  clear h11
  go_wp2_with (first
    | (go_at_call 12; refine (on_step (z := 3) L11.out rfl).mono ?_; rintro e w90 ⟨rfl, rfl⟩)
    | (go_at_call 14; refine (on_rings (z := 1) L11.out rfl).mono ?_; rintro e w91 ⟨rfl, rfl⟩))
  go_ret
  exact ⟨rfl, L11.out.be⟩

end Go.Proofs.Ytkokfebjobokhaa
