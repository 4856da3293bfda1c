/-
  Windows, queues, alarms that may not be.
-/
import Derived.Test.YtmahbmmeeifaiaaGduo
namespace Go.Proofs.Ytmahbmmeeifaiaa
open Go.RowKit

set_option maxRecDepth 20000 in
set_option maxHeartbeats 16000000 in
theorem plays_no (window queue first most : Int) (l : List Sa) (ao : Option Addr) (cap : Nat) (W : World) (hg : ¬ ((1 ≤ window ∧ window ≤ 16) ∧ (2 ≤ queue ∧ queue ≤ 32) ∧ 1 ≤ first ∧ first ≤ most ∧ most ≤ 1000)) :
    Calls Try.prog 4 #[.int .i64 window, .int .i64 queue, .int .i64 first, .int .i64 most, .slice ao l.length cap] W (ShOk W) := by
  go_enter Try.func4, Try.ntmps4
  go_wp2_with fail
  refine (sh_awake W).mono ?_
  rintro e w0 ⟨rfl, hb0⟩
  have B0 := Lib.hid hb0
  clear hb0
  have NN := Lib.hid (sh_new_no w0 window queue first most hg)
  by_cases h0 : window < 1
  · have d0 : decide (window < 1) = true := decide_eq_true h0
    clear hg h0
    go_wp2_with (go_at_call 9; refine NN.out.mono ?_; rintro e w1 ⟨rfl, rfl⟩)
    go_ret
    exact ⟨rfl, B0.out⟩
  · have d0 : decide (window < 1) = false := decide_eq_false h0
    by_cases h1 : window > 16
    · have d1 : decide (window > 16) = true := decide_eq_true h1
      clear hg h0 h1
      go_wp2_with (go_at_call 9; refine NN.out.mono ?_; rintro e w1 ⟨rfl, rfl⟩)
      go_ret
      exact ⟨rfl, B0.out⟩
    · have d1 : decide (window > 16) = false := decide_eq_false h1
      by_cases h2 : queue < 2
      · have d2 : decide (queue < 2) = true := decide_eq_true h2
        clear hg h0 h1 h2
        go_wp2_with (go_at_call 9; refine NN.out.mono ?_; rintro e w1 ⟨rfl, rfl⟩)
        go_ret
        exact ⟨rfl, B0.out⟩
      · have d2 : decide (queue < 2) = false := decide_eq_false h2
        by_cases h3 : queue > 32
        · have d3 : decide (queue > 32) = true := decide_eq_true h3
          clear hg h0 h1 h2 h3
          go_wp2_with (go_at_call 9; refine NN.out.mono ?_; rintro e w1 ⟨rfl, rfl⟩)
          go_ret
          exact ⟨rfl, B0.out⟩
        · have d3 : decide (queue > 32) = false := decide_eq_false h3
          by_cases h4 : first < 1
          · have d4 : decide (first < 1) = true := decide_eq_true h4
            clear hg h0 h1 h2 h3 h4
            go_wp2_with (go_at_call 9; refine NN.out.mono ?_; rintro e w1 ⟨rfl, rfl⟩)
            go_ret
            exact ⟨rfl, B0.out⟩
          · have d4 : decide (first < 1) = false := decide_eq_false h4
            by_cases h5 : first > most
            · have d5 : decide (first > most) = true := decide_eq_true h5
              clear hg h0 h1 h2 h3 h4 h5
              go_wp2_with (go_at_call 9; refine NN.out.mono ?_; rintro e w1 ⟨rfl, rfl⟩)
              go_ret
              exact ⟨rfl, B0.out⟩
            · have d5 : decide (first > most) = false := decide_eq_false h5
              have d6 : decide (most > 1000) = true := decide_eq_true (by omega)
              clear hg h0 h1 h2 h3 h4 h5
              go_wp2_with (go_at_call 9; refine NN.out.mono ?_; rintro e w1 ⟨rfl, rfl⟩)
              go_ret
              exact ⟨rfl, B0.out⟩

end Go.Proofs.Ytmahbmmeeifaiaa
