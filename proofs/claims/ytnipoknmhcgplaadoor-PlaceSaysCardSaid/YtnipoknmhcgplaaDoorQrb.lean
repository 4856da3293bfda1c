/-
  The document's own: configs whose numbers may not be.
-/
import Derived.Test.YtnipoknmhcgplaaDoorQref
namespace Go.Proofs.YtnipoknmhcgplaaDoor
open Go.RowKit
attribute [local go_sem ↓] Go.wp_at_zero Go.wp_at_succ

set_option maxRecDepth 20000 in
set_option maxHeartbeats 32000000 in
theorem rgood_bad (c : Cfg) (ao : Option Addr) (cap : Nat) (W : World) (hs : SlV W ao cap (c.vs.map uV)) (hk : CfgOk c) (hn : ¬ ((1 ≤ c.n ∧ c.n ≤ 16) ∧ c.vs.length ≤ 16 ∧ (1 ≤ c.win ∧ c.win ≤ 16) ∧ (2 ≤ c.que ∧ c.que ≤ 32) ∧ (1 ≤ c.fst ∧ c.fst ≤ c.mst) ∧ c.mst ≤ 1000 ∧ (0 ≤ c.bod ∧ c.bod ≤ 256) ∧ (c.eng = 1 ∨ c.eng = 2))) :
    Calls Tryd.prog 14 #[.agg (cfgA c ao cap)] W fun e w' => e = .returned (.bool (goodC c)) ∧ Below W.heap.size W w' := by
  have hmax := hs.max
  have hfit := hs.fit
  unfold maxLen at hmax
  rw [List.length_map] at hfit
  have B1 := below_alloc (Below.refl _ W) (.cells (cfgA c ao cap) 37)
  have X1 : Hid (Bun W W.heap.size W.heap.size c ao cap (W.alloc (.cells (cfgA c ao cap) 37))) := Lib.hid ⟨B1, B1.size, boxed_new W c ao cap _, hs.below B1⟩
  have O := Lib.hid hk
  clear hs hk B1
  go_enter Tryd.func14, Tryd.ntmps14
  by_cases n1 : c.n < 1
  case pos =>
    have R := Lib.hid (good_not hn)
    go_wp2_with fail
    all_goals go_ret
    all_goals exact ⟨by rw [R.out]; rfl, X1.out.be⟩
  by_cases n2 : 16 < c.n
  case pos =>
    have R := Lib.hid (good_not hn)
    go_wp2_with fail
    all_goals go_ret
    all_goals exact ⟨by rw [R.out]; rfl, X1.out.be⟩
  by_cases vl : (16 : Int) < (c.vs.length : Int)
  case pos =>
    have R := Lib.hid (good_not hn)
    go_wp2_with fail
    all_goals go_ret
    all_goals exact ⟨by rw [R.out]; rfl, X1.out.be⟩
  by_cases w1 : c.win < 1
  case pos =>
    have R := Lib.hid (good_not hn)
    go_wp2_with fail
    all_goals go_ret
    all_goals exact ⟨by rw [R.out]; rfl, X1.out.be⟩
  by_cases w2 : 16 < c.win
  case pos =>
    have R := Lib.hid (good_not hn)
    go_wp2_with fail
    all_goals go_ret
    all_goals exact ⟨by rw [R.out]; rfl, X1.out.be⟩
  by_cases q1 : c.que < 2
  case pos =>
    have R := Lib.hid (good_not hn)
    go_wp2_with fail
    all_goals go_ret
    all_goals exact ⟨by rw [R.out]; rfl, X1.out.be⟩
  by_cases q2 : 32 < c.que
  case pos =>
    have R := Lib.hid (good_not hn)
    go_wp2_with fail
    all_goals go_ret
    all_goals exact ⟨by rw [R.out]; rfl, X1.out.be⟩
  by_cases f1 : c.fst < 1
  case pos =>
    have R := Lib.hid (good_not hn)
    go_wp2_with fail
    all_goals go_ret
    all_goals exact ⟨by rw [R.out]; rfl, X1.out.be⟩
  by_cases f2 : c.mst < c.fst
  case pos =>
    have R := Lib.hid (good_not hn)
    go_wp2_with fail
    all_goals go_ret
    all_goals exact ⟨by rw [R.out]; rfl, X1.out.be⟩
  by_cases m2 : 1000 < c.mst
  case pos =>
    have R := Lib.hid (good_not hn)
    go_wp2_with fail
    all_goals go_ret
    all_goals exact ⟨by rw [R.out]; rfl, X1.out.be⟩
  by_cases b1 : c.bod < 0
  case pos =>
    have R := Lib.hid (good_not hn)
    go_wp2_with fail
    all_goals go_ret
    all_goals exact ⟨by rw [R.out]; rfl, X1.out.be⟩
  by_cases b2 : 256 < c.bod
  case pos =>
    have R := Lib.hid (good_not hn)
    go_wp2_with fail
    all_goals go_ret
    all_goals exact ⟨by rw [R.out]; rfl, X1.out.be⟩
  by_cases h8 : c.eng = 1 ∨ c.eng = 2
  case neg =>
    have R := Lib.hid (good_not hn)
    have d1 : (c.eng != 1) = true := by simp; omega
    have d2 : (c.eng != 2) = true := by simp; omega
    go_wp2_with fail
    all_goals go_ret
    all_goals exact ⟨by rw [R.out]; rfl, X1.out.be⟩
  exact absurd (by omega) hn

end Go.Proofs.YtnipoknmhcgplaaDoor
