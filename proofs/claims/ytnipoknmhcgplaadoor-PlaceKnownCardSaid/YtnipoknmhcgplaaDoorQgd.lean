/-
  Good: which configs may be.
-/
import Derived.Test.YtnipoknmhcgplaaDoorQgood
namespace Go.Proofs.YtnipoknmhcgplaaDoor
open Go.RowKit

set_option maxHeartbeats 4000000 in
theorem good_any (c : Cfg) (ao : Option Addr) (cap : Nat) (W : World) (hs : SlV W ao cap (c.vs.map uV)) (hk : CfgOk c) :
    Calls Tryd.prog 8 #[.agg (cfgA c ao cap)] W fun e w' => e = .returned (.bool (goodC c)) ∧ Below W.heap.size W w' := by
  have B1 := Lib.hid (below_alloc (Below.refl _ W) (.cells (cfgA c ao cap) 26))
  have X1 := Lib.hid (boxed_new W c ao cap 26)
  have S1 := Lib.hid (hs.below B1.out)
  have O := Lib.hid hk
  clear hs hk
  go_enter Tryd.func8, Tryd.ntmps8
  obtain ⟨r1, e1⟩ : ∃ r, btw 1 c.n 16 = r := ⟨_, rfl⟩
  obtain ⟨r2, e2⟩ : ∃ r, (decide (c.vs.length ≤ 16) && c.vs.all fun s => someN s c.n) = r := ⟨_, rfl⟩
  obtain ⟨r3, e3⟩ : ∃ r, btw 1 c.win 16 = r := ⟨_, rfl⟩
  obtain ⟨r4, e4⟩ : ∃ r, btw 2 c.que 32 = r := ⟨_, rfl⟩
  obtain ⟨r5, e5⟩ : ∃ r, btw 1 c.fst c.mst = r := ⟨_, rfl⟩
  obtain ⟨r7, e7⟩ : ∃ r, btw 0 c.bod 256 = r := ⟨_, rfl⟩
  have R1 := Lib.hid e1
  have R2 := Lib.hid e2
  have R3 := Lib.hid e3
  have R4 := Lib.hid e4
  have R5 := Lib.hid e5
  have R7 := Lib.hid e7
  clear e1 e2 e3 e4 e5 e7
  go_wp2_with fail
  refine (btw_is R1.out).mono ?_
  rintro e w' ⟨rfl, rfl⟩
  cases r1
  · go_wp2_with fail
    go_ret
    exact ⟨by rw [show goodC c = false by unfold goodC; simp [R1.out]]; rfl, B1.out⟩
  go_wp2_with fail
  refine (vars_is S1.out O.out R2.out).mono ?_
  rintro e w2 ⟨rfl, hb⟩
  have B2 := Lib.hid (B1.out.trans (hb.mono B1.out.size))
  have X2 := Lib.hid (X1.out.below hb)
  clear hb X1 B1 S1
  obtain ⟨k0, k1, k2, k3, k4, k5, k6, k7⟩ := X2.out
  cases r2
  · go_wp2_with fail
    go_ret
    exact ⟨by rw [show goodC c = false by unfold goodC; simp [R2.out]]; rfl, B2.out⟩
  go_wp2_with fail
  refine (btw_is R3.out).mono ?_
  rintro e w' ⟨rfl, rfl⟩
  cases r3
  · go_wp2_with fail
    go_ret
    exact ⟨by rw [show goodC c = false by unfold goodC; simp [R3.out]]; rfl, B2.out⟩
  go_wp2_with fail
  refine (btw_is R4.out).mono ?_
  rintro e w' ⟨rfl, rfl⟩
  cases r4
  · go_wp2_with fail
    go_ret
    exact ⟨by rw [show goodC c = false by unfold goodC; simp [R4.out]]; rfl, B2.out⟩
  go_wp2_with fail
  refine (btw_is R5.out).mono ?_
  rintro e w' ⟨rfl, rfl⟩
  cases r5
  · go_wp2_with fail
    go_ret
    exact ⟨by rw [show goodC c = false by unfold goodC; simp [R5.out]]; rfl, B2.out⟩
  by_cases h6 : c.mst ≤ 1000
  case neg =>
    have R6 := Lib.hid (decide_eq_false h6)
    go_wp2_with fail
    go_ret
    exact ⟨by rw [show goodC c = false by unfold goodC; simp [R6.out]]; rfl, B2.out⟩
  have R6 := Lib.hid (decide_eq_true h6)
  go_wp2_with fail
  refine (btw_is R7.out).mono ?_
  rintro e w' ⟨rfl, rfl⟩
  cases r7
  · go_wp2_with fail
    go_ret
    exact ⟨by rw [show goodC c = false by unfold goodC; simp [R7.out]]; rfl, B2.out⟩
  have R8 := Lib.hid (show goodC c = (c.eng == 1 || c.eng == 2) by
    unfold goodC; simp only [R1.out, R2.out, R3.out, R4.out, R5.out, R6.out, R7.out, Bool.true_and]; rfl)
  go_wp2_with fail
  · have h1 : c.eng = 1 := by assumption
    go_ret
    exact ⟨by rw [R8.out, h1]; rfl, B2.out⟩
  · go_ret
    exact ⟨by rw [R8.out]; rfl, B2.out⟩

theorem good_is {c : Cfg} {ao : Option Addr} {cap : Nat} {r : Bool} {W : World} (hs : SlV W ao cap (c.vs.map uV)) (hk : CfgOk c) (h : goodC c = r) :
    Calls Tryd.prog 8 #[.agg (cfgA c ao cap)] W fun e w' => e = .returned (.bool r) ∧ Below W.heap.size W w' := by
  subst h; exact good_any c ao cap W hs hk

end Go.Proofs.YtnipoknmhcgplaaDoor
