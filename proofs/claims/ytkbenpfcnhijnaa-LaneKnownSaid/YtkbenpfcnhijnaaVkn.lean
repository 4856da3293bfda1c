/-
  What is none, what is too many.
-/
import Derived.Test.YtkbenpfcnhijnaaVaw
namespace Go.Proofs.Ytkbenpfcnhijnaa
open Go.RowKit

/-- So many were sent, nothing else was done. -/
structure Full (S : St Int) (j : Nat) : Prop where
  l : S.l.length = j
  s : S.s = j
  t : S.t = 0
  d : S.d = 0
  m : S.m = 0

theorem Full.send {S : St Int} {j : Nat} {x : Int} (h : Full S j) (hj : j < 4096) : Full (S.send x) (j + 1) := by
  have hl := h.l
  have e : S.send x = ⟨S.l ++ [x], S.s + 1, S.t, S.d, S.m⟩ := if_pos (by omega)
  rw [e]
  exact ⟨by simp [h.l], by simp [h.s], h.t, h.d, h.m⟩
theorem Full.room {S : St Int} {j : Nat} (h : Full S j) (hj : j < 4096) : decide (S.l.length < 4096) = true := decide_eq_true (by rw [h.l]; exact hj)
theorem Full.none {S : St Int} (h : Full S 4096) : decide (S.l.length < 4096) = false := decide_eq_false (by rw [h.l]; omega)
theorem Full.same {S : St Int} {x : Int} (h : Full S 4096) : S.send x = S := if_neg (by rw [h.l]; omega)
theorem Full.cant {S : St Int} {k : Int} (h : Full S 4096) : S.can k = false := by unfold St.can; rw [h.none, Bool.and_false]
theorem Full.also {S : St Int} {k : Int} (h : Full S 4096) : S.double 0 k = S := by unfold St.double; rw [h.cant]; rfl
theorem Full.last {S : St Int} (h : Full S 4096) : hasZ S.l.length 4095 = true := by rw [h.l]; exact decide_eq_true (by omega)
theorem Full.first {S : St Int} (h : Full S 4096) : ∃ S1, S.drop 4095 = S1 ∧ S1.l.length = 4095 ∧ S1.s = 4096 ∧ S1.t = 0 ∧ S1.d = 1 ∧ S1.m = 0 := by
  refine ⟨_, rfl, ?_⟩
  have e : S.drop 4095 = { S with l := cutL S.l 4095, d := S.d + 1 } := by unfold St.drop; rw [h.last]; rfl
  rw [e]
  exact ⟨by show (cutL S.l 4095).length = 4095; rw [cutL_len (by rw [h.l]; omega), h.l], h.s, h.t, by simp [h.d], h.m⟩
theorem more_one {S : St Int} (hl : S.l.length = 4095) : S.can 0 = true ∧ ∃ S1, S.double 0 0 = S1 ∧ S1.l.length = 4096 ∧ S1.s = S.s ∧ S1.t = S.t ∧ S1.d = S.d ∧ S1.m = S.m + 1 := by
  have hc : S.can 0 = true := by unfold St.can hasZ; rw [hl]; decide
  refine ⟨hc, _, rfl, ?_⟩
  have e : S.double 0 0 = { S with l := S.l ++ [S.got 0 0], m := S.m + 1 } := by unfold St.double; rw [hc]; rfl
  rw [e]
  exact ⟨by simp [hl], rfl, rfl, rfl, rfl⟩

def KnRel (W : World) (N p : Nat) (i : Value) (wr : World) : Prop :=
  ∃ j S, j ≤ 4096 ∧ i = .int .i64 (j : Nat) ∧ LnOn iV 3 W N p S wr ∧ Full S j

set_option maxRecDepth 20000 in
set_option maxHeartbeats 4000000 in
theorem law_LaneKnown (W : World) : Calls Try.prog 3 #[] W (LnOk W) := by
  go_enter Try.func3, Try.ntmps3
  go_wp2_with fail
  refine (ln_awake W).mono ?_
  rintro e w0 ⟨rfl, hb0⟩
  have B0 := Lib.hid hb0
  clear hb0
  go_wp2_with fail
  refine (li_on_new B0.out (Nat.le_refl _)).mono ?_
  rintro e w1 ⟨p, rfl, h1, _⟩
  have L1 := Lib.hid h1
  clear h1
  go_wp2_with fail
  refine (li_on_take (k := 0) (b := false) (x := 0) (S1 := ⟨[], 0, 0, 0, 0⟩) L1.out (by decide) (by decide) (by decide) rfl rfl).mono ?_
  rintro e w2 ⟨rfl, h2⟩
  have L2 := Lib.hid h2
  clear h2
  go_wp2_with fail
  refine (li_on_drop (k := 0) (b := false) (S1 := ⟨[], 0, 0, 0, 0⟩) L2.out (by decide) (by decide) (by decide) rfl).mono ?_
  rintro e w3 ⟨rfl, h3⟩
  have L3 := Lib.hid h3
  clear h3
  go_wp2_with fail
  refine (li_on_double (k := -1) (b := false) (S1 := ⟨[], 0, 0, 0, 0⟩) L3.out (by decide) (by decide) rfl).mono ?_
  rintro e w4 ⟨rfl, h4⟩
  have L4 := Lib.hid h4
  clear h4
  go_wp2_with fail
  refine (li_on_hold (k := 0) (b := false) (S1 := ⟨[], 0, 0, 0, 0⟩) L4.out (by decide) (by decide) rfl).mono ?_
  rintro e w5 ⟨rfl, h5⟩
  have L5 := Lib.hid h5
  clear h5
  go_wp2_with fail
  go_loopw [7] (fun i wr => KnRel W W.heap.size p i wr) (fun i _ => 4096 - (intOf i).toNat)
  case atStart => exact ⟨0, _, Nat.zero_le _, rfl, L5.out, ⟨rfl, rfl, rfl, rfl, rfl⟩⟩
  case round =>
    obtain ⟨j, S, hj, rfl, hL, hF⟩ := hrel
    have L := Lib.hid hL
    have FF := Lib.hid hF
    clear hL hF
    by_cases hlt : j < 4096
    · have jb : (j : Int) < 4096 := by omega
      go_wp2_with (go_at_call 14; refine (li_on_send L.out (by have := FF.out.s; omega) (FF.out.room hlt) rfl).mono ?_; rintro e w6 ⟨rfl, h6⟩; have L6 := Lib.hid h6; clear h6)
      go_roundw
      case rel => exact ⟨j + 1, _, by omega, by go_num, L6.out, FF.out.send hlt⟩
      case measure => simp only [intOf]; omega
    · obtain rfl : j = 4096 := by omega
      obtain ⟨S1, eD, d0, d1, d2, d3, d4⟩ := FF.out.first
      obtain ⟨cD, S2, eM, m0, m1, m2, m3, m4⟩ := more_one d0
      rw [d1] at m1
      rw [d2] at m2
      rw [d3] at m3
      rw [d4] at m4
      have D := Lib.hid (And.intro eD (And.intro d0 (And.intro d3 d4)))
      have M := Lib.hid (And.intro eM (And.intro cD (And.intro m0 (And.intro m1 (And.intro m2 (And.intro m3 m4))))))
      clear eD d0 d1 d2 d3 d4 cD eM m0 m1 m2 m3 m4
      go_wp2_with fail
      refine (li_on_send (b := false) (S1 := S) L.out (by have := FF.out.s; omega) FF.out.none FF.out.same).mono ?_
      rintro e w6 ⟨rfl, h6⟩
      have L6 := Lib.hid h6
      clear h6
      go_wp2_with fail
      refine (li_on_double (k := 0) (b := false) (S1 := S) L6.out (by have := FF.out.m; omega) FF.out.cant FF.out.also).mono ?_
      rintro e w7 ⟨rfl, h7⟩
      have L7 := Lib.hid h7
      clear h7
      go_wp2_with fail
      refine (li_on_drop (k := 4095) (b := true) (S1 := S1) L7.out (by have := FF.out.l; omega) (by have := FF.out.d; omega) FF.out.last D.out.1).mono ?_
      rintro e w8 ⟨rfl, h8⟩
      have L8 := Lib.hid h8
      clear h8
      go_wp2_with fail
      refine (li_on_double (k := 0) (b := true) (S1 := S2) L8.out (by have := D.out.2.2.2; omega) M.out.2.1 M.out.1).mono ?_
      rintro e w9 ⟨rfl, h9⟩
      have L9 := Lib.hid h9
      clear h9
      go_wp2_with fail
      refine (li_on_counts L9.out).mono ?_
      rintro e w10 ⟨rfl, h10⟩
      have L10 := Lib.hid h10
      clear h10
      rw [M.out.2.2.2.1, M.out.2.2.2.2.1, M.out.2.2.2.2.2.1, M.out.2.2.2.2.2.2]
      go_wp2_with fail
      refine (li_on_len (n := 4096) L10.out M.out.2.2.1).mono ?_
      rintro e w11 ⟨rfl, h11⟩
      have L11 := Lib.hid h11
      clear h11
      go_wp2_with fail
      go_ret
      exact ⟨rfl, L11.out.be⟩

end Go.Proofs.Ytkbenpfcnhijnaa
