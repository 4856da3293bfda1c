/-
  Good: its parts, and all.
-/
import Derived.Test.YtjdnaonhfacpoaaJgood
namespace Go.Proofs.Ytjdnaonhfacpoaa
open Go.RowKit

theorem len_zero (n : Nat) : ((n : Int) == 0) = decide (n = 0) := by by_cases h : n = 0 <;> simp [h]

theorem MsgS.fits {w : World} {m : Msg} {ba : Option Addr} {bc : Nat} {sa : Option Addr} {sc : Nat} (h : MsgS w m ba bc sa sc) : m.bod.length ≤ 9223372036854775807 ∧ m.stp.length ≤ 9223372036854775807 := by
  have h1 := h.b.fit
  have h2 := h.b.max
  have h3 := h.s.fit
  have h4 := h.s.max
  unfold maxLen at h2 h4
  omega

set_option maxHeartbeats 4000000 in
theorem var_any (m : Msg) (ba : Option Addr) (bc : Nat) (sa : Option Addr) (sc : Nat) (W : World) :
    Calls Try.prog 48 #[.agg (msgA m ba bc sa sc)] W fun e w' => e = .returned (.bool (varM m)) ∧ Below W.heap.size W w' := by
  have B1 := Lib.hid (below_alloc (Below.refl _ W) (.cells (msgA m ba bc sa sc) 29))
  obtain ⟨r1, e1⟩ : ∃ r, btw 0 m.vr 15 = r := ⟨_, rfl⟩
  have R1 := Lib.hid e1
  clear e1
  go_enter Try.func48, Try.ntmps48
  go_wp2_with fail
  refine (btw_is R1.out).mono ?_
  rintro e w' ⟨rfl, rfl⟩
  cases r1
  · have V := Lib.hid (show varM m = false from decide_eq_false fun h => by have := of_decide_eq_false R1.out; exact this h.1)
    go_wp2_with fail
    go_ret
    exact ⟨by rw [V.out]; rfl, B1.out⟩
  · have hb := of_decide_eq_true R1.out
    have V := Lib.hid (show varM m = ((m.bod.length : Int) == 0) by
      rw [len_zero]
      exact decide_eq_decide.2 ⟨fun h => h.2, fun h => ⟨hb, h⟩⟩)
    clear hb
    go_wp2_with fail
    go_ret
    exact ⟨by rw [V.out]; rfl, B1.out⟩

theorem var_is {m : Msg} {ba : Option Addr} {bc : Nat} {sa : Option Addr} {sc : Nat} {r : Bool} {W : World} (h : varM m = r) :
    Calls Try.prog 48 #[.agg (msgA m ba bc sa sc)] W fun e w' => e = .returned (.bool r) ∧ Below W.heap.size W w' := by
  subst h; exact var_any m ba bc sa sc W

set_option maxHeartbeats 4000000 in
theorem no_any (m : Msg) (ba : Option Addr) (bc : Nat) (sa : Option Addr) (sc : Nat) (W : World) (hk : MsgOk m) :
    Calls Try.prog 47 #[.agg (msgA m ba bc sa sc)] W fun e w' => e = .returned (.bool (noM m)) ∧ Below W.heap.size W w' := by
  have B1 := Lib.hid (below_alloc (Below.refl _ W) (.cells (msgA m ba bc sa sc) 29))
  have O := Lib.hid hk
  clear hk
  obtain ⟨r1, e1⟩ : ∃ r, sameN m.val 0 = r := ⟨_, rfl⟩
  have R1 := Lib.hid e1
  clear e1
  go_enter Try.func47, Try.ntmps47
  go_wp2_with fail
  refine (same_is _ O.out.val (by decide) R1.out).mono ?_
  rintro e w' ⟨rfl, rfl⟩
  cases r1
  · have V := Lib.hid (show noM m = false from decide_eq_false fun h => by have := R1.out; rw [h.1] at this; cases this)
    go_wp2_with fail
    go_ret
    exact ⟨by rw [V.out]; rfl, B1.out⟩
  by_cases h1 : m.wri = 0
  · have V := Lib.hid (show noM m = ((m.tag : Int) == 0) by
      rw [len_zero]
      exact decide_eq_decide.2 ⟨fun h => h.2.2, fun h => ⟨R1.out, h1, h⟩⟩)
    have d1 : (m.wri == 0) = true := by simp [h1]
    clear h1
    go_wp2_with fail
    go_ret
    exact ⟨by rw [V.out]; rfl, B1.out⟩
  · have V := Lib.hid (show noM m = false from decide_eq_false fun h => h1 h.2.1)
    have d1 : (m.wri == 0) = false := by simp [h1]
    clear h1
    go_wp2_with fail
    go_ret
    exact ⟨by rw [V.out]; rfl, B1.out⟩

theorem no_is {m : Msg} {ba : Option Addr} {bc : Nat} {sa : Option Addr} {sc : Nat} {r : Bool} {W : World} (hk : MsgOk m) (h : noM m = r) :
    Calls Try.prog 47 #[.agg (msgA m ba bc sa sc)] W fun e w' => e = .returned (.bool r) ∧ Below W.heap.size W w' := by
  subst h; exact no_any m ba bc sa sc W hk

theorem two_tests (t : Nat) (z : Int) : (((t : Int) == 0) == (z == -1)) = decide (t = 0 ↔ z = -1) := by
  rw [len_zero]
  by_cases h : t = 0 <;> by_cases h2 : z = -1 <;> simp [h, h2]

set_option maxHeartbeats 4000000 in
theorem rd_any (m : Msg) (ba : Option Addr) (bc : Nat) (sa : Option Addr) (sc : Nat) (W : World) :
    Calls Try.prog 49 #[.agg (msgA m ba bc sa sc)] W fun e w' => e = .returned (.bool (rdM m)) ∧ Below W.heap.size W w' := by
  have B1 := Lib.hid (below_alloc (Below.refl _ W) (.cells (msgA m ba bc sa sc) 29))
  obtain ⟨r1, e1⟩ : ∃ r, btw (-1) m.wri 15 = r := ⟨_, rfl⟩
  have R1 := Lib.hid e1
  clear e1
  go_enter Try.func49, Try.ntmps49
  go_wp2_with fail
  refine (btw_is R1.out).mono ?_
  rintro e w' ⟨rfl, rfl⟩
  cases r1
  · have V := Lib.hid (show rdM m = false from decide_eq_false fun h => by have := of_decide_eq_false R1.out; exact this h.1)
    go_wp2_with fail
    go_ret
    exact ⟨by rw [V.out]; rfl, B1.out⟩
  · have hb := of_decide_eq_true R1.out
    have V := Lib.hid (show rdM m = (((m.tag : Int) == 0) == (m.wri == -1)) by
      rw [two_tests]
      exact decide_eq_decide.2 ⟨fun h => h.2, fun h => ⟨hb, h⟩⟩)
    clear hb
    go_wp2_with fail
    go_ret
    exact ⟨by rw [V.out]; rfl, B1.out⟩

theorem rd_is {m : Msg} {ba : Option Addr} {bc : Nat} {sa : Option Addr} {sc : Nat} {r : Bool} {W : World} (h : rdM m = r) :
    Calls Try.prog 49 #[.agg (msgA m ba bc sa sc)] W fun e w' => e = .returned (.bool r) ∧ Below W.heap.size W w' := by
  subst h; exact rd_any m ba bc sa sc W

set_option maxHeartbeats 8000000 in
theorem parts_any (m : Msg) (ba : Option Addr) (bc : Nat) (sa : Option Addr) (sc : Nat) (W : World) (hs : MsgS W m ba bc sa sc) (hk : MsgOk m) :
    Calls Try.prog 23 #[.agg (msgA m ba bc sa sc)] W fun e w' => e = .returned (.bool (partM m)) ∧ Below W.heap.size W w' := by
  have hf := hs.fits
  have B1 := Lib.hid (below_alloc (Below.refl _ W) (.cells (msgA m ba bc sa sc) 29))
  have X1 := Lib.hid (msgB_new W m ba bc sa sc 29)
  have O := Lib.hid hk
  clear hk hs
  obtain ⟨r1, e1⟩ : ∃ r, varM m = r := ⟨_, rfl⟩
  obtain ⟨r2, e2⟩ : ∃ r, noM m = r := ⟨_, rfl⟩
  obtain ⟨r3, e3⟩ : ∃ r, rdM m = r := ⟨_, rfl⟩
  have R1 := Lib.hid e1
  have R2 := Lib.hid e2
  have R3 := Lib.hid e3
  clear e1 e2 e3
  by_cases k0 : m.kind = 0
  · have d0 : (m.kind == 0) = true := by simp [k0]
    have K0 := Lib.hid k0
    clear k0
    by_cases hl : m.bod.length ≤ 256
    · by_cases hv : m.vr = 0
      · have d1 : (m.vr == 0) = true := by simp [hv]
        have hl' : (m.bod.length : Int) ≤ 256 := by omega
        have V := Lib.hid (show partM m = r2 by
          rw [← R2.out]
          exact decide_eq_decide.2 ⟨fun h => h.elim (fun h => h.2.2.2) (fun h => by have := K0.out; omega), fun h => Or.inl ⟨K0.out, hl, hv, h⟩⟩)
        clear hv
        go_enter Try.func23, Try.ntmps23
        go_wp2_with fail
        refine (no_is O.out R2.out).mono ?_
        rintro e w2 ⟨rfl, hb⟩
        have B2 := Lib.hid (B1.out.trans (hb.mono B1.out.size))
        clear hb B1
        go_wp2_with fail
        go_ret
        exact ⟨by rw [V.out]; rfl, B2.out⟩
      · have d1 : (m.vr == 0) = false := by simp [hv]
        have hl' : (m.bod.length : Int) ≤ 256 := by omega
        have V := Lib.hid (show partM m = false from decide_eq_false fun h => h.elim (fun h => hv h.2.2.1) (fun h => by have := K0.out; omega))
        clear hv
        go_enter Try.func23, Try.ntmps23
        go_wp2_with fail
        go_ret
        exact ⟨by rw [V.out]; rfl, B1.out⟩
    · have V := Lib.hid (show partM m = false from decide_eq_false fun h => h.elim (fun h => hl h.2.1) (fun h => by have := K0.out; omega))
      have hl' : ¬ (m.bod.length : Int) ≤ 256 := by omega
      go_enter Try.func23, Try.ntmps23
      go_wp2_with fail
      go_ret
      exact ⟨by rw [V.out]; rfl, B1.out⟩
  have d0 : (m.kind == 0) = false := by simp [k0]
  have K0 := Lib.hid k0
  clear k0
  by_cases k1 : m.kind = 1
  · have d1 : (m.kind == 1) = true := by simp [k1]
    have K1 := Lib.hid k1
    clear k1
    go_enter Try.func23, Try.ntmps23
    go_wp2_with fail
    refine (var_is R1.out).mono ?_
    rintro e w2 ⟨rfl, hb⟩
    have B2 := Lib.hid (B1.out.trans (hb.mono B1.out.size))
    have X2 := Lib.hid (X1.out.below hb)
    clear hb B1 X1
    cases r1
    · have V := Lib.hid (show partM m = false from decide_eq_false fun h => h.elim (fun h => K0.out h.1) (fun h => h.elim (fun h => (of_decide_eq_false R1.out) h.2.1) (fun h => by have := K1.out; omega)))
      go_wp2_with fail
      go_ret
      exact ⟨by rw [V.out]; rfl, B2.out⟩
    obtain ⟨j0, j1, j2, j3, j4, j5, j6, j7, j8, j9⟩ := X2.out
    by_cases hw : m.wri = m.frm
    · have d2 : (m.wri == m.frm) = true := by simp [hw]
      have V := Lib.hid (show partM m = decide (0 < m.tag) by
        refine decide_eq_decide.2 ⟨fun h => h.elim (fun h => absurd h.1 K0.out) (fun h => h.elim (fun h => by omega) (fun h => by have := K1.out; omega)), fun h => Or.inr (Or.inl ⟨K1.out, of_decide_eq_true R1.out, hw, by omega⟩)⟩)
      clear hw
      go_wp2_with fail
      go_ret
      exact ⟨by rw [V.out]; rfl, B2.out⟩
    · have d2 : (m.wri == m.frm) = false := by simp [hw]
      have V := Lib.hid (show partM m = false from decide_eq_false fun h => h.elim (fun h => K0.out h.1) (fun h => h.elim (fun h => hw h.2.2.1) (fun h => by have := K1.out; omega)))
      clear hw
      go_wp2_with fail
      go_ret
      exact ⟨by rw [V.out]; rfl, B2.out⟩
  have d1 : (m.kind == 1) = false := by simp [k1]
  have K1 := Lib.hid k1
  clear k1
  by_cases k2 : m.kind = 2
  · have d2 : (m.kind == 2) = true := by simp [k2]
    have K2 := Lib.hid k2
    clear k2
    go_enter Try.func23, Try.ntmps23
    go_wp2_with fail
    refine (var_is R1.out).mono ?_
    rintro e w2 ⟨rfl, hb⟩
    have B2 := Lib.hid (B1.out.trans (hb.mono B1.out.size))
    have X2 := Lib.hid (X1.out.below hb)
    clear hb B1 X1
    cases r1
    · have V := Lib.hid (show partM m = false from decide_eq_false fun h => h.elim (fun h => K0.out h.1) (fun h => h.elim (fun h => K1.out h.1) (fun h => h.elim (fun h => (of_decide_eq_false R1.out) h.2.1) (fun h => by have := K2.out; omega))))
      go_wp2_with fail
      go_ret
      exact ⟨by rw [V.out]; rfl, B2.out⟩
    obtain ⟨j0, j1, j2, j3, j4, j5, j6, j7, j8, j9⟩ := X2.out
    have V := Lib.hid (show partM m = r2 by
      rw [← R2.out]
      exact decide_eq_decide.2 ⟨fun h => h.elim (fun h => absurd h.1 K0.out) (fun h => h.elim (fun h => absurd h.1 K1.out) (fun h => h.elim (fun h => h.2.2) (fun h => by have := K2.out; omega))), fun h => Or.inr (Or.inr (Or.inl ⟨K2.out, of_decide_eq_true R1.out, h⟩))⟩)
    go_wp2_with fail
    refine (no_is O.out R2.out).mono ?_
    rintro e w3 ⟨rfl, hb⟩
    have B3 := Lib.hid (B2.out.trans (hb.mono B2.out.size))
    clear hb B2
    go_wp2_with fail
    go_ret
    exact ⟨by rw [V.out]; rfl, B3.out⟩
  have d2 : (m.kind == 2) = false := by simp [k2]
  have K2 := Lib.hid k2
  clear k2
  by_cases k3 : m.kind = 3
  · have d3 : (m.kind == 3) = true := by simp [k3]
    have K3 := Lib.hid k3
    clear k3
    go_enter Try.func23, Try.ntmps23
    go_wp2_with fail
    refine (var_is R1.out).mono ?_
    rintro e w2 ⟨rfl, hb⟩
    have B2 := Lib.hid (B1.out.trans (hb.mono B1.out.size))
    have X2 := Lib.hid (X1.out.below hb)
    clear hb B1 X1
    cases r1
    · have V := Lib.hid (show partM m = false from decide_eq_false fun h => h.elim (fun h => K0.out h.1) (fun h => h.elim (fun h => K1.out h.1) (fun h => h.elim (fun h => K2.out h.1) (fun h => (of_decide_eq_false R1.out) h.2.1))))
      go_wp2_with fail
      go_ret
      exact ⟨by rw [V.out]; rfl, B2.out⟩
    obtain ⟨j0, j1, j2, j3, j4, j5, j6, j7, j8, j9⟩ := X2.out
    have V := Lib.hid (show partM m = r3 by
      rw [← R3.out]
      exact decide_eq_decide.2 ⟨fun h => h.elim (fun h => absurd h.1 K0.out) (fun h => h.elim (fun h => absurd h.1 K1.out) (fun h => h.elim (fun h => absurd h.1 K2.out) (fun h => h.2.2))), fun h => Or.inr (Or.inr (Or.inr ⟨K3.out, of_decide_eq_true R1.out, h⟩))⟩)
    go_wp2_with fail
    refine (rd_is R3.out).mono ?_
    rintro e w3 ⟨rfl, hb⟩
    have B3 := Lib.hid (B2.out.trans (hb.mono B2.out.size))
    clear hb B2
    go_wp2_with fail
    go_ret
    exact ⟨by rw [V.out]; rfl, B3.out⟩
  · have d3 : (m.kind == 3) = false := by simp [k3]
    have V := Lib.hid (show partM m = false from decide_eq_false fun h => h.elim (fun h => K0.out h.1) (fun h => h.elim (fun h => K1.out h.1) (fun h => h.elim (fun h => K2.out h.1) (fun h => k3 h.1))))
    clear k3
    go_enter Try.func23, Try.ntmps23
    go_wp2_with fail
    go_ret
    exact ⟨by rw [V.out]; rfl, B1.out⟩

theorem parts_is {m : Msg} {ba : Option Addr} {bc : Nat} {sa : Option Addr} {sc : Nat} {r : Bool} {W : World} (hs : MsgS W m ba bc sa sc) (hk : MsgOk m) (h : partM m = r) :
    Calls Try.prog 23 #[.agg (msgA m ba bc sa sc)] W fun e w' => e = .returned (.bool r) ∧ Below W.heap.size W w' := by
  subst h; exact parts_any m ba bc sa sc W hs hk
theorem way_is {m : Msg} {ba : Option Addr} {bc : Nat} {sa : Option Addr} {sc : Nat} {r : Bool} {W : World} (hs : MsgS W m ba bc sa sc) (hk : MsgOk m) (h : wayM m = r) :
    Calls Try.prog 22 #[.agg (msgA m ba bc sa sc)] W fun e w' => e = .returned (.bool r) ∧ Below W.heap.size W w' := by
  subst h; exact way_any m ba bc sa sc W hs hk

set_option maxHeartbeats 8000000 in
theorem good_any (m : Msg) (ba : Option Addr) (bc : Nat) (sa : Option Addr) (sc : Nat) (W : World) (hs : MsgS W m ba bc sa sc) (hk : MsgOk m) :
    Calls Try.prog 10 #[.agg (msgA m ba bc sa sc)] W fun e w' => e = .returned (.bool (goodM m)) ∧ Below W.heap.size W w' := by
  have hf := hs.fits
  have X1 := Mun.new hs 29
  have O := Lib.hid hk
  clear hk hs
  obtain ⟨r1, e1⟩ : ∃ r, wayM m = r := ⟨_, rfl⟩
  obtain ⟨r2, e2⟩ : ∃ r, partM m = r := ⟨_, rfl⟩
  have R1 := Lib.hid e1
  have R2 := Lib.hid e2
  clear e1 e2
  go_enter Try.func10, Try.ntmps10
  go_wp2_with fail
  generalize W.alloc (.cells (msgA m ba bc sa sc) 29) = w0 at X1 ⊢
  refine (way_is X1.out.sl O.out R1.out).mono ?_
  rintro e w2 ⟨rfl, hb⟩
  have X2 := Mun.of hb X1
  clear hb X1
  obtain ⟨j0, j1, j2, j3, j4, j5, j6, j7, j8, j9⟩ := X2.out.bx
  cases r1
  · have V := Lib.hid (show goodM m = false from decide_eq_false fun h => (of_decide_eq_false R1.out) h.1)
    go_wp2_with fail
    go_ret
    exact ⟨by rw [V.out]; rfl, X2.out.be⟩
  by_cases hn : 0 < m.num
  case neg =>
    have V := Lib.hid (show goodM m = false from decide_eq_false fun h => hn h.2.1)
    have hn' : ¬ (0 : Int) < (m.num : Int) := by omega
    go_wp2_with fail
    go_ret
    exact ⟨by rw [V.out]; rfl, X2.out.be⟩
  have hn' : (0 : Int) < (m.num : Int) := by omega
  go_wp2_with fail
  refine (parts_is X2.out.sl O.out R2.out).mono ?_
  rintro e w3 ⟨rfl, hb⟩
  have X3 := Mun.of hb X2
  clear hb X2 j0 j1 j2 j3 j4 j5 j6 j7 j8 j9
  obtain ⟨j0, j1, j2, j3, j4, j5, j6, j7, j8, j9⟩ := X3.out.bx
  cases r2
  · have V := Lib.hid (show goodM m = false from decide_eq_false fun h => (of_decide_eq_false R2.out) h.2.2.1)
    go_wp2_with fail
    go_ret
    exact ⟨by rw [V.out]; rfl, X3.out.be⟩
  have V := Lib.hid (show goodM m = decide ((m.stp.length : Int) ≤ 20000) by
    refine decide_eq_decide.2 ⟨fun h => by have := h.2.2.2; omega, fun h => ⟨of_decide_eq_true R1.out, hn, of_decide_eq_true R2.out, by omega⟩⟩)
  go_wp2_with fail
  go_ret
  exact ⟨by rw [V.out]; rfl, X3.out.be⟩

theorem good_is {m : Msg} {ba : Option Addr} {bc : Nat} {sa : Option Addr} {sc : Nat} {r : Bool} {W : World} (hs : MsgS W m ba bc sa sc) (hk : MsgOk m) (h : goodM m = r) :
    Calls Try.prog 10 #[.agg (msgA m ba bc sa sc)] W fun e w' => e = .returned (.bool r) ∧ Below W.heap.size W w' := by
  subst h; exact good_any m ba bc sa sc W hs hk

end Go.Proofs.Ytjdnaonhfacpoaa
