/-
  VecSays, VecJoins, VecOrder.
-/
import Derived.Test.YtaobcglcgheboaaBaw
import Derived.Test.YtaobcglcgheboaaBrup
namespace Go.Proofs.Ytaobcglcgheboaa
open Go.RowKit

set_option maxRecDepth 20000 in
set_option maxHeartbeats 8000000 in
theorem law_VecSays (a0 : List Nat) (ao0 : Option Addr) (c0 : Nat) (a1 : List Nat) (ao1 : Option Addr) (c1 : Nat) (z : Int) (W : World) (b0 : SlAt qV 18446744073709551616 W ao0 c0 a0) (b1 : SlAt qV 18446744073709551616 W ao1 c1 a1) :
    Calls Try.prog 4 #[.slice ao0 a0.length c0, .slice ao1 a1.length c1, .int .i64 z] W (VOk W) := by
  have A0 := Lib.hid b0
  have A1 := Lib.hid b1
  clear b0 b1
  have hcase : (decide ((a0.length : Int) > 40) = true ∧ decide (40 < a0.length) = true) ∨ (decide ((a0.length : Int) > 40) = false ∧ decide (40 < a0.length) = false ∧ decide ((a1.length : Int) > 40) = true ∧ decide (40 < a1.length) = true) ∨
      (decide ((a0.length : Int) > 40) = false ∧ decide (40 < a0.length) = false ∧ decide ((a1.length : Int) > 40) = false ∧ decide (40 < a1.length) = false ∧ Hid (a0.length ≤ 40) ∧ Hid (a1.length ≤ 40)) := by
    by_cases h : 40 < a0.length
    · exact Or.inl ⟨decide_eq_true (by omega), decide_eq_true h⟩
    · by_cases h2 : 40 < a1.length
      · exact Or.inr (Or.inl ⟨decide_eq_false (by omega), decide_eq_false h, decide_eq_true (by omega), decide_eq_true h2⟩)
      · exact Or.inr (Or.inr ⟨decide_eq_false (by omega), decide_eq_false h, decide_eq_false (by omega), decide_eq_false h2, Lib.hid (by omega), Lib.hid (by omega)⟩)
  obtain ⟨n, hn⟩ : ∃ n, n = a0.length := ⟨_, rfl⟩
  obtain ⟨m, hm⟩ : ∃ m, m = a1.length := ⟨_, rfl⟩
  rw [← hn, ← hm] at hcase ⊢
  have HN := Lib.hid hn.symm
  have HM := Lib.hid hm.symm
  clear hn hm
  go_enter Try.func4, Try.ntmps4
  go_wp2_with fail
  refine (vawake_any W).mono ?_
  rintro e w1 ⟨rfl, hb⟩
  have B1 := Lib.hid hb
  have X0 := Lib.hid (A0.out.below hb)
  have X1 := Lib.hid (A1.out.below hb)
  clear hb A0 A1
  rcases hcase with ⟨d1, d2⟩ | ⟨d1, d2, d3, d4⟩ | ⟨d1, d2, d3, d4, l1, l2⟩
  · go_wp2_with fail
    go_ret
    exact ⟨rfl, B1.out⟩
  · go_wp2_with fail
    go_ret
    exact ⟨rfl, B1.out⟩
  · have hl1 : n ≤ 100000 := by have := l1.out; omega
    have hl2 : m ≤ 100000 := by have := l2.out; omega
    have UL := Lib.hid (upR_lt (xs := a0) (z := z) X0.out.lt)
    go_wp2_with fail
    refine (vup_any (z := z) X0.out HN.out hl1 rfl rfl).mono ?_
    rintro e w2 ⟨a2, c2, rfl, h2, hb, -⟩
    have B2 := Lib.hid (B1.out.trans (hb.mono B1.out.size))
    have S2 := Lib.hid h2
    have Y0 := Lib.hid (X0.out.below hb)
    have Y1 := Lib.hid (X1.out.below hb)
    clear h2 hb X0 X1 B1
    obtain ⟨r, hr⟩ : ∃ r, r = upR a0 z := ⟨_, rfl⟩
    obtain ⟨p, hp⟩ : ∃ p, p = mayUp a0 z := ⟨_, rfl⟩
    have HR := Lib.hid hr.symm
    have HP := Lib.hid hp.symm
    rw [← hr] at S2 ⊢
    rw [← hp]
    clear hr hp UL
    obtain ⟨k, hk⟩ : ∃ k, k = r.length := ⟨_, rfl⟩
    have HK := Lib.hid hk.symm
    rw [← hk]
    clear hk
    go_wp2_with fail
    refine (rup_any (z := z) Y0.out HN.out hl1 HP.out HR.out).mono ?_
    rintro e w3 ⟨a3, c3, rfl, h3, hb, -⟩
    have B3 := Lib.hid (B2.out.trans (hb.mono B2.out.size))
    have T2 := Lib.hid (S2.out.below hb)
    have S3 := Lib.hid h3
    have Z0 := Lib.hid (Y0.out.below hb)
    have Z1 := Lib.hid (Y1.out.below hb)
    clear h3 hb Y0 Y1 B2 S2
    rw [HK.out]
    go_wp2_with fail
    refine (longs_any (r := true) T2.out S3.out HK.out HK.out (decide_eq_true rfl)).mono ?_
    rintro e w4 ⟨rfl, q, hw⟩
    have B4 := Lib.hid (drewN_b B3.out q)
    have V0 := Lib.hid (Z0.out.drewN q)
    have V1 := Lib.hid (Z1.out.drewN q)
    rw [← hw] at B4 V0 V1
    clear hw T2 S3 Z0 Z1 B3
    have hpp : (p == p) = true := beq_self_eq_true p
    go_wp2_with fail
    refine (vjoin_any V0.out V1.out HN.out HM.out hl1 hl2 rfl).mono ?_
    rintro e w5 ⟨a5, c5, rfl, h5, hb, -⟩
    have B5 := Lib.hid (B4.out.trans (hb.mono B4.out.size))
    have S5 := Lib.hid h5
    have X0 := Lib.hid (V0.out.below hb)
    have X1 := Lib.hid (V1.out.below hb)
    clear h5 hb V0 V1 B4
    obtain ⟨j, hj⟩ : ∃ j, j = joinL a0 a1 := ⟨_, rfl⟩
    have HJ := Lib.hid hj.symm
    rw [← hj] at S5 ⊢
    clear hj
    obtain ⟨l, hl⟩ : ∃ l, l = j.length := ⟨_, rfl⟩
    have HL := Lib.hid hl.symm
    rw [← hl]
    clear hl
    go_wp2_with fail
    refine (rjoin_any X0.out X1.out HN.out HM.out hl1 hl2 HJ.out).mono ?_
    rintro e w6 ⟨a6, c6, rfl, h6, hb, -⟩
    have B6 := Lib.hid (B5.out.trans (hb.mono B5.out.size))
    have S6 := Lib.hid h6
    have T5 := Lib.hid (S5.out.below hb)
    have Y0 := Lib.hid (X0.out.below hb)
    have Y1 := Lib.hid (X1.out.below hb)
    clear h6 hb X0 X1 B5 S5
    rw [HL.out]
    go_wp2_with fail
    refine (longs_any (r := true) T5.out S6.out HL.out HL.out (decide_eq_true rfl)).mono ?_
    rintro e w7 ⟨rfl, q2, hw⟩
    have B7 := Lib.hid (drewN_b B6.out q2)
    have V0 := Lib.hid (Y0.out.drewN q2)
    have V1 := Lib.hid (Y1.out.drewN q2)
    rw [← hw] at B7 V0 V1
    clear hw T5 S6 Y0 Y1 B6
    obtain ⟨y, hy⟩ : ∃ y, y = cmpZ a0 a1 := ⟨_, rfl⟩
    have HY := Lib.hid hy.symm
    clear hy
    obtain ⟨v, hv⟩ : ∃ v, v = atZ a0 z := ⟨_, rfl⟩
    have HV := Lib.hid hv.symm
    clear hv
    have hyy : (y == y) = true := beq_self_eq_true y
    have hvv : ((v : Int) == (v : Int)) = true := beq_self_eq_true _
    go_wp2_with fail
    refine (vcmp_any V0.out V1.out HN.out HM.out HY.out).mono ?_
    rintro e w' ⟨rfl, rfl⟩
    go_wp2_with fail
    refine (rcmp_any V0.out V1.out HN.out HM.out HY.out).mono ?_
    rintro e w' ⟨rfl, rfl⟩
    go_wp2_with fail
    refine (vat_any (z := z) V0.out HN.out HV.out).mono ?_
    rintro e w' ⟨rfl, rfl⟩
    go_wp2_with fail
    refine (rat_any (z := z) V0.out HN.out HV.out).mono ?_
    rintro e w' ⟨rfl, rfl⟩
    go_wp2_with fail
    go_ret
    exact ⟨rfl, B7.out⟩

end Go.Proofs.Ytaobcglcgheboaa
