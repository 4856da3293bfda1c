/-
  VecJoins, VecOrder.
-/
import Derived.Test.YtaobcglcgheboaaBaw
namespace Go.Proofs.Ytaobcglcgheboaa
open Go.RowKit

theorem joinL_comm (a b : List Nat) : joinL b a = joinL a b :=
  row_ext (by rw [joinL_length, joinL_length, Nat.max_comm]) fun i _ => by rw [joinL_at, joinL_at, Nat.max_comm]
theorem joinL_twice (a b : List Nat) : joinL (joinL a b) a = joinL a b :=
  row_ext (by rw [joinL_length, joinL_length]; omega) fun i _ => by rw [joinL_at, joinL_at]; omega
theorem cmp_within {a j : List Nat} (h : wiB a j = true) : cmpZ a j = 0 ∨ cmpZ a j = -1 := by
  unfold cmpZ
  rw [h]
  cases wiB j a
  · exact Or.inr rfl
  · exact Or.inl rfl

set_option maxRecDepth 20000 in
set_option maxHeartbeats 8000000 in
theorem law_VecJoins (a0 : List Nat) (ao0 : Option Addr) (c0 : Nat) (a1 : List Nat) (ao1 : Option Addr) (c1 : Nat) (z : Int) (W : World) (b0 : SlAt qV 18446744073709551616 W ao0 c0 a0) (b1 : SlAt qV 18446744073709551616 W ao1 c1 a1) :
    Calls Try.prog 5 #[.slice ao0 a0.length c0, .slice ao1 a1.length c1, .int .i64 z] W (VOk W) := by
  have A0 := Lib.hid b0
  have A1 := Lib.hid b1
  clear b0 b1
  have hcase : (decide ((a0.length : Int) > 40) = true ∧ decide (40 < a0.length) = true) ∨ (decide ((a0.length : Int) > 40) = false ∧ decide (40 < a0.length) = false ∧ decide ((a1.length : Int) > 40) = true ∧ decide (40 < a1.length) = true) ∨
      (decide ((a0.length : Int) > 40) = false ∧ decide (40 < a0.length) = false ∧ decide ((a1.length : Int) > 40) = false ∧ decide (40 < a1.length) = false ∧ Hid (a0.length ≤ 40) ∧ Hid (a1.length ≤ 40)) := by
    by_cases h : 40 < a0.length
    · exact Or.inl ⟨decide_eq_true (by omega), decide_eq_true h⟩
    · by_cases h2 : 40 < a1.length
      · exact Or.inr (Or.inl ⟨decide_eq_false (by omega), decide_eq_false h, decide_eq_true (by omega), decide_eq_true h2⟩)
      · exact Or.inr (Or.inr ⟨decide_eq_false (by omega), decide_eq_false h, decide_eq_false (by omega), decide_eq_false h2, Lib.hid (by omega), Lib.hid (by omega)⟩)
  obtain ⟨n, hn⟩ : ∃ n, n = a0.length := ⟨_, rfl⟩
  obtain ⟨m, hm⟩ : ∃ m, m = a1.length := ⟨_, rfl⟩
  rw [← hn, ← hm] at hcase ⊢
  have HN := Lib.hid hn.symm
  have HM := Lib.hid hm.symm
  clear hn hm
  go_enter Try.func5, Try.ntmps5
  go_wp2_with fail
  refine (vawake_any W).mono ?_
  rintro e w1 ⟨rfl, hb⟩
  have B1 := Lib.hid hb
  have X0 := Lib.hid (A0.out.below hb)
  have X1 := Lib.hid (A1.out.below hb)
  clear hb A0 A1
  rcases hcase with ⟨d1, d2⟩ | ⟨d1, d2, d3, d4⟩ | ⟨d1, d2, d3, d4, l1, l2⟩
  · go_wp2_with fail
    go_ret
    exact ⟨rfl, B1.out⟩
  · go_wp2_with fail
    go_ret
    exact ⟨rfl, B1.out⟩
  · have hl1 : n ≤ 100000 := by have := l1.out; omega
    have hl2 : m ≤ 100000 := by have := l2.out; omega
    go_wp2_with fail
    refine (vjoin_any X0.out X1.out HN.out HM.out hl1 hl2 rfl).mono ?_
    rintro e w2 ⟨a2, c2, rfl, h2, hb, -⟩
    have B2 := Lib.hid (B1.out.trans (hb.mono B1.out.size))
    have S2 := Lib.hid h2
    have Y0 := Lib.hid (X0.out.below hb)
    have Y1 := Lib.hid (X1.out.below hb)
    clear h2 hb X0 X1 B1
    have W0 := Lib.hid (cmp_within (a := a0) (j := joinL a0 a1) (wiB_iff.2 fun i => by rw [joinL_at]; omega))
    have W1 := Lib.hid (cmp_within (a := a1) (j := joinL a0 a1) (wiB_iff.2 fun i => by rw [joinL_at]; omega))
    have JC := Lib.hid (joinL_comm a0 a1)
    have JT := Lib.hid (joinL_twice a0 a1)
    have JL := Lib.hid (show (joinL a0 a1).length ≤ 100000 by rw [joinL_length, HN.out, HM.out]; omega)
    obtain ⟨j, hj⟩ : ∃ j, j = joinL a0 a1 := ⟨_, rfl⟩
    rw [← hj] at S2 W0 W1 JC JT JL ⊢
    clear hj
    obtain ⟨k, hk⟩ : ∃ k, k = j.length := ⟨_, rfl⟩
    have HK := Lib.hid hk.symm
    rw [← hk] at JL ⊢
    clear hk
    rcases W0.out with e1 | e1
    all_goals
      rcases W1.out with e2 | e2
      all_goals
        have E1 := Lib.hid e1
        have E2 := Lib.hid e2
        clear e1 e2 W0 W1
        go_wp2_with fail
        refine (vcmp_any Y0.out S2.out HN.out HK.out E1.out).mono ?_
        rintro e w' ⟨rfl, rfl⟩
        go_wp2_with fail
        refine (vcmp_any Y1.out S2.out HM.out HK.out E2.out).mono ?_
        rintro e w' ⟨rfl, rfl⟩
        clear E1 E2
        obtain ⟨p, hp⟩ : ∃ p, p = mayUp a0 z := ⟨_, rfl⟩
        have HP := Lib.hid hp.symm
        clear hp
        obtain ⟨u, hu⟩ : ∃ u, u = upR a0 z := ⟨_, rfl⟩
        have HU := Lib.hid hu.symm
        clear hu
        obtain ⟨ul, hul⟩ : ∃ ul, ul = u.length := ⟨_, rfl⟩
        have HUL := Lib.hid hul.symm
        clear hul
        go_wp2_with fail
        refine (cl_up (z := z) Y0.out HN.out hl1 HP.out HU.out HUL.out).mono ?_
        rintro e w3 ⟨a3, c3, rfl, h3, hb, -⟩
        have B3 := Lib.hid (B2.out.trans (hb.mono B2.out.size))
        have S3 := Lib.hid (S2.out.below hb)
        have U3 := Lib.hid h3
        have Z0 := Lib.hid (Y0.out.below hb)
        have Z1 := Lib.hid (Y1.out.below hb)
        clear h3 hb Y0 Y1 B2 S2
        go_wp2_with fail
        refine (cl_join Z1.out Z0.out HM.out HN.out hl2 hl1 JC.out HK.out).mono ?_
        rintro e w4 ⟨a4, c4, rfl, h4, hb, -⟩
        have B4 := Lib.hid (B3.out.trans (hb.mono B3.out.size))
        have S4 := Lib.hid (S3.out.below hb)
        have U4 := Lib.hid (U3.out.below hb)
        have X0 := Lib.hid (Z0.out.below hb)
        have T4 := Lib.hid h4
        clear h4 hb Z0 Z1 B3 S3 U3
        go_wp2_with fail
        refine (longs_any (r := true) T4.out S4.out HK.out HK.out (decide_eq_true rfl)).mono ?_
        rintro e w5 ⟨rfl, q, hw⟩
        have B5 := Lib.hid (drewN_b B4.out q)
        have S5 := Lib.hid (S4.out.drewN q)
        have U5 := Lib.hid (U4.out.drewN q)
        have Y0 := Lib.hid (X0.out.drewN q)
        rw [← hw] at B5 S5 U5 Y0
        clear hw T4 S4 U4 X0 B4
        go_wp2_with fail
        refine (cl_join S5.out Y0.out HK.out HN.out JL.out hl1 JT.out HK.out).mono ?_
        rintro e w6 ⟨a6, c6, rfl, h6, hb, -⟩
        have B6 := Lib.hid (B5.out.trans (hb.mono B5.out.size))
        have S6 := Lib.hid (S5.out.below hb)
        have U6 := Lib.hid (U5.out.below hb)
        have X0 := Lib.hid (Y0.out.below hb)
        have T6 := Lib.hid h6
        clear h6 hb Y0 B5 S5 U5
        go_wp2_with fail
        refine (longs_any (r := true) T6.out S6.out HK.out HK.out (decide_eq_true rfl)).mono ?_
        rintro e w7 ⟨rfl, q7, hw⟩
        have B7 := Lib.hid (drewN_b B6.out q7)
        have U7 := Lib.hid (U6.out.drewN q7)
        have Y0 := Lib.hid (X0.out.drewN q7)
        rw [← hw] at B7 U7 Y0
        clear hw T6 S6 U6 X0 B6
        go_wp2_with fail
        refine (vcmp_any (z := 0) Y0.out Y0.out HN.out HN.out (cmpZ_self a0)).mono ?_
        rintro e w' ⟨rfl, rfl⟩
        cases p
        · go_wp2_with fail
          go_ret
          exact ⟨rfl, B7.out⟩
        · obtain ⟨i, rfl, hi, hne⟩ := mayUp_is HP.out
          have HU2 := Lib.hid (show u = upL a0 i from by rw [← HU.out]; exact upR_yes HP.out)
          have E3 := Lib.hid (show cmpZ a0 u = -1 from cmpZ_lt (i := i) (fun k => by rw [HU2.out, upL_at]; omega) (by rw [HU2.out, upL_at, if_pos rfl]; omega))
          obtain ⟨v, hv⟩ : ∃ v, v = atN a0 i := ⟨_, rfl⟩
          have A1 := Lib.hid (show atZ a0 (i : Int) = v from by rw [hv]; exact atZ_nat ..)
          have A2 := Lib.hid (show atZ u (i : Int) = v + 1 from by rw [hv, atZ_nat, HU2.out, upL_at, if_pos rfl])
          have hlt : v < 18446744073709551615 := by
            have : v < QM := by rw [hv]; exact atN_lt (by decide) Y0.out.lt i
            unfold QM at this
            omega
          obtain ⟨v1, hv1⟩ : ∃ v1, v1 = v + 1 := ⟨_, rfl⟩
          have wv : IntKind.u64.wrap ((v : Int) + 1) = (v1 : Int) := by rw [wrapQ (by omega)]; omega
          rw [← hv1] at A2
          have hvv : ((v1 : Int) == (v1 : Int)) = true := beq_self_eq_true _
          clear hne hv hlt hv1 HU2
          go_wp2_with fail
          refine (vcmp_any (z := -1) Y0.out U7.out HN.out HUL.out E3.out).mono ?_
          rintro e w' ⟨rfl, rfl⟩
          go_wp2_with fail
          refine (vat_any (z := (i : Int)) U7.out HUL.out A2.out).mono ?_
          rintro e w' ⟨rfl, rfl⟩
          go_wp2_with fail
          refine (vat_any (z := (i : Int)) Y0.out HN.out A1.out).mono ?_
          rintro e w' ⟨rfl, rfl⟩
          go_wp2_with fail
          go_ret
          exact ⟨rfl, B7.out⟩

theorem len30 {n : Nat} : (decide ((n : Int) > 30) = true ∧ decide (30 < n) = true) ∨ (decide ((n : Int) > 30) = false ∧ decide (30 < n) = false ∧ Hid (n ≤ 30)) := by
  by_cases h : 30 < n
  · exact Or.inl ⟨decide_eq_true (by omega), decide_eq_true h⟩
  · exact Or.inr ⟨decide_eq_false (by omega), decide_eq_false h, Lib.hid (by omega)⟩
theorem cmp_pair (a b : List Nat) : (cmpZ a b = 0 ∧ cmpZ b a = 0) ∨ (cmpZ a b = -1 ∧ cmpZ b a = 1) ∨ (cmpZ a b = 1 ∧ cmpZ b a = -1) ∨ (cmpZ a b = 2 ∧ cmpZ b a = 2) := by
  unfold cmpZ
  cases wiB a b <;> cases wiB b a
  · exact Or.inr (Or.inr (Or.inr ⟨rfl, rfl⟩))
  · exact Or.inr (Or.inr (Or.inl ⟨rfl, rfl⟩))
  · exact Or.inr (Or.inl ⟨rfl, rfl⟩)
  · exact Or.inl ⟨rfl, rfl⟩
theorem cmp_trans {a b c : List Nat} (h1 : cmpZ a b ≤ 0) (h2 : cmpZ b c ≤ 0) : cmpZ a c ≤ 0 :=
  cmpZ_le.2 (wiB_iff.2 fun i => Nat.le_trans (wiB_iff.1 (cmpZ_le.1 h1) i) (wiB_iff.1 (cmpZ_le.1 h2) i))

set_option maxRecDepth 20000 in
set_option maxHeartbeats 8000000 in
theorem law_VecOrder (a0 : List Nat) (ao0 : Option Addr) (c0 : Nat) (a1 : List Nat) (ao1 : Option Addr) (c1 : Nat) (a2 : List Nat) (ao2 : Option Addr) (c2 : Nat) (W : World) (b0 : SlAt qV 18446744073709551616 W ao0 c0 a0) (b1 : SlAt qV 18446744073709551616 W ao1 c1 a1) (b2 : SlAt qV 18446744073709551616 W ao2 c2 a2) :
    Calls Try.prog 6 #[.slice ao0 a0.length c0, .slice ao1 a1.length c1, .slice ao2 a2.length c2] W (VOk W) := by
  have A0 := Lib.hid b0
  have A1 := Lib.hid b1
  have A2 := Lib.hid b2
  clear b0 b1 b2
  have hc0 := len30 (n := a0.length)
  have hc1 := len30 (n := a1.length)
  have hc2 := len30 (n := a2.length)
  obtain ⟨n, hn⟩ : ∃ n, n = a0.length := ⟨_, rfl⟩
  obtain ⟨m, hm⟩ : ∃ m, m = a1.length := ⟨_, rfl⟩
  obtain ⟨o, ho⟩ : ∃ o, o = a2.length := ⟨_, rfl⟩
  rw [← hn] at hc0 ⊢
  rw [← hm] at hc1 ⊢
  rw [← ho] at hc2 ⊢
  have HN := Lib.hid hn.symm
  have HM := Lib.hid hm.symm
  have HO := Lib.hid ho.symm
  clear hn hm ho
  go_enter Try.func6, Try.ntmps6
  go_wp2_with fail
  refine (vawake_any W).mono ?_
  rintro e w1 ⟨rfl, hb⟩
  have B1 := Lib.hid hb
  have X0 := Lib.hid (A0.out.below hb)
  have X1 := Lib.hid (A1.out.below hb)
  have X2 := Lib.hid (A2.out.below hb)
  clear hb A0 A1 A2
  rcases hc0 with ⟨d1, d2⟩ | ⟨d1, d2, l1⟩
  · clear hc1 hc2
    go_wp2_with fail
    go_ret
    exact ⟨rfl, B1.out⟩
  · rcases hc1 with ⟨e1, e2⟩ | ⟨e1, e2, l2⟩
    · clear hc2
      go_wp2_with fail
      go_ret
      exact ⟨rfl, B1.out⟩
    · rcases hc2 with ⟨f1, f2⟩ | ⟨f1, f2, l3⟩
      · go_wp2_with fail
        go_ret
        exact ⟨rfl, B1.out⟩
      · obtain ⟨y, hy⟩ : ∃ y, y = cmpZ a1 a2 := ⟨_, rfl⟩
        obtain ⟨t, ht⟩ : ∃ t, t = cmpZ a0 a2 := ⟨_, rfl⟩
        have HY := Lib.hid hy.symm
        have HT := Lib.hid ht.symm
        have hyc : decide (y ≤ 0) = false ∨ (decide (y ≤ 0) = true ∧ Hid (y ≤ 0)) := by
          by_cases h : y ≤ 0
          · exact Or.inr ⟨decide_eq_true h, Lib.hid h⟩
          · exact Or.inl (decide_eq_false h)
        clear hy ht
        have hp := cmp_pair a0 a1
        rcases hp with ⟨p, q⟩ | ⟨p, q⟩ | ⟨p, q⟩ | ⟨p, q⟩
        · have HP := Lib.hid p
          have HQ := Lib.hid q
          clear p q
          rcases hyc with hy1 | ⟨hy1, hy2⟩
          · go_wp2_with fail
            refine (vcmp_any X0.out X1.out HN.out HM.out HP.out).mono ?_
            rintro e w' ⟨rfl, rfl⟩
            go_wp2_with fail
            refine (vcmp_any X1.out X2.out HM.out HO.out HY.out).mono ?_
            rintro e w' ⟨rfl, rfl⟩
            go_wp2_with fail
            refine (vcmp_any X0.out X2.out HN.out HO.out HT.out).mono ?_
            rintro e w' ⟨rfl, rfl⟩
            go_wp2_with fail
            refine (vcmp_any X1.out X0.out HM.out HN.out HQ.out).mono ?_
            rintro e w' ⟨rfl, rfl⟩
            go_wp2_with fail
            go_ret
            exact ⟨rfl, B1.out⟩
          · have ht : decide (t > 0) = false := decide_eq_false (by have h0 := HP.out; have := cmp_trans (a := a0) (b := a1) (c := a2) (by omega) (by rw [HY.out]; exact hy2.out); rw [HT.out] at this; omega)
            have ht2 : decide (0 < t) = false := ht
            go_wp2_with fail
            refine (vcmp_any X0.out X1.out HN.out HM.out HP.out).mono ?_
            rintro e w' ⟨rfl, rfl⟩
            go_wp2_with fail
            refine (vcmp_any X1.out X2.out HM.out HO.out HY.out).mono ?_
            rintro e w' ⟨rfl, rfl⟩
            go_wp2_with fail
            refine (vcmp_any X0.out X2.out HN.out HO.out HT.out).mono ?_
            rintro e w' ⟨rfl, rfl⟩
            go_wp2_with fail
            refine (vcmp_any X1.out X0.out HM.out HN.out HQ.out).mono ?_
            rintro e w' ⟨rfl, rfl⟩
            go_wp2_with fail
            go_ret
            exact ⟨rfl, B1.out⟩
        · have HP := Lib.hid p
          have HQ := Lib.hid q
          clear p q
          rcases hyc with hy1 | ⟨hy1, hy2⟩
          · go_wp2_with fail
            refine (vcmp_any X0.out X1.out HN.out HM.out HP.out).mono ?_
            rintro e w' ⟨rfl, rfl⟩
            go_wp2_with fail
            refine (vcmp_any X1.out X2.out HM.out HO.out HY.out).mono ?_
            rintro e w' ⟨rfl, rfl⟩
            go_wp2_with fail
            refine (vcmp_any X0.out X2.out HN.out HO.out HT.out).mono ?_
            rintro e w' ⟨rfl, rfl⟩
            go_wp2_with fail
            refine (vcmp_any X1.out X0.out HM.out HN.out HQ.out).mono ?_
            rintro e w' ⟨rfl, rfl⟩
            go_wp2_with fail
            go_ret
            exact ⟨rfl, B1.out⟩
          · have ht : decide (t > 0) = false := decide_eq_false (by have h0 := HP.out; have := cmp_trans (a := a0) (b := a1) (c := a2) (by omega) (by rw [HY.out]; exact hy2.out); rw [HT.out] at this; omega)
            have ht2 : decide (0 < t) = false := ht
            go_wp2_with fail
            refine (vcmp_any X0.out X1.out HN.out HM.out HP.out).mono ?_
            rintro e w' ⟨rfl, rfl⟩
            go_wp2_with fail
            refine (vcmp_any X1.out X2.out HM.out HO.out HY.out).mono ?_
            rintro e w' ⟨rfl, rfl⟩
            go_wp2_with fail
            refine (vcmp_any X0.out X2.out HN.out HO.out HT.out).mono ?_
            rintro e w' ⟨rfl, rfl⟩
            go_wp2_with fail
            refine (vcmp_any X1.out X0.out HM.out HN.out HQ.out).mono ?_
            rintro e w' ⟨rfl, rfl⟩
            go_wp2_with fail
            go_ret
            exact ⟨rfl, B1.out⟩
        all_goals
          have HP := Lib.hid p
          have HQ := Lib.hid q
          clear p q hyc
          go_wp2_with fail
          refine (vcmp_any X0.out X1.out HN.out HM.out HP.out).mono ?_
          rintro e w' ⟨rfl, rfl⟩
          go_wp2_with fail
          refine (vcmp_any X1.out X2.out HM.out HO.out HY.out).mono ?_
          rintro e w' ⟨rfl, rfl⟩
          go_wp2_with fail
          refine (vcmp_any X0.out X2.out HN.out HO.out HT.out).mono ?_
          rintro e w' ⟨rfl, rfl⟩
          go_wp2_with fail
          refine (vcmp_any X1.out X0.out HM.out HN.out HQ.out).mono ?_
          rintro e w' ⟨rfl, rfl⟩
          go_wp2_with fail
          go_ret
          exact ⟨rfl, B1.out⟩

end Go.Proofs.Ytaobcglcgheboaa
