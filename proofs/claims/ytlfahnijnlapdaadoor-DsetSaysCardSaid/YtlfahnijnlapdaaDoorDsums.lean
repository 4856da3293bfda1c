/-
  Of two sets: who is in both, in one, in none: the walk of the statement.
-/
import Derived.Test.YtlfahnijnlapdaaDoorDaw
namespace Go.Proofs.YtlfahnijnlapdaaDoor
open Go.RowKit

/-- All of s but those of t. -/
def butN (s t : Nat) : Nat := s &&& (18446744073709551615 - t)
theorem but_lt {s : Nat} (t : Nat) (h : s < 18446744073709551616) : butN s t < 18446744073709551616 := and_lt h
theorem but_test {s t : Nat} (ht : t < 18446744073709551616) (i : Nat) (hi : i < 64) : (butN s t).testBit i = (s.testBit i && !t.testBit i) := by
  unfold butN
  rw [Nat.testBit_and, show 18446744073709551615 - t = 2 ^ 64 - (t + 1) by omega, Nat.testBit_two_pow_sub_succ ht, decide_eq_true hi, Bool.true_and]
theorem has_or (s t : Nat) (p : Int) : hasN (s ||| t) p = (hasN s p || hasN t p) := by
  unfold hasN; rw [Nat.testBit_or]
  cases decide (0 ≤ p ∧ p < 64) <;> simp
theorem has_and (s t : Nat) (p : Int) : hasN (s &&& t) p = (hasN s p && hasN t p) := by
  unfold hasN; rw [Nat.testBit_and]
  cases decide (0 ≤ p ∧ p < 64) <;> simp
theorem has_but {s t : Nat} (ht : t < 18446744073709551616) (p : Int) : hasN (butN s t) p = (hasN s p && !hasN t p) := by
  unfold hasN
  by_cases h : 0 ≤ p ∧ p < 64
  · rw [but_test ht _ (by omega), decide_eq_true h]; simp
  · rw [decide_eq_false h]; simp
theorem filter_sum (p q : Nat → Bool) : ∀ (l : List Nat), (l.filter fun i => p i || q i).length + (l.filter fun i => p i && q i).length = (l.filter p).length + (l.filter q).length
  | [] => rfl
  | x :: r => by
    have ih := filter_sum p q r
    simp only [List.filter_cons]
    cases p x <;> cases q x <;> simp <;> omega
theorem cnt_sum (s t : Nat) : cntN (s ||| t) + cntN (s &&& t) = cntN s + cntN t := by
  unfold cntN listN toN
  rw [← filter_sum (fun i => s.testBit i) (fun i => t.testBit i) (List.range 64)]
  congr 2
  · congr 1; funext i; rw [Nat.testBit_or]
  · congr 1; funext i; rw [Nat.testBit_and]
theorem but_zero {s t : Nat} (hs : s < 18446744073709551616) (ht : t < 18446744073709551616) : butN s t = 0 ↔ ∀ i, i < 64 → s.testBit i = true → t.testBit i = true := by
  constructor
  · intro h i hi h1
    have := but_test (s := s) ht i hi
    rw [h, h1] at this
    cases hb : t.testBit i
    · rw [hb] at this; simp at this
    · rfl
  · intro h
    refine word_ext (but_lt t hs) (by decide) fun i hi => ?_
    rw [but_test ht i hi]
    cases h1 : s.testBit i
    · simp
    · rw [h i hi h1]; simp
theorem or_is {s t : Nat} (hs : s < 18446744073709551616) (ht : t < 18446744073709551616) : s ||| t = t ↔ butN s t = 0 := by
  rw [but_zero hs ht]
  constructor
  · intro h i _ h1
    rw [← h, Nat.testBit_or, h1]; rfl
  · intro h
    refine word_ext (or_lt hs ht) ht fun i hi => ?_
    rw [Nat.testBit_or]
    cases h1 : s.testBit i
    · simp
    · rw [h i hi h1]; rfl

theorem within_is {s t : Nat} {r : Bool} {W : World} (hs : s < 18446744073709551616) (ht : t < 18446744073709551616) (h : decide (butN s t = 0) = r) :
    Calls Tryd.prog 15 #[.int .u64 (s : Nat), .int .u64 (t : Nat)] W fun e w' => e = .returned (.bool r) ∧ W = w' := by
  subst h
  exact within_any s t W hs ht
theorem count_is {s n : Nat} {W : World} (hs : s < 18446744073709551616) (h : cntN s = n) :
    Calls Tryd.prog 14 #[.int .u64 (s : Nat)] W fun e w' => e = .returned (.int .i64 (n : Nat)) ∧ W = w' := by
  subst h
  exact count_any s W hs

set_option maxRecDepth 20000 in
set_option maxHeartbeats 8000000 in
theorem law_DsetSums (s t : Nat) (p : Int) (W : World) (hG : Good W) (hs : s < 18446744073709551616) (ht : t < 18446744073709551616) (hp : IntOk p) : Calls Tryd.prog 6 #[.int .u64 (s : Nat), .int .u64 (t : Nat), .int .i64 p] W (OkPost W) := by
  have G := Lib.hid hG
  have HP := Lib.hid hp
  clear hG hp
  have e1 := u64_or_nat s t hs ht
  have e2 := u64_and_nat s t hs ht
  have e3 : bits .andNot .u64 (s : Int) (t : Int) = ((butN s t : Nat) : Int) := u64_andNot_nat s t hs ht
  have lO := or_lt hs ht
  have lA := and_lt (b := t) hs
  have lD := but_lt t hs
  have HO := Lib.hid (has_or s t p)
  have HA := Lib.hid (has_and s t p)
  have HD := Lib.hid (has_but (s := s) ht p)
  have W1 := Lib.hid (show decide (butN (s &&& t) s = 0) = true from decide_eq_true ((but_zero lA hs).2 fun i _ h => by rw [Nat.testBit_and] at h; simp at h; exact h.1))
  have W2 := Lib.hid (show decide (butN s (s ||| t) = 0) = true from decide_eq_true ((but_zero hs lO).2 fun i _ h => by rw [Nat.testBit_or, h]; rfl))
  obtain ⟨r, hr⟩ : ∃ r, decide (butN s t = 0) = r := ⟨_, rfl⟩
  have hq : (((s ||| t : Nat) : Int) == (t : Int)) = r := by
    rw [← hr, Bool.beq_eq_decide_eq]
    apply decide_eq_decide.2
    rw [← or_is hs ht]
    omega
  have W3 := Lib.hid (fun (V : World) => within_is (W := V) hs ht hr)
  clear hr
  have hc := cnt_sum s t
  have k1 := cntN_le s
  have k2 := cntN_le t
  have k3 := cntN_le (s ||| t)
  have k4 := cntN_le (s &&& t)
  obtain ⟨n1, hn1⟩ : ∃ n, cntN s = n := ⟨_, rfl⟩
  obtain ⟨n2, hn2⟩ : ∃ n, cntN t = n := ⟨_, rfl⟩
  obtain ⟨n3, hn3⟩ : ∃ n, cntN (s ||| t) = n := ⟨_, rfl⟩
  obtain ⟨n4, hn4⟩ : ∃ n, cntN (s &&& t) = n := ⟨_, rfl⟩
  rw [hn1, hn2, hn3, hn4] at hc
  rw [hn1] at k1
  rw [hn2] at k2
  rw [hn3] at k3
  rw [hn4] at k4
  have N1 := Lib.hid hn1
  have N2 := Lib.hid hn2
  have N3 := Lib.hid hn3
  have N4 := Lib.hid hn4
  clear hn1 hn2 hn3 hn4
  generalize s ||| t = o at *
  generalize s &&& t = a at *
  generalize butN s t = d at *
  have hsum : (((n3 : Nat) : Int) + ((n4 : Nat) : Int) == ((n1 : Nat) : Int) + ((n2 : Nat) : Int)) = true := by
    rw [beq_iff_eq]; omega
  clear hc
  go_enter Tryd.func6, Tryd.ntmps6
  go_wp2_with fail
  refine (awake_any W G.out).mono ?_
  rintro e w0 ⟨rfl, hb0⟩
  have B0 := Lib.hid hb0
  clear hb0
  go_wp2_with fail
  refine (count_is lO N3.out).mono ?_
  rintro e w' ⟨rfl, rfl⟩
  go_wp2_with fail
  refine (count_is lA N4.out).mono ?_
  rintro e w' ⟨rfl, rfl⟩
  go_wp2_with fail
  refine (count_is hs N1.out).mono ?_
  rintro e w' ⟨rfl, rfl⟩
  go_wp2_with fail
  refine (count_is ht N2.out).mono ?_
  rintro e w' ⟨rfl, rfl⟩
  go_wp2_with fail
  cases hva : hasN s p <;> cases hvb : hasN t p
  · have VS := Lib.hid hva
    have VT := Lib.hid hvb
    clear hva hvb
    have VO := Lib.hid (show hasN o p = false by rw [HO.out, VS.out, VT.out]; rfl)
    have VA := Lib.hid (show hasN a p = false by rw [HA.out, VS.out, VT.out]; rfl)
    have VD := Lib.hid (show hasN d p = false by rw [HD.out, VS.out, VT.out]; rfl)
    refine (has_is lO rfl HP.out VO.out).mono ?_
    rintro e w1 ⟨rfl, hb⟩
    have B1 := Lib.hid (B0.out.trans (hb.mono B0.out.size))
    clear hb B0
    go_wp2_with fail
    refine (has_is hs rfl HP.out VS.out).mono ?_
    rintro e w2 ⟨rfl, hb⟩
    have B2 := Lib.hid (B1.out.trans (hb.mono B1.out.size))
    clear hb B1
    go_wp2_with fail
    refine (has_is ht rfl HP.out VT.out).mono ?_
    rintro e w3 ⟨rfl, hb⟩
    have B3 := Lib.hid (B2.out.trans (hb.mono B2.out.size))
    clear hb B2
    go_wp2_with fail
    refine (has_is lA rfl HP.out VA.out).mono ?_
    rintro e w4 ⟨rfl, hb⟩
    have B4 := Lib.hid (B3.out.trans (hb.mono B3.out.size))
    clear hb B3
    go_wp2_with fail
    refine (has_is hs rfl HP.out VS.out).mono ?_
    rintro e w5 ⟨rfl, hb⟩
    have B5 := Lib.hid (B4.out.trans (hb.mono B4.out.size))
    clear hb B4
    go_wp2_with fail
    refine (has_is lD rfl HP.out VD.out).mono ?_
    rintro e w6 ⟨rfl, hb⟩
    have B6 := Lib.hid (B5.out.trans (hb.mono B5.out.size))
    clear hb B5
    go_wp2_with fail
    refine (has_is hs rfl HP.out VS.out).mono ?_
    rintro e w7 ⟨rfl, hb⟩
    have B7 := Lib.hid (B6.out.trans (hb.mono B6.out.size))
    clear hb B6
    go_wp2_with fail
    refine (within_is lA hs W1.out).mono ?_
    rintro e w' ⟨rfl, rfl⟩
    go_wp2_with fail
    refine (within_is hs lO W2.out).mono ?_
    rintro e w' ⟨rfl, rfl⟩
    go_wp2_with fail
    refine (W3.out _).mono ?_
    rintro e w' ⟨rfl, rfl⟩
    go_wp2_with fail
    go_ret
    exact ⟨rfl, B7.out⟩
  · have VS := Lib.hid hva
    have VT := Lib.hid hvb
    clear hva hvb
    have VO := Lib.hid (show hasN o p = true by rw [HO.out, VS.out, VT.out]; rfl)
    have VA := Lib.hid (show hasN a p = false by rw [HA.out, VS.out, VT.out]; rfl)
    have VD := Lib.hid (show hasN d p = false by rw [HD.out, VS.out, VT.out]; rfl)
    refine (has_is lO rfl HP.out VO.out).mono ?_
    rintro e w1 ⟨rfl, hb⟩
    have B1 := Lib.hid (B0.out.trans (hb.mono B0.out.size))
    clear hb B0
    go_wp2_with fail
    refine (has_is hs rfl HP.out VS.out).mono ?_
    rintro e w2 ⟨rfl, hb⟩
    have B2 := Lib.hid (B1.out.trans (hb.mono B1.out.size))
    clear hb B1
    go_wp2_with fail
    refine (has_is ht rfl HP.out VT.out).mono ?_
    rintro e w3 ⟨rfl, hb⟩
    have B3 := Lib.hid (B2.out.trans (hb.mono B2.out.size))
    clear hb B2
    go_wp2_with fail
    refine (has_is lA rfl HP.out VA.out).mono ?_
    rintro e w4 ⟨rfl, hb⟩
    have B4 := Lib.hid (B3.out.trans (hb.mono B3.out.size))
    clear hb B3
    go_wp2_with fail
    refine (has_is hs rfl HP.out VS.out).mono ?_
    rintro e w5 ⟨rfl, hb⟩
    have B5 := Lib.hid (B4.out.trans (hb.mono B4.out.size))
    clear hb B4
    go_wp2_with fail
    refine (has_is lD rfl HP.out VD.out).mono ?_
    rintro e w6 ⟨rfl, hb⟩
    have B6 := Lib.hid (B5.out.trans (hb.mono B5.out.size))
    clear hb B5
    go_wp2_with fail
    refine (has_is hs rfl HP.out VS.out).mono ?_
    rintro e w7 ⟨rfl, hb⟩
    have B7 := Lib.hid (B6.out.trans (hb.mono B6.out.size))
    clear hb B6
    go_wp2_with fail
    refine (within_is lA hs W1.out).mono ?_
    rintro e w' ⟨rfl, rfl⟩
    go_wp2_with fail
    refine (within_is hs lO W2.out).mono ?_
    rintro e w' ⟨rfl, rfl⟩
    go_wp2_with fail
    refine (W3.out _).mono ?_
    rintro e w' ⟨rfl, rfl⟩
    go_wp2_with fail
    go_ret
    exact ⟨rfl, B7.out⟩
  · have VS := Lib.hid hva
    have VT := Lib.hid hvb
    clear hva hvb
    have VO := Lib.hid (show hasN o p = true by rw [HO.out, VS.out, VT.out]; rfl)
    have VA := Lib.hid (show hasN a p = false by rw [HA.out, VS.out, VT.out]; rfl)
    have VD := Lib.hid (show hasN d p = true by rw [HD.out, VS.out, VT.out]; rfl)
    refine (has_is lO rfl HP.out VO.out).mono ?_
    rintro e w1 ⟨rfl, hb⟩
    have B1 := Lib.hid (B0.out.trans (hb.mono B0.out.size))
    clear hb B0
    go_wp2_with fail
    refine (has_is hs rfl HP.out VS.out).mono ?_
    rintro e w2 ⟨rfl, hb⟩
    have B2 := Lib.hid (B1.out.trans (hb.mono B1.out.size))
    clear hb B1
    go_wp2_with fail
    refine (has_is lA rfl HP.out VA.out).mono ?_
    rintro e w3 ⟨rfl, hb⟩
    have B3 := Lib.hid (B2.out.trans (hb.mono B2.out.size))
    clear hb B2
    go_wp2_with fail
    refine (has_is hs rfl HP.out VS.out).mono ?_
    rintro e w4 ⟨rfl, hb⟩
    have B4 := Lib.hid (B3.out.trans (hb.mono B3.out.size))
    clear hb B3
    go_wp2_with fail
    refine (has_is ht rfl HP.out VT.out).mono ?_
    rintro e w5 ⟨rfl, hb⟩
    have B5 := Lib.hid (B4.out.trans (hb.mono B4.out.size))
    clear hb B4
    go_wp2_with fail
    refine (has_is lD rfl HP.out VD.out).mono ?_
    rintro e w6 ⟨rfl, hb⟩
    have B6 := Lib.hid (B5.out.trans (hb.mono B5.out.size))
    clear hb B5
    go_wp2_with fail
    refine (has_is hs rfl HP.out VS.out).mono ?_
    rintro e w7 ⟨rfl, hb⟩
    have B7 := Lib.hid (B6.out.trans (hb.mono B6.out.size))
    clear hb B6
    go_wp2_with fail
    refine (has_is ht rfl HP.out VT.out).mono ?_
    rintro e w8 ⟨rfl, hb⟩
    have B8 := Lib.hid (B7.out.trans (hb.mono B7.out.size))
    clear hb B7
    go_wp2_with fail
    refine (within_is lA hs W1.out).mono ?_
    rintro e w' ⟨rfl, rfl⟩
    go_wp2_with fail
    refine (within_is hs lO W2.out).mono ?_
    rintro e w' ⟨rfl, rfl⟩
    go_wp2_with fail
    refine (W3.out _).mono ?_
    rintro e w' ⟨rfl, rfl⟩
    go_wp2_with fail
    go_ret
    exact ⟨rfl, B8.out⟩
  · have VS := Lib.hid hva
    have VT := Lib.hid hvb
    clear hva hvb
    have VO := Lib.hid (show hasN o p = true by rw [HO.out, VS.out, VT.out]; rfl)
    have VA := Lib.hid (show hasN a p = true by rw [HA.out, VS.out, VT.out]; rfl)
    have VD := Lib.hid (show hasN d p = false by rw [HD.out, VS.out, VT.out]; rfl)
    refine (has_is lO rfl HP.out VO.out).mono ?_
    rintro e w1 ⟨rfl, hb⟩
    have B1 := Lib.hid (B0.out.trans (hb.mono B0.out.size))
    clear hb B0
    go_wp2_with fail
    refine (has_is hs rfl HP.out VS.out).mono ?_
    rintro e w2 ⟨rfl, hb⟩
    have B2 := Lib.hid (B1.out.trans (hb.mono B1.out.size))
    clear hb B1
    go_wp2_with fail
    refine (has_is lA rfl HP.out VA.out).mono ?_
    rintro e w3 ⟨rfl, hb⟩
    have B3 := Lib.hid (B2.out.trans (hb.mono B2.out.size))
    clear hb B2
    go_wp2_with fail
    refine (has_is hs rfl HP.out VS.out).mono ?_
    rintro e w4 ⟨rfl, hb⟩
    have B4 := Lib.hid (B3.out.trans (hb.mono B3.out.size))
    clear hb B3
    go_wp2_with fail
    refine (has_is ht rfl HP.out VT.out).mono ?_
    rintro e w5 ⟨rfl, hb⟩
    have B5 := Lib.hid (B4.out.trans (hb.mono B4.out.size))
    clear hb B4
    go_wp2_with fail
    refine (has_is lD rfl HP.out VD.out).mono ?_
    rintro e w6 ⟨rfl, hb⟩
    have B6 := Lib.hid (B5.out.trans (hb.mono B5.out.size))
    clear hb B5
    go_wp2_with fail
    refine (has_is hs rfl HP.out VS.out).mono ?_
    rintro e w7 ⟨rfl, hb⟩
    have B7 := Lib.hid (B6.out.trans (hb.mono B6.out.size))
    clear hb B6
    go_wp2_with fail
    refine (has_is ht rfl HP.out VT.out).mono ?_
    rintro e w8 ⟨rfl, hb⟩
    have B8 := Lib.hid (B7.out.trans (hb.mono B7.out.size))
    clear hb B7
    go_wp2_with fail
    refine (within_is lA hs W1.out).mono ?_
    rintro e w' ⟨rfl, rfl⟩
    go_wp2_with fail
    refine (within_is hs lO W2.out).mono ?_
    rintro e w' ⟨rfl, rfl⟩
    go_wp2_with fail
    refine (W3.out _).mono ?_
    rintro e w' ⟨rfl, rfl⟩
    go_wp2_with fail
    go_ret
    exact ⟨rfl, B8.out⟩

end Go.Proofs.YtlfahnijnlapdaaDoor
