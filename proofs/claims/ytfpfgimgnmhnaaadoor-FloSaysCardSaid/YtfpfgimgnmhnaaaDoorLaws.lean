/-
  The statements' own functions, walked out of the contracts: order, keys, signs.
-/
import Derived.Test.YtfpfgimgnmhnaaaDoorAwak
namespace Go.Proofs.YtfpfgimgnmhnaaaDoor
open Go.RowKit

theorem keyN_lt (b : Nat) (h : b < 18446744073709551616) : keyN b < 18446744073709551616 := by
  unfold keyN
  split
  · omega
  · split
    · omega
    · rename_i h1
      rw [sgnB_iff] at h1; omega

theorem key_of (n : Nat) (h : n < 18446744073709551616) (ho : ofB n = true) : keyN (ofF n) = n := by
  unfold ofB at ho
  unfold ofF
  by_cases hl : lastB n = true
  · rw [if_pos hl]
    unfold lastB at hl
    have := of_decide_eq_true hl
    subst this
    decide +kernel
  · rw [Bool.eq_false_iff.2 hl, Bool.false_or, Bool.not_eq_true'] at ho
    rw [if_neg hl, ho, if_neg (by simp)]
    unfold keyN
    rw [ho, if_neg (by simp)]
    unfold lastB at hl
    have hn : ¬ n = 18446744073709551615 := by simpa using hl
    unfold ofW topB sgnB
    by_cases h1 : 9223372036854775808 ≤ n
    · simp only [h1, decide_true, if_true]
      rw [if_neg (by simp; omega)]; omega
    · simp only [h1, decide_false, Bool.false_eq_true, if_false]
      rw [if_pos (by simp; omega)]; omega

theorem ofF_lt (n : Nat) (h : n < 18446744073709551616) : ofF n < 18446744073709551616 := by
  have := ofW_lt n h
  unfold ofF nanW
  repeat' split
  all_goals omega

theorem cmp_lt (a b : Nat) (w : World) (ha : a < 18446744073709551616) (hb : b < 18446744073709551616) (h : keyN a < keyN b) :
    Calls Tryd.prog 20 #[.float .f64 a, .float .f64 b] w fun e w' => e = .returned (.int .i64 (-1)) ∧ w = w' :=
  (cmp_any a b w ha hb).mono fun _ _ ⟨he, hw⟩ => ⟨he.trans (ret_int (by unfold cmpN; rw [if_pos h])), hw⟩
theorem cmp_eq (a b : Nat) (w : World) (ha : a < 18446744073709551616) (hb : b < 18446744073709551616) (h : keyN a = keyN b) :
    Calls Tryd.prog 20 #[.float .f64 a, .float .f64 b] w fun e w' => e = .returned (.int .i64 0) ∧ w = w' :=
  (cmp_any a b w ha hb).mono fun _ _ ⟨he, hw⟩ => ⟨he.trans (ret_int (by unfold cmpN; rw [if_neg (by omega), if_neg (by omega)])), hw⟩
theorem cmp_gt (a b : Nat) (w : World) (ha : a < 18446744073709551616) (hb : b < 18446744073709551616) (h : keyN b < keyN a) :
    Calls Tryd.prog 20 #[.float .f64 a, .float .f64 b] w fun e w' => e = .returned (.int .i64 1) ∧ w = w' :=
  (cmp_any a b w ha hb).mono fun _ _ ⟨he, hw⟩ => ⟨he.trans (ret_int (by unfold cmpN; rw [if_neg (by omega), if_pos h])), hw⟩
theorem same_yes (a b : Nat) (w : World) (ha : a < 18446744073709551616) (hb : b < 18446744073709551616) (h : keyN a = keyN b) :
    Calls Tryd.prog 18 #[.float .f64 a, .float .f64 b] w fun e w' => e = .returned (.bool true) ∧ w = w' :=
  (same_any a b w ha hb).mono fun _ _ ⟨he, hw⟩ => ⟨he.trans (ret_bool (by unfold sameN; simp [h])), hw⟩
theorem same_no (a b : Nat) (w : World) (ha : a < 18446744073709551616) (hb : b < 18446744073709551616) (h : keyN a ≠ keyN b) :
    Calls Tryd.prog 18 #[.float .f64 a, .float .f64 b] w fun e w' => e = .returned (.bool false) ∧ w = w' :=
  (same_any a b w ha hb).mono fun _ _ ⟨he, hw⟩ => ⟨he.trans (ret_bool (by unfold sameN; simp [h])), hw⟩

def ltI (x : Int) : Bool := decide (x < 0)

set_option maxHeartbeats 2000000 in
theorem law_FloNext (k l : Nat) (w : World) (ht : Tab w) (hk : k < 18446744073709551616) (hl : l < 18446744073709551616) :
    Calls Tryd.prog 9 #[.int .u64 k, .int .u64 l] w fun e w' => e = .returned (.bool true) ∧ Below w.heap.size w w' := by
  have hfk := ofF_lt k hk
  have hfl := ofF_lt l hl
  cases e1 : ofB k <;> cases e2 : ofB l
  case true.true =>
    have K1 := key_of k hk e1
    have K2 := key_of l hl e2
    rcases Nat.lt_trichotomy k l with h | h | h
    · have C' := Lib.hid fun w => cmp_lt (ofF k) (ofF l) w hfk hfl (by omega)
      have S' := Lib.hid fun w => same_no (ofF k) (ofF l) w hfk hfl (by omega)
      have hq : decide (k < l) = true := by simp [h]
      have hq2 : ((k : Int) == (l : Int)) = false := by simp; omega
      clear K1 K2 h
      go_enter Tryd.func9, Tryd.ntmps9
      go_wp2_with fail
      refine (awake_any _ ht).mono ?_
      rintro e w' ⟨rfl, hb⟩
      go_wp2_with fail
      refine (of_any k _ hk).mono ?_
      rintro e w' ⟨rfl, rfl⟩
      go_wp2_with fail
      refine (of_any l _ hl).mono ?_
      rintro e w' ⟨rfl, rfl⟩
      go_wp2_with fail
      refine (C'.out _).mono ?_
      rintro e w' ⟨rfl, rfl⟩
      go_wp2_with fail
      refine (S'.out _).mono ?_
      rintro e w' ⟨rfl, rfl⟩
      go_wp2_with fail
      go_ret
      exact ⟨rfl, hb⟩
    · have C' := Lib.hid fun w => cmp_eq (ofF k) (ofF l) w hfk hfl (by omega)
      have S' := Lib.hid fun w => same_yes (ofF k) (ofF l) w hfk hfl (by omega)
      have hq : decide (k < l) = false := by simp; omega
      have hq2 : ((k : Int) == (l : Int)) = true := by simp; omega
      clear K1 K2 h
      go_enter Tryd.func9, Tryd.ntmps9
      go_wp2_with fail
      refine (awake_any _ ht).mono ?_
      rintro e w' ⟨rfl, hb⟩
      go_wp2_with fail
      refine (of_any k _ hk).mono ?_
      rintro e w' ⟨rfl, rfl⟩
      go_wp2_with fail
      refine (of_any l _ hl).mono ?_
      rintro e w' ⟨rfl, rfl⟩
      go_wp2_with fail
      refine (C'.out _).mono ?_
      rintro e w' ⟨rfl, rfl⟩
      go_wp2_with fail
      refine (S'.out _).mono ?_
      rintro e w' ⟨rfl, rfl⟩
      go_wp2_with fail
      go_ret
      exact ⟨rfl, hb⟩
    · have C' := Lib.hid fun w => cmp_gt (ofF k) (ofF l) w hfk hfl (by omega)
      have S' := Lib.hid fun w => same_no (ofF k) (ofF l) w hfk hfl (by omega)
      have hq : decide (k < l) = false := by simp; omega
      have hq2 : ((k : Int) == (l : Int)) = false := by simp; omega
      clear K1 K2 h
      go_enter Tryd.func9, Tryd.ntmps9
      go_wp2_with fail
      refine (awake_any _ ht).mono ?_
      rintro e w' ⟨rfl, hb⟩
      go_wp2_with fail
      refine (of_any k _ hk).mono ?_
      rintro e w' ⟨rfl, rfl⟩
      go_wp2_with fail
      refine (of_any l _ hl).mono ?_
      rintro e w' ⟨rfl, rfl⟩
      go_wp2_with fail
      refine (C'.out _).mono ?_
      rintro e w' ⟨rfl, rfl⟩
      go_wp2_with fail
      refine (S'.out _).mono ?_
      rintro e w' ⟨rfl, rfl⟩
      go_wp2_with fail
      go_ret
      exact ⟨rfl, hb⟩
  all_goals
    go_enter Tryd.func9, Tryd.ntmps9
    go_wp2_with fail
    refine (awake_any _ ht).mono ?_
    rintro e w' ⟨rfl, hb⟩
    go_wp2_with fail
    refine (of_any k _ hk).mono ?_
    rintro e w' ⟨rfl, rfl⟩
    go_wp2_with fail
    refine (of_any l _ hl).mono ?_
    rintro e w' ⟨rfl, rfl⟩
    go_wp2_with fail
    go_ret
    exact ⟨rfl, hb⟩

end Go.Proofs.YtfpfgimgnmhnaaaDoor
