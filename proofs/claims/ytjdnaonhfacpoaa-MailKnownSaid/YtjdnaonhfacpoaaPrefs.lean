/-
  The document's own answers (the reference package), one contract each: numbers, keys, order.
-/
import Derived.Test.YtjdnaonhfacpoaaPscal
namespace Go.Proofs.Ytjdnaonhfacpoaa
open Go.RowKit

theorem and_mag (b : Nat) (h : b < 18446744073709551616) : bits .and .u64 (b : Int) 9223372036854775807 = ((Fl.rung b : Nat) : Int) := by
  have e := u64_and_nat b 9223372036854775807 h (by omega)
  rw [show ((9223372036854775807 : Nat) : Int) = 9223372036854775807 from rfl] at e
  rw [e, show (9223372036854775807 : Nat) = 2 ^ 63 - 1 from by decide, Nat.and_two_pow_sub_one_eq_mod]; rfl

theorem shr_sign (b : Nat) (h : b < 18446744073709551616) : ((b : Int) / 9223372036854775808 == 1) = sgnB b := by
  unfold sgnB; rw [Bool.eq_iff_iff]; simp; omega
theorem shr_sign0 (b : Nat) (h : b < 18446744073709551616) : ((b : Int) / 9223372036854775808 == 0) = !sgnB b := by
  unfold sgnB; rw [Bool.eq_iff_iff]; simp; omega

theorem cls_ref (b : Nat) (h : b < 18446744073709551616) : cls b = if decide (9218868437227405312 < Fl.rung b) then 0 else if decide (Fl.rung b = 9218868437227405312) then (if sgnB b then 1 else 6) else if decide (Fl.rung b = 0) then (if sgnB b then 3 else 4) else if sgnB b then 2 else 5 := by
  unfold cls nanB infNB infPB ltzB gtzB sgnB Fl.isNan Fl.rung
  by_cases h1 : 9218868437227405312 < b % 9223372036854775808
  · simp [h1]
  · simp only [h1, decide_false, Bool.false_eq_true, if_false, not_false_eq_true, true_and]
    by_cases h2 : b % 9223372036854775808 = 9218868437227405312
    · simp only [h2, decide_true, if_true]
      by_cases h3 : 9223372036854775808 ≤ b
      · rw [if_pos (by simp; omega), if_pos (by simp; omega)]
      · rw [if_neg (by simp; omega), if_pos (by simp; omega), if_neg (by simp; omega)]
    · simp only [h2, decide_false, Bool.false_eq_true, if_false]
      rw [if_neg (by simp; omega), if_neg (by simp; omega)]
      by_cases h4 : b % 9223372036854775808 = 0
      · simp only [h4, decide_true, if_true]
        rw [if_neg (by simp; omega), if_neg (by simp; omega)]
      · simp only [h4, decide_false, Bool.false_eq_true, if_false]
        by_cases h3 : 9223372036854775808 ≤ b
        · rw [if_pos (by simp; omega), if_pos (by simp; omega)]
        · rw [if_neg (by simp; omega), if_pos (by simp; omega), if_neg (by simp; omega)]

set_option maxHeartbeats 1000000 in
theorem rclass_any (b : Nat) (w : World) (h : b < 18446744073709551616) :
    Calls Try.prog 71 #[.float .f64 b] w fun e w' => e = .returned (.int .i64 (cls b)) ∧ w = w' := by
  have C := Lib.hid (cls_ref b h)
  have hm := f64bits_run
  have ha := and_mag b h
  have hs := shr_sign b h
  have t1 : decide ((9218868437227405312 : Int) < (Fl.rung b : Int)) = decide (9218868437227405312 < Fl.rung b) := by congr 1; rw [eq_iff_iff]; omega
  have t2 : ((Fl.rung b : Int) == 9218868437227405312) = decide (Fl.rung b = 9218868437227405312) := by rw [Bool.eq_iff_iff]; simp; omega
  have t3 : ((Fl.rung b : Int) == 0) = decide (Fl.rung b = 0) := by rw [Bool.eq_iff_iff]; simp
  generalize hb1 : decide (9218868437227405312 < Fl.rung b) = b1 at *
  generalize hb2 : decide (Fl.rung b = 9218868437227405312) = b2 at *
  generalize hb3 : decide (Fl.rung b = 0) = b3 at *
  generalize hb4 : sgnB b = b4 at *
  clear hb1 hb2 hb3 hb4
  generalize Fl.rung b = r at *
  cases b1 <;> cases b2 <;> cases b3 <;> cases b4
  all_goals
    go_enter Try.func71, Try.ntmps71
    go_wp2
    go_ret
    exact ⟨ret_int (by rw [C.out]; rfl), rfl⟩

set_option maxHeartbeats 1000000 in
theorem rkey_any (b : Nat) (w : World) (h : b < 18446744073709551616) :
    Calls Try.prog 59 #[.float .f64 b] w fun e w' => e = .returned (.int .u64 (keyN b)) ∧ w = w' := by
  have hc := cls_zero b
  have hn := f64bits_run
  have ha := shr_sign0 b h
  cases h1 : nanB b
  · cases h2 : sgnB b
    all_goals
      rw [h1] at hc
      rw [h2] at ha
      go_enter Try.func59, Try.ntmps59
      go_wp2_with (go_at_call 71; refine (rclass_any b _ h).mono ?_; rintro e w' ⟨rfl, rfl⟩)
      go_ret
    · exact ⟨ret_int (by show bits .or .u64 _ _ = _; rw [or_sign b ((sgnB_no b).1 h2)]; simp [keyN, h1, h2]), rfl⟩
    · exact ⟨ret_int (by show bits .xor .u64 _ _ = _; rw [not_word b (by assumption)]; simp [keyN, h1, h2]), rfl⟩
  · rw [h1] at hc
    go_enter Try.func59, Try.ntmps59
    go_wp2_with (go_at_call 71; refine (rclass_any b _ h).mono ?_; rintro e w' ⟨rfl, rfl⟩)
    go_ret
    exact ⟨ret_int (by simp [keyN, h1]), rfl⟩

set_option maxHeartbeats 400000 in
theorem rcmp_any (a b : Nat) (w : World) (ha : a < 18446744073709551616) (hb : b < 18446744073709551616) :
    Calls Try.prog 57 #[.float .f64 a, .float .f64 b] w fun e w' => e = .returned (.int .i64 (cmpN a b)) ∧ w = w' := by
  have F : Hid (cmpN a b = if decide (keyN a < keyN b) then -1 else if decide (keyN b < keyN a) then 1 else 0) := by unfold Hid cmpN; simp
  cases h1 : decide (keyN a < keyN b) <;> cases h2 : decide (keyN b < keyN a)
  all_goals
    rw [h1, h2] at F
    go_enter Try.func57, Try.ntmps57
    go_wp2_with (first | (go_at_call 59; (with_reducible refine (rkey_any a _ ha).mono ?_); rintro e w' ⟨rfl, rfl⟩) | (go_at_call 59; (with_reducible refine (rkey_any b _ hb).mono ?_); rintro e w' ⟨rfl, rfl⟩))
    go_ret
    exact ⟨ret_int (by rw [F.out]; rfl), rfl⟩

set_option maxHeartbeats 400000 in
theorem rsame_any (a b : Nat) (w : World) (ha : a < 18446744073709551616) (hb : b < 18446744073709551616) :
    Calls Try.prog 34 #[.float .f64 a, .float .f64 b] w fun e w' => e = .returned (.bool (sameN a b)) ∧ w = w' := by
  go_enter Try.func34, Try.ntmps34
  go_wp2_with (go_at_call 57; refine (rcmp_any a b _ ha hb).mono ?_; rintro e w' ⟨rfl, rfl⟩)
  go_ret
  exact ⟨ret_bool (cmp_zero a b), rfl⟩

theorem and_word' (n : Nat) (h : n < 18446744073709551616) (b : topB n = true) : bits .and .u64 (n : Int) 9223372036854775807 = ((ofW n : Nat) : Int) := by
  rw [and_mag n h]; unfold ofW Fl.rung; rw [b]; simp

set_option maxHeartbeats 400000 in
theorem rof_any (n : Nat) (w : World) (h : n < 18446744073709551616) :
    Calls Try.prog 62 #[.int .u64 n] w fun e w' => e = .returned (.tuple #[.float .f64 (ofF n), .bool (ofB n)]) ∧ w = w' := by
  have hn := f64frombits_run
  have h1 := last_eq n
  have h3 : ((n : Int) / 9223372036854775808 == 1) = topB n := shr_sign n h
  have hw := ofW_lt n h
  cases e1 : lastB n
  · have hc := cls_zero (ofW n)
    cases e2 : topB n <;> cases e3 : nanB (ofW n)
    all_goals
      rw [e1] at h1
      rw [e2] at h3
      rw [e3] at hc
      try have h4 := not_word' n h e2
      try have h4 := and_word' n h e2
      go_enter Try.func62, Try.ntmps62
      go_wp2_with (go_at_call 71; (with_reducible refine (rclass_any (ofW n) _ hw).mono ?_); rintro e w' ⟨rfl, rfl⟩)
      go_ret2
      exact ⟨by simp [ofF, ofB, e1, e3], rfl⟩
  · rw [e1] at h1
    go_enter Try.func62, Try.ntmps62
    go_wp2_with (go_at_call 13; refine (nan_any _).mono ?_; rintro e w' ⟨rfl, rfl⟩)
    go_ret2
    exact ⟨by simp [ofF, ofB, e1], rfl⟩

end Go.Proofs.Ytjdnaonhfacpoaa
