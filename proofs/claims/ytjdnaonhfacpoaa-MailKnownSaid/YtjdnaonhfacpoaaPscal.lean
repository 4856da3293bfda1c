/-
  What the functions of numbers with a point do, one contract each.
-/
import Derived.Test.YtjdnaonhfacpoaaRows
import Derived.Test.YtjdnaonhfacpoaaFloats
import Derived.Lib.Hide
import Derived.WalkKit
import Derived.WalkSpells
import Derived.WalkLawsBesides
import Derived.IntWalk
import Derived.Laws.BitsAllLaws
namespace Go.Proofs.Ytjdnaonhfacpoaa
open Go.RowKit

theorem ret_bool {a b : Bool} (h : a = b) : Ending.returned (.bool a) = .returned (.bool b) := by rw [h]
theorem ret_int {k : IntKind} {a b : Int} (h : a = b) : Ending.returned (.int k a) = .returned (.int k b) := by rw [h]

theorem f64bits_run (b : Nat) (w : World) : (callFunc 21 #[.float .f64 b]).run Try.prog w = .ok (.value (.int .u64 b)) w := by
  rw [run_callFunc_extern (P := Try.prog) (f := 21) (e := Extern.MathFloatBits.float64bits) Try.func21 (by kernel_rfl) (by kernel_rfl) (by kernel_rfl) (by kernel_rfl)]
  rfl

theorem f64frombits_run (n : Int) (w : World) : (callFunc 20 #[.int .u64 n]).run Try.prog w = .ok (.value (.float .f64 n.toNat)) w := by
  rw [run_callFunc_extern (P := Try.prog) (f := 20) (e := Extern.MathFloatBits.float64frombits) Try.func20 (by kernel_rfl) (by kernel_rfl) (by kernel_rfl) (by kernel_rfl)]
  rfl

theorem negf_run (b : Nat) (w : World) : (Op.unary .neg (.float .f64 b)).run Try.prog w = .ok (.float .f64 (b ^^^ 9223372036854775808)) w := rfl

def nanB (b : Nat) : Bool := decide (Fl.isNan b)

theorem nan_self (b : Nat) (h : b < 18446744073709551616) : (FloatKind.f64.format.order b b != some .eq) = nanB b := by
  show (Ieee.double.order b b != some .eq) = nanB b
  rw [Fl.order_eq b b h h]
  unfold nanB
  by_cases hn : Fl.isNan b
  · simp [hn]
  · simp [hn, Fl.cmpI]

set_option maxHeartbeats 400000 in
theorem isNaN_any (b : Nat) (w : World) (h : b < 18446744073709551616) :
    Calls Try.prog 73 #[.float .f64 b] w fun e w' => e = .returned (.bool (nanB b)) ∧ w = w' := by
  go_enter Try.func73, Try.ntmps73
  go_wp2
  go_ret
  exact ⟨ret_bool (nan_self b h), rfl⟩

def infPB (b : Nat) : Bool := decide (b = 9218868437227405312)
def infNB (b : Nat) : Bool := decide (b = 18442240474082181120)
def ltzB (b : Nat) : Bool := decide (¬ Fl.isNan b ∧ 9223372036854775808 < b)
def gtzB (b : Nat) : Bool := decide (¬ Fl.isNan b ∧ 0 < b ∧ b < 9223372036854775808)
def sgnB (b : Nat) : Bool := decide (9223372036854775808 ≤ b)
def cls (b : Nat) : Int := if nanB b then 0 else if infNB b then 1 else if infPB b then 6 else if ltzB b then 2 else if gtzB b then 5 else if sgnB b then 3 else 4

theorem xor_sign (b : Nat) (h : b < 18446744073709551616) : b ^^^ 9223372036854775808 = if 9223372036854775808 ≤ b then b - 9223372036854775808 else b + 9223372036854775808 := by
  have e := Nat.xor_mod_two_pow (a := b) (b := 9223372036854775808) (n := 63)
  have d := Nat.xor_div_two_pow (a := b) (b := 9223372036854775808) (n := 63)
  rw [show (9223372036854775808 : Nat) % 2 ^ 63 = 0 from by decide, Nat.xor_zero] at e
  rw [show (9223372036854775808 : Nat) / 2 ^ 63 = 1 from by decide] at d
  rw [show (2 : Nat) ^ 63 = 9223372036854775808 from by decide] at e d
  by_cases hb : 9223372036854775808 ≤ b
  · rw [if_pos hb]
    rw [show b / 9223372036854775808 = 1 from by omega, show (1 : Nat) ^^^ 1 = 0 from by decide] at d
    omega
  · rw [if_neg hb]
    rw [show b / 9223372036854775808 = 0 from by omega, show (0 : Nat) ^^^ 1 = 1 from by decide] at d
    omega

theorem ord_max (b : Nat) (h : b < 18446744073709551616) : (FloatKind.f64.format.order b 9218868437227405311 == some .gt) = infPB b := by
  show (Ieee.double.order b 9218868437227405311 == some .gt) = infPB b
  rw [Fl.order_eq b _ h (by omega)]
  have hm : ¬ Fl.isNan 9218868437227405311 := by decide
  have hv : Fl.sval 9218868437227405311 = 9218868437227405311 := by decide
  rw [hv]
  unfold infPB Fl.isNan Fl.sval Fl.cmpI at *
  simp only [hm, or_false]
  unfold Fl.rung at *
  by_cases h1 : 9218868437227405312 < b % 9223372036854775808
  · rw [if_pos h1]; simp; omega
  · rw [if_neg h1]
    by_cases h2 : 9223372036854775808 ≤ b
    · rw [if_pos h2, if_pos (by omega)]; simp; omega
    · rw [if_neg h2]
      have em : b % 9223372036854775808 = b := by omega
      rw [em]
      by_cases h3 : b = 9218868437227405312
      · rw [if_neg (by omega), if_neg (by omega)]; simp [h3]
      · by_cases h4 : b = 9218868437227405311
        · rw [if_neg (by omega), if_pos (by omega)]; simp [h3]
        · rw [if_pos (by omega)]; simp [h3]

theorem ord_min (b : Nat) (h : b < 18446744073709551616) : (FloatKind.f64.format.order (b ^^^ 9223372036854775808) 9218868437227405311 == some .gt) = infNB b := by
  have e := xor_sign b h
  rw [ord_max _ (by rw [e]; split <;> omega), e]
  unfold infPB infNB
  congr 1
  rw [eq_iff_iff]
  split <;> omega

theorem ord_ltz (b : Nat) (h : b < 18446744073709551616) : (FloatKind.f64.format.order b 0 == some .lt) = ltzB b := by
  show (Ieee.double.order b 0 == some .lt) = ltzB b
  rw [Fl.order_eq b _ h (by omega)]
  have hm : ¬ Fl.isNan 0 := by decide
  have hv : Fl.sval 0 = 0 := by decide
  rw [hv]
  unfold ltzB
  by_cases hn : Fl.isNan b
  · simp [hn]
  · simp only [hn, hm, or_false, if_false, not_false_eq_true, true_and]
    unfold Fl.isNan at hn
    unfold Fl.cmpI Fl.sval
    unfold Fl.rung at *
    by_cases h2 : 9223372036854775808 < b
    · rw [if_pos (by omega : 9223372036854775808 ≤ b), if_pos (by omega)]; simp [h2]
    · by_cases h3 : b = 9223372036854775808
      · rw [if_pos (by omega : 9223372036854775808 ≤ b), if_neg (by omega)]; split <;> simp [h2]
      · rw [if_neg (by omega : ¬ 9223372036854775808 ≤ b), if_neg (by omega)]; split <;> simp [h2]

theorem ord_gtz (b : Nat) (h : b < 18446744073709551616) : (FloatKind.f64.format.order b 0 == some .gt) = gtzB b := by
  show (Ieee.double.order b 0 == some .gt) = gtzB b
  rw [Fl.order_eq b _ h (by omega)]
  have hm : ¬ Fl.isNan 0 := by decide
  have hv : Fl.sval 0 = 0 := by decide
  rw [hv]
  unfold gtzB
  by_cases hn : Fl.isNan b
  · simp [hn]
  · simp only [hn, hm, or_false, if_false, not_false_eq_true, true_and]
    unfold Fl.isNan at hn
    unfold Fl.cmpI Fl.sval
    unfold Fl.rung at *
    by_cases h2 : 9223372036854775808 ≤ b
    · rw [if_pos h2]
      by_cases h4 : b % 9223372036854775808 = 0
      · rw [if_neg (by omega), if_pos (by omega)]; simp; omega
      · rw [if_pos (by omega)]; simp; omega
    · rw [if_neg h2]
      by_cases h4 : b = 0
      · rw [if_neg (by omega), if_pos (by omega)]; simp; omega
      · rw [if_neg (by omega), if_neg (by omega)]; simp; omega

set_option maxHeartbeats 400000 in
theorem isInf_pos (b : Nat) (w : World) (h : b < 18446744073709551616) :
    Calls Try.prog 74 #[.float .f64 b, .int .i64 1] w fun e w' => e = .returned (.bool (infPB b)) ∧ w = w' := by
  go_enter Try.func74, Try.ntmps74
  go_wp2
  go_ret
  exact ⟨ret_bool (ord_max b h), rfl⟩

set_option maxHeartbeats 400000 in
theorem isInf_neg (b : Nat) (w : World) (h : b < 18446744073709551616) :
    Calls Try.prog 74 #[.float .f64 b, .int .i64 (-1)] w fun e w' => e = .returned (.bool (infNB b)) ∧ w = w' := by
  have hn := negf_run
  go_enter Try.func74, Try.ntmps74
  go_wp2
  go_ret
  exact ⟨ret_bool (ord_min b h), rfl⟩

theorem sgn_wrap (b : Nat) (h : b < 18446744073709551616) : decide (wrap64 ↑b < 0) = sgnB b := by
  unfold sgnB wrap64
  congr 1
  rw [eq_iff_iff]
  omega

set_option maxHeartbeats 400000 in
theorem signbit_any (b : Nat) (w : World) (h : b < 18446744073709551616) :
    Calls Try.prog 75 #[.float .f64 b] w fun e w' => e = .returned (.bool (sgnB b)) ∧ w = w' := by
  have hn := f64bits_run
  go_enter Try.func75, Try.ntmps75
  go_wp2
  go_ret
  exact ⟨ret_bool (sgn_wrap b h), rfl⟩

set_option maxHeartbeats 400000 in
theorem class_any (b : Nat) (w : World) (h : b < 18446744073709551616) :
    Calls Try.prog 67 #[.float .f64 b] w fun e w' => e = .returned (.int .i64 (cls b)) ∧ w = w' := by
  have hl := ord_ltz b h
  have hg := ord_gtz b h
  cases h1 : nanB b <;> cases h2 : infNB b <;> cases h3 : infPB b <;> cases h4 : ltzB b <;> cases h5 : gtzB b <;> cases h6 : sgnB b
  all_goals
    rw [h4] at hl
    rw [h5] at hg
    go_enter Try.func67, Try.ntmps67
    go_wp2_with (first | (go_at_call 73; refine (isNaN_any b _ h).mono ?_; rintro e w' ⟨rfl, rfl⟩) | (go_at_call 74; (with_reducible refine (isInf_neg b _ h).mono ?_); rintro e w' ⟨rfl, rfl⟩) | (go_at_call 74; (with_reducible refine (isInf_pos b _ h).mono ?_); rintro e w' ⟨rfl, rfl⟩) | (go_at_call 75; refine (signbit_any b _ h).mono ?_; rintro e w' ⟨rfl, rfl⟩))
    go_ret
    exact ⟨ret_int (by simp [cls, h1, h2, h3, h4, h5, h6]), rfl⟩


/-- The place of a number among all. -/
def keyN (b : Nat) : Nat := if nanB b then 18446744073709551615 else if sgnB b then 18446744073709551615 - b else b + 9223372036854775808

theorem cls_zero (b : Nat) : (cls b == 0) = nanB b := by
  unfold cls
  cases nanB b <;> simp
  repeat' split
  all_goals decide

theorem and_sign (b : Nat) (h : b < 18446744073709551616) : bits .and .u64 (b : Int) 9223372036854775808 = ((if 9223372036854775808 ≤ b then 9223372036854775808 else 0 : Nat) : Int) := by
  have e := u64_and_nat b 9223372036854775808 h (by omega)
  have n := nat_bit 63 b
  rw [show (2 : Nat) ^ 63 = 9223372036854775808 from by decide] at n
  rw [show ((9223372036854775808 : Nat) : Int) = 9223372036854775808 from rfl] at e
  rw [e, n]
  congr 1
  split
  · rw [show b / 9223372036854775808 = 1 from by omega]
  · rw [show b / 9223372036854775808 = 0 from by omega]

theorem and_sign0 (b : Nat) (h : b < 18446744073709551616) : (bits .and .u64 (b : Int) 9223372036854775808 == 0) = !sgnB b := by
  rw [and_sign b h]; unfold sgnB
  by_cases h1 : 9223372036854775808 ≤ b <;> simp [h1]

theorem and_sign1 (b : Nat) (h : b < 18446744073709551616) : (bits .and .u64 (b : Int) 9223372036854775808 != 0) = sgnB b := by
  rw [and_sign b h]; unfold sgnB
  by_cases h1 : 9223372036854775808 ≤ b <;> simp [h1]

theorem or_sign (b : Nat) (h : b < 9223372036854775808) : bits .or .u64 (b : Int) 9223372036854775808 = ((b + 9223372036854775808 : Nat) : Int) := by
  have e := u64_or_nat b 9223372036854775808 (by omega) (by omega)
  rw [show ((9223372036854775808 : Nat) : Int) = 9223372036854775808 from rfl] at e
  rw [e, Nat.or_comm, nat_join 63 _ _ (by decide) h, Nat.add_comm]

theorem not_word (b : Nat) (h : b < 18446744073709551616) : bits .xor .u64 IntKind.u64.max (b : Int) = ((18446744073709551615 - b : Nat) : Int) := by
  have e := u64_xor_nat 18446744073709551615 b (by omega) h
  rw [show IntKind.u64.max = ((18446744073709551615 : Nat) : Int) from by decide, e]
  congr 1
  have k := BitVec.toNat_not (x := BitVec.ofNat 64 b)
  rw [BitVec.toNat_ofNat, Nat.mod_eq_of_lt h] at k
  have k2 : (~~~ BitVec.ofNat 64 b) = BitVec.allOnes 64 ^^^ BitVec.ofNat 64 b := BitVec.not_def
  rw [k2, BitVec.toNat_xor, BitVec.toNat_ofNat, Nat.mod_eq_of_lt h, BitVec.toNat_allOnes] at k
  exact k

theorem andNot_sign (b : Nat) (h : b < 18446744073709551616) : bits .andNot .u64 (b : Int) 9223372036854775808 = ((b % 9223372036854775808 : Nat) : Int) := by
  have e := u64_andNot_nat b 9223372036854775808 h (by omega)
  rw [show ((9223372036854775808 : Nat) : Int) = 9223372036854775808 from rfl] at e
  rw [e, show (18446744073709551615 - 9223372036854775808 : Nat) = 2 ^ 63 - 1 from by decide, Nat.and_two_pow_sub_one_eq_mod]

theorem sgnB_iff (b : Nat) : sgnB b = true ↔ 9223372036854775808 ≤ b := by unfold sgnB; simp
theorem sgnB_no (b : Nat) : sgnB b = false ↔ b < 9223372036854775808 := by unfold sgnB; simp

set_option maxHeartbeats 400000 in
theorem key_any (b : Nat) (w : World) (h : b < 18446744073709551616) :
    Calls Try.prog 51 #[.float .f64 b] w fun e w' => e = .returned (.int .u64 (keyN b)) ∧ w = w' := by
  have hc := cls_zero b
  have hn := f64bits_run
  have ha := and_sign0 b h
  cases h1 : nanB b
  · cases h2 : sgnB b
    all_goals
      rw [h1] at hc
      rw [h2] at ha
      go_enter Try.func51, Try.ntmps51
      go_wp2_with (go_at_call 67; refine (class_any b _ h).mono ?_; rintro e w' ⟨rfl, rfl⟩)
      go_ret
    · exact ⟨ret_int (by show bits .or .u64 _ _ = _; rw [or_sign b ((sgnB_no b).1 h2)]; simp [keyN, h1, h2]), rfl⟩
    · exact ⟨ret_int (by show bits .xor .u64 _ _ = _; rw [not_word b (by assumption)]; simp [keyN, h1, h2]), rfl⟩
  · rw [h1] at hc
    go_enter Try.func51, Try.ntmps51
    go_wp2_with (go_at_call 67; refine (class_any b _ h).mono ?_; rintro e w' ⟨rfl, rfl⟩)
    go_ret
    exact ⟨ret_int (by simp [keyN, h1]), rfl⟩

def cmpN (a b : Nat) : Int := if keyN a < keyN b then -1 else if keyN b < keyN a then 1 else 0

theorem cmp_zero (a b : Nat) : (cmpN a b == 0) = decide (keyN a = keyN b) := by
  unfold cmpN
  rcases Nat.lt_trichotomy (keyN a) (keyN b) with h | h | h
  · rw [if_pos h]; simp; omega
  · rw [if_neg (by omega), if_neg (by omega)]; simp [h]
  · rw [if_neg (by omega), if_pos h]; simp; omega

def sameN (a b : Nat) : Bool := decide (keyN a = keyN b)

def lastB (n : Nat) : Bool := decide (n = 18446744073709551615)
def topB (n : Nat) : Bool := decide (9223372036854775808 ≤ n)
def nanW : Nat := 9221120237041090561
def ofW (n : Nat) : Nat := if topB n then n % 9223372036854775808 else 18446744073709551615 - n
def ofF (n : Nat) : Nat := if lastB n then nanW else if nanB (ofW n) then 0 else ofW n
def ofB (n : Nat) : Bool := lastB n || !nanB (ofW n)

theorem last_eq (n : Nat) : ((n : Int) == 18446744073709551615) = lastB n := by
  unfold lastB; rw [Bool.eq_iff_iff]; simp; omega

set_option maxHeartbeats 400000 in
theorem nan_any (w : World) : Calls Try.prog 13 #[] w fun e w' => e = .returned (.float .f64 nanW) ∧ w = w' := by
  have hn := f64frombits_run
  go_enter Try.func13, Try.ntmps13
  go_wp2
  go_ret
  exact ⟨rfl, rfl⟩

theorem ret_float {a b : Nat} (h : a = b) : Ending.returned (.float .f64 a) = .returned (.float .f64 b) := by rw [h]

def copyN (a b : Nat) : Nat := a % 9223372036854775808 + (if sgnB b then 9223372036854775808 else 0)

theorem copy_word (a b : Nat) (ha : a < 18446744073709551616) (hb : b < 18446744073709551616) :
    (bits .or .u64 (bits .andNot .u64 (a : Int) 9223372036854775808) (bits .and .u64 (b : Int) 9223372036854775808)).toNat = copyN a b := by
  rw [andNot_sign a ha, and_sign b hb]
  unfold copyN
  by_cases h : 9223372036854775808 ≤ b
  · rw [if_pos h, if_pos ((sgnB_iff b).2 h)]
    have := or_sign (a % 9223372036854775808) (by omega)
    rw [show ((9223372036854775808 : Nat) : Int) = 9223372036854775808 from rfl, this]
    rfl
  · rw [if_neg h, if_neg (by rw [sgnB_iff]; exact h)]
    have e := u64_or_nat (a % 9223372036854775808) 0 (by omega) (by omega)
    rw [e, Nat.or_zero]; rfl

set_option maxHeartbeats 400000 in
theorem copysign_any (a b : Nat) (w : World) (ha : a < 18446744073709551616) (hb : b < 18446744073709551616) :
    Calls Try.prog 9 #[.float .f64 a, .float .f64 b] w fun e w' => e = .returned (.float .f64 (copyN a b)) ∧ w = w' := by
  have hn := f64frombits_run
  have hm := f64bits_run
  go_enter Try.func9, Try.ntmps9
  go_wp2
  go_ret
  exact ⟨ret_float (copy_word a b ha hb), rfl⟩

theorem not_word' (n : Nat) (h : n < 18446744073709551616) (b : topB n = false) : bits .xor .u64 IntKind.u64.max (n : Int) = ((ofW n : Nat) : Int) := by
  rw [not_word n h]; unfold ofW; rw [b]; simp
theorem andNot_word' (n : Nat) (h : n < 18446744073709551616) (b : topB n = true) : bits .andNot .u64 (n : Int) 9223372036854775808 = ((ofW n : Nat) : Int) := by
  rw [andNot_sign n h]; unfold ofW; rw [b]; simp
theorem ofW_lt (n : Nat) (h : n < 18446744073709551616) : ofW n < 18446744073709551616 := by
  unfold ofW; split <;> omega

set_option maxHeartbeats 400000 in
theorem fof_any (n : Nat) (w : World) (h : n < 18446744073709551616) :
    Calls Try.prog 70 #[.int .u64 n] w fun e w' => e = .returned (.tuple #[.float .f64 (ofF n), .bool (ofB n)]) ∧ w = w' := by
  have hn := f64frombits_run
  have h1 := last_eq n
  have h3 : (bits .and .u64 (n : Int) 9223372036854775808 != 0) = topB n := and_sign1 n h
  have hw := ofW_lt n h
  cases e1 : lastB n
  · have hc := cls_zero (ofW n)
    cases e2 : topB n <;> cases e3 : nanB (ofW n)
    all_goals
      rw [e1] at h1
      rw [e2] at h3
      rw [e3] at hc
      try have h4 := not_word' n h e2
      try have h4 := andNot_word' n h e2
      go_enter Try.func70, Try.ntmps70
      go_wp2_with (go_at_call 67; (with_reducible refine (class_any (ofW n) _ hw).mono ?_); rintro e w' ⟨rfl, rfl⟩)
      go_ret2
      exact ⟨by simp [ofF, ofB, e1, e3], rfl⟩
  · rw [e1] at h1
    go_enter Try.func70, Try.ntmps70
    go_wp2_with (go_at_call 13; refine (nan_any _).mono ?_; rintro e w' ⟨rfl, rfl⟩)
    go_ret2
    exact ⟨by simp [ofF, ofB, e1], rfl⟩

end Go.Proofs.Ytjdnaonhfacpoaa
