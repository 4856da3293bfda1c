/-
  Plain facts on the words of float64s: how two words stand to each other, told by their bits alone. No program is named here.
-/
import Ieee.Arith
namespace Go.Proofs.Ytjdnaonhfacpoaa
namespace Fl

/-- The word without its sign. -/
def rung (b : Nat) : Nat := b % 9223372036854775808
def isNan (b : Nat) : Prop := 9218868437227405312 < rung b
instance (b : Nat) : Decidable (isNan b) := inferInstanceAs (Decidable (_ < _))
/-- The word as a signed rung: noughts are one. -/
def sval (b : Nat) : Int := if 9223372036854775808 ≤ b then -(rung b : Int) else (rung b : Int)

def mg (r : Nat) : Nat :=
  if r < 4503599627370496 then r else (4503599627370496 + r % 4503599627370496) * 2 ^ (r / 4503599627370496 - 1)

theorem mg_succ (r : Nat) : mg r < mg (r + 1) := by
  unfold mg
  by_cases h1 : r + 1 < 4503599627370496
  · rw [if_pos (by omega), if_pos h1]; omega
  · by_cases h2 : r < 4503599627370496
    · rw [if_pos h2, if_neg h1]
      obtain rfl : r = 4503599627370495 := by omega
      decide
    · rw [if_neg h2, if_neg h1]
      have hd : 1 ≤ r / 4503599627370496 := by omega
      by_cases h3 : r % 4503599627370496 + 1 < 4503599627370496
      · have e1 : (r + 1) % 4503599627370496 = r % 4503599627370496 + 1 := by omega
        have e2 : (r + 1) / 4503599627370496 = r / 4503599627370496 := by omega
        rw [e1, e2]
        exact Nat.mul_lt_mul_of_pos_right (by omega) (Nat.two_pow_pos _)
      · have e1 : (r + 1) % 4503599627370496 = 0 := by omega
        have e2 : (r + 1) / 4503599627370496 = r / 4503599627370496 + 1 := by omega
        have e3 : r / 4503599627370496 + 1 - 1 = (r / 4503599627370496 - 1) + 1 := by omega
        rw [e1, e2, e3, Nat.pow_succ]
        have hp : 0 < 2 ^ (r / 4503599627370496 - 1) := Nat.two_pow_pos _
        generalize 2 ^ (r / 4503599627370496 - 1) = p at hp
        have hm : r % 4503599627370496 = 4503599627370495 := by omega
        rw [hm]; omega

theorem mg_lt {r s : Nat} (h : r < s) : mg r < mg s := by
  induction s with
  | zero => omega
  | succ n ih =>
    by_cases e : r = n
    · subst e; exact mg_succ r
    · exact Nat.lt_trans (ih (by omega)) (mg_succ n)

theorem mg_zero : mg 0 = 0 := by decide

def smg (b : Nat) : Int := if 9223372036854775808 ≤ b then -(mg (rung b) : Int) else (mg (rung b) : Int)

theorem mg_le {r s : Nat} (h : r ≤ s) : mg r ≤ mg s := by
  rcases Nat.lt_or_ge r s with h1 | h1
  · exact Nat.le_of_lt (mg_lt h1)
  · rw [show r = s by omega]; exact Nat.le_refl _

theorem smg_lt {a b : Nat} (h : sval a < sval b) : smg a < smg b := by
  unfold sval at h
  unfold smg
  have z : mg 0 = 0 := mg_zero
  split at h <;> split at h
  · rw [if_pos ‹_›, if_pos ‹_›]
    have := mg_lt (show rung b < rung a by omega)
    omega
  · rw [if_pos ‹_›, if_neg ‹_›]
    by_cases e : rung a = 0
    · have := mg_lt (show rung a < rung b by omega)
      omega
    · have := mg_lt (show 0 < rung a by omega)
      omega
  · rename_i h1 h2
    omega
  · rw [if_neg ‹_›, if_neg ‹_›]
    have := mg_lt (show rung a < rung b by omega)
    omega

theorem smg_eq {a b : Nat} (h : sval a = sval b) : smg a = smg b := by
  unfold sval at h
  unfold smg
  have z : mg 0 = 0 := mg_zero
  split at h <;> split at h
  · rw [if_pos ‹_›, if_pos ‹_›, show rung a = rung b by omega]
  · rw [if_pos ‹_›, if_neg ‹_›, show rung a = 0 by omega, show rung b = 0 by omega, z]; rfl
  · rw [if_neg ‹_›, if_pos ‹_›, show rung a = 0 by omega, show rung b = 0 by omega, z]; rfl
  · rw [if_neg ‹_›, if_neg ‹_›, show rung a = rung b by omega]

def cmpI (a b : Int) : Ordering := if a < b then .lt else if a = b then .eq else .gt

theorem compare_int (a b : Int) : compare a b = cmpI a b := by
  simp only [compare, compareOfLessAndEq, cmpI]

theorem cmpI_scale (a b : Int) (k : Nat) (h : 0 < k) : cmpI (a * k) (b * k) = cmpI a b := by
  have hk : (0 : Int) < k := by omega
  unfold cmpI
  rcases Int.lt_trichotomy a b with h1 | h1 | h1
  · rw [if_pos h1, if_pos (Int.mul_lt_mul_of_pos_right h1 hk)]
  · subst h1; simp
  · have h2 := Int.mul_lt_mul_of_pos_right h1 hk
    rw [if_neg (by omega), if_neg (by omega), if_neg (by omega), if_neg (by omega)]

theorem neg_eq (b : Nat) (h : b < 18446744073709551616) : ((b / 9223372036854775808 % 2 == 1) : Bool) = decide (9223372036854775808 ≤ b) := by
  rw [Bool.eq_iff_iff]; simp; omega

theorem signW : Ieee.double.signWeight = 9223372036854775808 := by decide
theorem binadeW : Ieee.double.binade = 4503599627370496 := by decide
theorem infW : Ieee.double.infRung = 9218868437227405312 := by decide
theorem leastW : Ieee.double.leastPlace = -1074 := by decide

theorem read_fin (b : Nat) (h : b < 18446744073709551616) (hr : rung b < 9218868437227405312) :
    ∃ m p, Ieee.double.read b = .number (decide (9223372036854775808 ≤ b)) m p ∧ -1074 ≤ p ∧ mg (rung b) = m * 2 ^ (p + 1074).toNat := by
  unfold Ieee.Format.read
  simp only [signW, binadeW, infW, leastW, neg_eq b h]
  unfold rung at hr ⊢
  by_cases h1 : b % 9223372036854775808 < 4503599627370496
  · refine ⟨b % 9223372036854775808, -1074, ?_, by omega, ?_⟩
    · rw [if_pos h1]
    · unfold mg; rw [if_pos h1]; simp
  · refine ⟨4503599627370496 + b % 9223372036854775808 % 4503599627370496, -1074 + ((b % 9223372036854775808 / 4503599627370496 - 1 : Nat) : Int), ?_, by omega, ?_⟩
    · rw [if_neg h1, if_pos hr]
    · unfold mg; rw [if_neg h1]
      congr 2
      omega

theorem read_inf (b : Nat) (h : b < 18446744073709551616) (hr : rung b = 9218868437227405312) :
    Ieee.double.read b = .infinity (decide (9223372036854775808 ≤ b)) := by
  unfold Ieee.Format.read
  simp only [signW, binadeW, infW, leastW, neg_eq b h]
  unfold rung at hr
  rw [if_neg (by omega), if_neg (by omega), if_pos hr]

theorem read_nan (b : Nat) (hr : isNan b) : ∃ n f, Ieee.double.read b = .nan n f := by
  unfold Ieee.Format.read
  simp only [signW, binadeW, infW, leastW]
  unfold isNan rung at hr
  exact ⟨_, _, by rw [if_neg (by omega), if_neg (by omega), if_neg (by omega)]⟩

theorem signed_eq (n : Bool) (m k : Nat) : Ieee.signed n m k = if n then -((m * 2 ^ k : Nat) : Int) else ((m * 2 ^ k : Nat) : Int) := by
  unfold Ieee.signed; rw [Nat.shiftLeft_eq]

theorem scaled (n : Bool) (m : Nat) (p base : Int) (h1 : base ≤ p) (h2 : -1074 ≤ base) :
    Ieee.signed n m (p - base).toNat * ((2 ^ (base + 1074).toNat : Nat) : Int) = if n then -((m * 2 ^ (p + 1074).toNat : Nat) : Int) else ((m * 2 ^ (p + 1074).toNat : Nat) : Int) := by
  have e : m * 2 ^ (p - base).toNat * 2 ^ (base + 1074).toNat = m * 2 ^ (p + 1074).toNat := by
    rw [Nat.mul_assoc, ← Nat.pow_add]; congr 2; omega
  rw [signed_eq]
  cases n
  · simp only [Bool.false_eq_true, if_false]; rw [← Int.natCast_mul, e]
  · simp only [if_true]; rw [Int.neg_mul, ← Int.natCast_mul, e]

theorem cmp_smg (a b : Nat) : cmpI (smg a) (smg b) = cmpI (sval a) (sval b) := by
  unfold cmpI
  rcases Int.lt_trichotomy (sval a) (sval b) with h1 | h1 | h1
  · have := smg_lt h1
    rw [if_pos h1, if_pos this]
  · have := smg_eq h1
    rw [h1, this]; simp
  · have := smg_lt h1
    rw [if_neg (by omega), if_neg (by omega), if_neg (by omega), if_neg (by omega)]

/-- How two words stand to each other. -/
theorem order_eq (a b : Nat) (ha : a < 18446744073709551616) (hb : b < 18446744073709551616) :
    Ieee.double.order a b = if isNan a ∨ isNan b then none else some (cmpI (sval a) (sval b)) := by
  unfold Ieee.Format.order
  by_cases na : isNan a
  · obtain ⟨n, f, e⟩ := read_nan a na
    rw [e, if_pos (Or.inl na)]; rfl
  by_cases nb : isNan b
  · obtain ⟨n, f, e⟩ := read_nan b nb
    rw [e, if_pos (Or.inr nb)]
    cases Ieee.double.read a <;> rfl
  rw [if_neg (by rintro (h | h) <;> contradiction)]
  have ra : rung a ≤ 9218868437227405312 := by unfold isNan at na; omega
  have rb : rung b ≤ 9218868437227405312 := by unfold isNan at nb; omega
  by_cases ia : rung a = 9218868437227405312
  · rw [read_inf a ha ia]
    by_cases ib : rung b = 9218868437227405312
    · rw [read_inf b hb ib]
      unfold sval
      rw [ia, ib]
      by_cases h1 : 9223372036854775808 ≤ a <;> by_cases h2 : 9223372036854775808 ≤ b <;> simp [Ieee.Datum.order, h1, h2, cmpI] <;> decide
    · obtain ⟨m, p, e, _, _⟩ := read_fin b hb (by omega)
      rw [e]
      unfold sval
      rw [ia]
      have : (rung b : Int) < 9218868437227405312 := by omega
      by_cases h1 : 9223372036854775808 ≤ a <;> by_cases h2 : 9223372036854775808 ≤ b <;> simp only [Ieee.Datum.order, h1, h2, cmpI, if_true, if_false, decide_true, decide_false, Bool.false_eq_true] <;> refine congrArg some ?_
      all_goals first | rw [if_pos (by omega)] | rw [if_neg (by omega), if_neg (by omega)]
  · obtain ⟨m, p, e, hp, hm⟩ := read_fin a ha (by omega)
    rw [e]
    by_cases ib : rung b = 9218868437227405312
    · rw [read_inf b hb ib]
      unfold sval
      rw [ib]
      have : (rung a : Int) < 9218868437227405312 := by omega
      by_cases h1 : 9223372036854775808 ≤ a <;> by_cases h2 : 9223372036854775808 ≤ b <;> simp only [Ieee.Datum.order, h1, h2, cmpI, if_true, if_false, decide_true, decide_false, Bool.false_eq_true] <;> refine congrArg some ?_
      all_goals first | rw [if_pos (by omega)] | rw [if_neg (by omega), if_neg (by omega)]
    · obtain ⟨m', p', e', hp', hm'⟩ := read_fin b hb (by omega)
      rw [e']
      simp only [Ieee.Datum.order]
      rw [compare_int, ← cmp_smg, ← cmpI_scale _ _ (2 ^ (min p p' + 1074).toNat) (Nat.two_pow_pos _),
        scaled _ _ _ _ (by omega) (by omega), scaled _ _ _ _ (by omega) (by omega), ← hm, ← hm']
      unfold smg
      simp only [decide_eq_true_eq]

end Fl
end Go.Proofs.Ytjdnaonhfacpoaa
