/-
  Sums, differences and quotients of float64s, held between numbers that the format has. No program is named here.
-/
import Derived.Test.YtlbbbabieepabaaRnd
namespace Go.Proofs.Ytlbbbabieepabaa
namespace Fl

theorem word_eq (n : Bool) (r : Nat) : Ieee.double.word n r = if n then 9223372036854775808 + r else r := rfl
theorem rd_zero : rd 0 = 0 := by decide +kernel
theorem rd_le (z : Nat) : rd z ≤ 9218868437227405312 := rdS_le 0 z
theorem rd_mono {a b : Nat} (h : a ≤ b) : rd a ≤ rd b := rdS_mono h

def rdI (t : Int) : Int := if t < 0 then -(rd t.natAbs : Int) else (rd t.natAbs : Int)

theorem rdI_mono {a b : Int} (h : a ≤ b) : rdI a ≤ rdI b := by
  unfold rdI
  by_cases ha : a < 0 <;> by_cases hb : b < 0
  · rw [if_pos ha, if_pos hb]
    have := rd_mono (show b.natAbs ≤ a.natAbs by omega)
    omega
  · rw [if_pos ha, if_neg hb]; omega
  · omega
  · rw [if_neg ha, if_neg hb]
    have := rd_mono (show a.natAbs ≤ b.natAbs by omega)
    omega

theorem word_rung (n : Bool) (r : Nat) (h : r ≤ 9218868437227405312) : rung (Ieee.double.word n r) = r ∧ (neg (Ieee.double.word n r) = n) ∧ Ieee.double.word n r < 18446744073709551616 := by
  rw [word_eq]
  unfold rung neg
  cases n <;> simp <;> omega

theorem word_sval (n : Bool) (r : Nat) (h : r ≤ 9218868437227405312) : sval (Ieee.double.word n r) = if n then -(r : Int) else (r : Int) := by
  obtain ⟨h1, h2, _⟩ := word_rung n r h
  unfold sval
  rw [h1]
  unfold neg at h2
  cases n
  · rw [if_neg (of_decide_eq_false h2)]; simp
  · rw [if_pos (of_decide_eq_true h2)]; simp

theorem word_smg (n : Bool) (r : Nat) (h : r ≤ 9218868437227405312) : smg (Ieee.double.word n r) = if n then -(mg r : Int) else (mg r : Int) := by
  obtain ⟨h1, h2, _⟩ := word_rung n r h
  unfold smg
  rw [h1]
  unfold neg at h2
  cases n
  · rw [if_neg (of_decide_eq_false h2)]; simp
  · rw [if_pos (of_decide_eq_true h2)]; simp

theorem word_self (b : Nat) (h : b < 18446744073709551616) : Ieee.double.word (neg b) (rung b) = b := by
  rw [word_eq]; unfold neg rung
  by_cases h1 : 9223372036854775808 ≤ b <;> simp [h1] <;> omega

theorem sumW_sval (a b : Bool) (t : Int) : sval (sumW a b t) = rdI t := by
  unfold sumW
  rw [word_sval _ _ (rd_le _)]
  unfold rdI
  by_cases h : t = 0
  · subst h; simp [rd_zero]
  · simp only [h, if_false]
    by_cases h2 : t < 0 <;> simp [h2]

theorem sumW_lt (a b : Bool) (t : Int) : sumW a b t < 18446744073709551616 := (word_rung _ _ (rd_le _)).2.2
theorem sumW_rung (a b : Bool) (t : Int) : rung (sumW a b t) = rd t.natAbs := (word_rung _ _ (rd_le _)).1

theorem rdI_smg (b : Nat) (h : rung b ≤ 9218868437227405312) : rdI (smg b) = sval b := by
  have hp : mg (rung b) = 0 ↔ rung b = 0 := by
    constructor
    · intro h0
      rcases Nat.eq_zero_or_pos (rung b) with h | h
      · exact h
      · have := mg_lt h; rw [mg_zero] at this; omega
    · intro h0; rw [h0]; exact mg_zero
  unfold rdI smg sval
  by_cases hn : 9223372036854775808 ≤ b
  · rw [if_pos hn, if_pos hn]
    have e : (-((mg (rung b) : Nat) : Int)).natAbs = mg (rung b) := by omega
    rw [e, rd_mg _ h]
    split
    · rfl
    · have : rung b = 0 := hp.1 (by omega)
      rw [this]; rfl
  · rw [if_neg hn, if_neg hn]
    have e : ((mg (rung b) : Nat) : Int).natAbs = mg (rung b) := by omega
    rw [e, rd_mg _ h, if_neg (by omega)]

theorem smg_le {a b : Nat} (h : sval a ≤ sval b) : smg a ≤ smg b := by
  rcases Int.lt_trichotomy (sval a) (sval b) with h1 | h1 | h1
  · exact Int.le_of_lt (smg_lt h1)
  · exact Int.le_of_eq (smg_eq h1)
  · omega
theorem sval_of_smg {a b : Nat} (h : smg a ≤ smg b) : sval a ≤ sval b := by
  rcases Int.lt_trichotomy (sval b) (sval a) with h1 | h1 | h1
  · have := smg_lt h1; omega
  · omega
  · omega

/-- A power of two that the format has. -/
def pw (t : Nat) : Nat := if t < 52 then 2 ^ t else (t - 51) * 4503599627370496
theorem mg_pw (t : Nat) : mg (pw t) = 2 ^ t := by
  unfold pw
  by_cases h : t < 52
  · rw [if_pos h]
    have : 2 ^ t < 4503599627370496 := by
      have e : (2 : Nat) ^ 52 = 4503599627370496 := by decide
      rw [← e]; exact Nat.pow_lt_pow_right (by decide) h
    unfold mg; rw [if_pos this]
  · rw [if_neg h]
    unfold mg
    rw [if_neg (by omega), Nat.mul_mod_left, Nat.add_zero, Nat.mul_div_cancel _ (by decide)]
    have e : (2 : Nat) ^ 52 = 4503599627370496 := by decide
    rw [← e, ← Nat.pow_add]
    congr 1
    omega
theorem pw_le {t : Nat} (h : t ≤ 2000) : pw t < 9218868437227405312 := by
  unfold pw
  split
  · rename_i h1
    have : 2 ^ t < 4503599627370496 := by
      have e : (2 : Nat) ^ 52 = 4503599627370496 := by decide
      rw [← e]; exact Nat.pow_lt_pow_right (by decide) h1
    omega
  · omega
theorem rd_pw {t : Nat} (h : t ≤ 2000) : rd (2 ^ t) = pw t := by
  rw [← mg_pw t, rd_mg _ (Nat.le_of_lt (pw_le h))]

/-- The quotient, held between numbers that the format has and that are whole enough. -/
theorem div_spec (t : Nat) (ht : t = 1074) (a b : Nat) (ha : a < 18446744073709551616) (hb : b < 18446744073709551616) (fa : fin a) (fb : fin b) (ha0 : mg (rung a) ≠ 0) (hb0 : mg (rung b) ≠ 0) :
    ∃ R, Ieee.double.div a b = some (Ieee.double.word (neg a ^^ neg b) R) ∧ R ≤ 9218868437227405312 ∧ ∀ r, r ≤ 9218868437227405312 → 2 ^ ((mg (rung a)).log2 + 1020 - (mg (rung b)).log2) ∣ mg r →
      (mg (rung a) * 2 ^ t ≤ mg r * mg (rung b) → R ≤ r) ∧ (mg r * mg (rung b) ≤ mg (rung a) * 2 ^ t → r ≤ R) := by
  obtain ⟨m, i, e, hi, hm⟩ := read_fin a ha fa
  obtain ⟨n, j, e', hj, hn⟩ := read_fin b hb fb
  have hm0 : m ≠ 0 := fun h => ha0 (by rw [hm, h, Nat.zero_mul])
  have hn0 : n ≠ 0 := fun h => hb0 (by rw [hn, h, Nat.zero_mul])
  have hlA : (mg (rung a)).log2 = m.log2 + (i + 1074).toNat := by rw [hm]; exact log2_scale _ _ hm0
  have hlB : (mg (rung b)).log2 = n.log2 + (j + 1074).toNat := by rw [hn]; exact log2_scale _ _ hn0
  generalize hmore : 54 + n.log2 - m.log2 = more
  generalize hQ : 2 * (m * 2 ^ more / n) + (m * 2 ^ more % n != 0).toNat = Q
  obtain ⟨s, hs⟩ : ∃ s : Nat, s = (-1074 - (i - j - (more : Int) - 1)).toNat := ⟨_, rfl⟩
  obtain ⟨k, hk⟩ : ∃ k : Nat, k = ((i - j - (more : Int) - 1) + 1074).toNat := ⟨_, rfl⟩
  have hp : i - j - (more : Int) - 1 = -1074 - (s : Int) + (k : Int) := by omega
  refine ⟨rdS s (Q * 2 ^ k), ?_, rdS_le _ _, ?_⟩
  · unfold Ieee.Format.div
    rw [e, e']
    simp only [Ieee.Datum.quotient]
    rw [if_neg hn0]
    have hf : (Ieee.double.fractionBits + 2 : Nat) = 54 := rfl
    rw [hf, hmore, Nat.shiftLeft_eq, hQ]
    show some (Ieee.double.nearest _ _ _) = _
    rw [nearest_at _ _ s k _ hp]
    rfl
  · intro r hr hdvd
    have hg : ∃ c, mg r * 2 ^ s = c * 2 ^ (k + 1) := by
      rcases Nat.eq_zero_or_pos k with h0 | h0
      · rcases Nat.eq_zero_or_pos s with h1 | h1
        · -- place = -1074: the grain is 2
          have : 1 ≤ (mg (rung a)).log2 + 1020 - (mg (rung b)).log2 := by omega
          obtain ⟨c, hc⟩ := hdvd
          obtain ⟨G, hG⟩ := Nat.exists_eq_add_of_le this
          rw [hG, Nat.add_comm 1 G, Nat.pow_succ] at hc
          exact ⟨2 ^ G * c, by rw [hc, h0, h1, Nat.pow_zero, Nat.mul_one, Nat.zero_add, Nat.pow_one, Nat.mul_assoc, Nat.mul_comm 2 c, Nat.mul_assoc]⟩
        · obtain ⟨s', rfl⟩ : ∃ s', s = s' + 1 := ⟨s - 1, by omega⟩
          exact ⟨mg r * 2 ^ s', by rw [h0, Nat.zero_add, Nat.pow_one, Nat.pow_succ, Nat.mul_assoc]⟩
      · have : k + 1 ≤ (mg (rung a)).log2 + 1020 - (mg (rung b)).log2 := by omega
        obtain ⟨c, hc⟩ := hdvd
        obtain ⟨G, hG⟩ := Nat.exists_eq_add_of_le this
        have h1 : s = 0 := by omega
        rw [hG, Nat.add_comm (k + 1) G, Nat.pow_add] at hc
        exact ⟨2 ^ G * c, by rw [hc, h1, Nat.pow_zero, Nat.mul_one, Nat.mul_assoc, Nat.mul_comm (2 ^ (k + 1)) c, Nat.mul_assoc]⟩
    obtain ⟨c, hc⟩ := hg
    have hr2 : rdS s (c * 2 ^ (k + 1)) = r := by rw [← hc, rdS_scale, rd_mg r hr]
    have hT : 0 < 2 ^ (k + 1 + (j + 1074).toNat) := Nat.two_pow_pos _
    have eA : mg (rung a) * 2 ^ t * 2 ^ s = m * 2 ^ more * 2 ^ (k + 1 + (j + 1074).toNat) := by
      rw [hm, Nat.mul_assoc, Nat.mul_assoc, Nat.mul_assoc, ← Nat.pow_add, ← Nat.pow_add, ← Nat.pow_add]
      congr 2
      omega
    have eB : mg r * mg (rung b) * 2 ^ s = c * n * 2 ^ (k + 1 + (j + 1074).toNat) := by
      rw [hn, Nat.mul_right_comm, hc, Nat.pow_add 2 (k + 1), ← Nat.mul_assoc, ← Nat.mul_assoc]
      congr 1
      exact Nat.mul_right_comm _ _ _
    have hs2 : 0 < 2 ^ s := Nat.two_pow_pos s
    have hnp : 0 < n := Nat.pos_of_ne_zero hn0
    have hdm := Nat.div_add_mod (m * 2 ^ more) n
    have hml := Nat.mod_lt (m * 2 ^ more) hnp
    generalize m * 2 ^ more = D at *
    constructor
    · intro h
      have h1 : D ≤ c * n := by
        have := Nat.mul_le_mul_right (2 ^ s) h
        rw [eA, eB] at this
        exact Nat.le_of_mul_le_mul_right this hT
      have h2 : Q ≤ 2 * c := by
        have h3 : D / n ≤ c := Nat.div_le_of_le_mul (by rw [Nat.mul_comm]; exact h1)
        rcases Nat.eq_or_lt_of_le h3 with h4 | h4
        · have h5 : D % n = 0 := by
            rw [h4] at hdm
            have := Nat.mul_comm n c
            omega
          rw [← hQ, h5, h4]; simp
        · have : (D % n != 0).toNat ≤ 1 := by cases (D % n != 0) <;> simp
          omega
      rw [← hr2]
      refine rdS_mono ?_
      rw [Nat.pow_succ, ← Nat.mul_assoc, Nat.mul_comm (c * 2 ^ k) 2, ← Nat.mul_assoc]
      exact Nat.mul_le_mul_right _ h2
    · intro h
      have h1 : c * n ≤ D := by
        have := Nat.mul_le_mul_right (2 ^ s) h
        rw [eA, eB] at this
        exact Nat.le_of_mul_le_mul_right this hT
      have h2 : 2 * c ≤ Q := by
        have h3 : c ≤ D / n := (Nat.le_div_iff_mul_le hnp).2 h1
        omega
      rw [← hr2]
      refine rdS_mono ?_
      rw [Nat.pow_succ, ← Nat.mul_assoc, Nat.mul_comm (c * 2 ^ k) 2, ← Nat.mul_assoc]
      exact Nat.mul_le_mul_right _ h2

theorem div_zero (a b : Nat) (ha : a < 18446744073709551616) (hb : b < 18446744073709551616) (fb : fin b) (ha0 : rung a = 0) (hb0 : mg (rung b) ≠ 0) : Ieee.double.div a b = some (Ieee.double.word (neg a ^^ neg b) 0) := by
  obtain ⟨m, i, e, hi, hm⟩ := read_fin a ha (show rung a < 9218868437227405312 by rw [ha0]; decide)
  obtain ⟨n, j, e', hj, hn⟩ := read_fin b hb fb
  have hn0 : n ≠ 0 := fun h => hb0 (by rw [hn, h, Nat.zero_mul])
  have hm0 : m = 0 := by
    rw [ha0, mg_zero] at hm
    rcases Nat.mul_eq_zero.1 hm.symm with h | h
    · exact h
    · have := Nat.two_pow_pos (i + 1074).toNat; omega
  subst hm0
  unfold Ieee.Format.div
  rw [e, e']
  simp only [Ieee.Datum.quotient]
  rw [if_neg hn0]
  show some (Ieee.double.nearest _ _ _) = _
  have : (2 * (0 <<< (Ieee.double.fractionBits + 2 + n.log2 - Nat.log2 0) / n) + (0 <<< (Ieee.double.fractionBits + 2 + n.log2 - Nat.log2 0) % n != 0).toNat : Nat) = 0 := by simp [Nat.shiftLeft_eq]
  rw [this]
  unfold Ieee.Format.nearest
  rw [if_pos rfl]
  rfl

end Fl
end Go.Proofs.Ytlbbbabieepabaa
