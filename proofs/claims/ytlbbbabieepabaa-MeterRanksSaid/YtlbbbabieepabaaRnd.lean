/-
  Rounding of float64s told over whole numbers: every finite number is a whole number of the least unit (2^-1074); to round is a monotone map of whole numbers to rungs that leaves the rungs' own numbers as they are. No program is named here.
-/
import Derived.Test.YtlbbbabieepabaaFloats
namespace Go.Proofs.Ytlbbbabieepabaa
namespace Fl

/-- n / g to the nearest, between two to the even one. -/
def RE (n g : Nat) : Nat := n / g + (if g < 2 * (n % g) ∨ (g = 2 * (n % g) ∧ (n / g) % 2 = 1) then 1 else 0)

theorem RE_scale (n g c : Nat) (hc : 0 < c) : RE (n * c) (g * c) = RE n g := by
  unfold RE
  rw [Nat.mul_div_mul_right _ _ hc, Nat.mul_mod_mul_right]
  congr 1
  have e1 : 2 * (n % g * c) = 2 * (n % g) * c := by rw [Nat.mul_assoc]
  rw [e1]
  have i1 : g * c < 2 * (n % g) * c ↔ g < 2 * (n % g) := ⟨fun h => Nat.lt_of_mul_lt_mul_right h, fun h => Nat.mul_lt_mul_of_pos_right h hc⟩
  have i2 : g * c = 2 * (n % g) * c ↔ g = 2 * (n % g) := ⟨fun h => Nat.eq_of_mul_eq_mul_right hc h, fun h => congrArg (fun z => z * c) h⟩
  simp only [i1, i2]

theorem RE_one (n : Nat) : RE n 1 = n := by unfold RE; simp [Nat.mod_one]
theorem RE_mul (q g : Nat) (hg : 0 < g) : RE (q * g) g = q := by
  have := RE_scale q 1 g hg
  rw [Nat.one_mul, RE_one] at this
  exact this

theorem RE_zero (g : Nat) (hg : 0 < g) : RE 0 g = 0 := by
  have := RE_mul 0 g hg
  rwa [Nat.zero_mul] at this

theorem RE_le (n g : Nat) : RE n g ≤ n / g + 1 := by unfold RE; split <;> omega
theorem le_RE (n g : Nat) : n / g ≤ RE n g := by unfold RE; split <;> omega

theorem RE_mono {n m g : Nat} (_ : 0 < g) (h : n ≤ m) : RE n g ≤ RE m g := by
  have hd : n / g ≤ m / g := Nat.div_le_div_right h
  rcases Nat.eq_or_lt_of_le hd with he | hl
  · unfold RE
    rw [he]
    have en := Nat.div_add_mod n g
    have em := Nat.div_add_mod m g
    rw [he] at en
    have hr : n % g ≤ m % g := by omega
    split
    · rename_i h1
      rw [if_pos ?_]
      · exact Nat.le_refl _
      · rcases h1 with h1 | ⟨h1, h2⟩
        · left; omega
        · rcases Nat.eq_or_lt_of_le hr with h3 | h3
          · right; exact ⟨by omega, h2⟩
          · left; omega
    · split <;> omega
  · have a := RE_le n g
    have b := le_RE m g
    omega

theorem RE_bound {n g q : Nat} (hg : 0 < g) (h : n ≤ q * g) : RE n g ≤ q := by
  have := RE_mono hg h
  rwa [RE_mul q g hg] at this
theorem bound_RE {n g q : Nat} (hg : 0 < g) (h : q * g ≤ n) : q ≤ RE n g := by
  have := RE_mono hg h
  rwa [RE_mul q g hg] at this

theorem cut_eq (neg : Bool) (n d : Nat) : Ieee.Toward.even.cut neg n d = RE n (2 ^ d) := by
  have main : Ieee.Toward.even.cut neg n d = n / (1 <<< min d (n.log2 + 2)) + (decide (1 <<< min d (n.log2 + 2) < 2 * (n % (1 <<< min d (n.log2 + 2)))) || ((1 <<< min d (n.log2 + 2) == 2 * (n % (1 <<< min d (n.log2 + 2)))) && (n / (1 <<< min d (n.log2 + 2)) % 2 == 1))).toNat := rfl
  rw [main]
  rw [Nat.shiftLeft_eq, Nat.one_mul]
  have bn : ∀ g : Nat, n / g + (decide (g < 2 * (n % g)) || ((g == 2 * (n % g)) && (n / g % 2 == 1))).toNat = RE n g := by
    intro g
    unfold RE
    congr 1
    by_cases h1 : g < 2 * (n % g)
    · simp [h1]
    · by_cases h2 : g = 2 * (n % g) ∧ n / g % 2 = 1
      · rw [if_pos (Or.inr h2)]; simp [h2.1.symm, h2.2]
      · rw [if_neg (by rintro (h | h) <;> contradiction)]
        have : ((g == 2 * (n % g)) && (n / g % 2 == 1)) = false := by
          rw [Bool.eq_false_iff]; intro hh; simp at hh; exact h2 hh
        rw [this]; simp [h1]
  rw [bn]
  rcases Nat.lt_or_ge d (n.log2 + 2) with h | h
  · rw [Nat.min_eq_left (by omega)]
  · rw [Nat.min_eq_right h]
    have hn : n < 2 ^ (n.log2 + 1) := Nat.lt_log2_self
    have hp : 2 ^ (n.log2 + 2) = 2 * 2 ^ (n.log2 + 1) := by rw [Nat.pow_succ, Nat.mul_comm]
    have hq : 2 ^ (n.log2 + 2) ≤ 2 ^ d := Nat.pow_le_pow_right (by decide) h
    have z : ∀ g, 2 * n < g → RE n g = 0 := by
      intro g hg
      unfold RE
      rw [Nat.div_eq_of_lt (by omega), Nat.mod_eq_of_lt (by omega), if_neg (by omega)]
    rw [z _ (by omega), z _ (by omega)]

/-- The rung of z units of 2^(-1074 - s). -/
def kS (s z : Nat) : Nat := max (z.log2 - 52) s
def rdS (s z : Nat) : Nat := min ((kS s z - s) * 4503599627370496 + RE z (2 ^ kS s z)) 9218868437227405312
def rd (z : Nat) : Nat := rdS 0 z

theorem log2_scale (m k : Nat) (hm : m ≠ 0) : (m * 2 ^ k).log2 = m.log2 + k := by
  have h1 := Nat.log2_self_le hm
  have h2 : m < 2 ^ (m.log2 + 1) := Nat.lt_log2_self
  have hk : 0 < 2 ^ k := Nat.two_pow_pos k
  have hne : m * 2 ^ k ≠ 0 := Nat.mul_ne_zero hm (by omega)
  apply Nat.le_antisymm
  · have : (m * 2 ^ k).log2 < m.log2 + 1 + k := by
      rw [Nat.log2_lt hne, Nat.pow_add]
      exact Nat.mul_lt_mul_of_pos_right h2 hk
    omega
  · rw [Nat.le_log2 hne, Nat.pow_add]
    exact Nat.mul_le_mul_right _ h1

theorem nearest_at (neg : Bool) (m s k : Nat) (p : Int) (hp : p = -1074 - (s : Int) + (k : Int)) : Ieee.double.nearest neg m p = Ieee.double.word neg (rdS s (m * 2 ^ k)) := by
  unfold Ieee.Format.nearest
  by_cases hm : m = 0
  · subst hm
    rw [if_pos rfl]
    unfold rdS
    rw [Nat.zero_mul, RE_zero _ (Nat.two_pow_pos _)]
    have e : kS s 0 - s = 0 := by unfold kS; simp
    rw [e, Nat.zero_mul, Nat.zero_add, Nat.zero_min]
  · rw [if_neg hm]
    simp only [leastW, binadeW, infW, cut_eq, Nat.shiftLeft_eq]
    have hl := log2_scale m k hm
    have hf : (Ieee.double.fractionBits : Nat) = 52 := rfl
    rw [hf]
    have hlast : max (p + ((m.log2 : Nat) : Int) - ((52 : Nat) : Int)) (-1074) = -1074 - (s : Int) + ((kS s (m * 2 ^ k) : Nat) : Int) := by
      unfold kS; rw [hl, hp]; omega
    rw [hlast]
    generalize hK : kS s (m * 2 ^ k) = K
    have hsK : s ≤ K := by rw [← hK]; unfold kS; omega
    unfold rdS
    rw [hK]
    have e1 : (-1074 - (s : Int) + (K : Int) - -1074).toNat = K - s := by omega
    have e2 : (p - (-1074 - (s : Int) + (K : Int))).toNat = k - K := by omega
    have e3 : (-1074 - (s : Int) + (K : Int) - p).toNat = K - k := by omega
    have e4 : RE (m * 2 ^ (k - K)) (2 ^ (K - k)) = RE (m * 2 ^ k) (2 ^ K) := by
      rcases Nat.le_total k K with h | h
      · rw [show k - K = 0 by omega, Nat.pow_zero, Nat.mul_one, ← RE_scale m (2 ^ (K - k)) (2 ^ k) (Nat.two_pow_pos _), ← Nat.pow_add, show K - k + k = K by omega]
      · rw [show K - k = 0 by omega, Nat.pow_zero, ← RE_scale _ 1 (2 ^ K) (Nat.two_pow_pos _), Nat.one_mul, Nat.mul_assoc, ← Nat.pow_add, show k - K + K = k by omega]
    rw [e1, e2, e3, e4]

theorem rdS_le (s z : Nat) : rdS s z ≤ 9218868437227405312 := Nat.min_le_right ..

theorem rdS_mono {s z z' : Nat} (h : z ≤ z') : rdS s z ≤ rdS s z' := by
  unfold rdS
  by_cases hz : z = 0
  · subst hz
    rw [RE_zero _ (Nat.two_pow_pos _)]
    have e : kS s 0 - s = 0 := by unfold kS; simp
    rw [e, Nat.zero_mul, Nat.zero_add, Nat.zero_min]
    exact Nat.zero_le _
  · have hz' : z' ≠ 0 := by omega
    have hl : z.log2 ≤ z'.log2 := by
      rw [Nat.le_log2 hz']
      exact Nat.le_trans (Nat.log2_self_le hz) h
    have hk : kS s z ≤ kS s z' := by unfold kS; omega
    suffices hs : (kS s z - s) * 4503599627370496 + RE z (2 ^ kS s z) ≤ (kS s z' - s) * 4503599627370496 + RE z' (2 ^ kS s z') from Nat.le_min.2 ⟨Nat.le_trans (Nat.min_le_left ..) hs, Nat.min_le_right ..⟩
    rcases Nat.eq_or_lt_of_le hk with he | hlt
    · rw [he]
      have := RE_mono (Nat.two_pow_pos (kS s z')) h
      omega
    · have hs' : s ≤ kS s z := by unfold kS; omega
      have e' : kS s z' = z'.log2 - 52 := by unfold kS at *; omega
      have h52 : 52 ≤ z'.log2 := by unfold kS at *; omega
      have hb : RE z (2 ^ kS s z) ≤ 9007199254740992 := by
        apply RE_bound (Nat.two_pow_pos _)
        have : z < 2 ^ (53 + kS s z) := by
          rw [← Nat.log2_lt hz]
          unfold kS; omega
        rw [Nat.pow_add] at this
        have e : (2 : Nat) ^ 53 = 9007199254740992 := by decide
        rw [e] at this
        omega
      have hc : 4503599627370496 ≤ RE z' (2 ^ kS s z') := by
        apply bound_RE (Nat.two_pow_pos _)
        have := Nat.log2_self_le hz'
        rw [show z'.log2 = 52 + kS s z' by omega, Nat.pow_add] at this
        have e : (2 : Nat) ^ 52 = 4503599627370496 := by decide
        rw [e] at this
        omega
      generalize RE z (2 ^ kS s z) = A at *
      generalize RE z' (2 ^ kS s z') = B at *
      omega

theorem rdS_scale (s z : Nat) : rdS s (z * 2 ^ s) = rd z := by
  unfold rd rdS
  by_cases hz : z = 0
  · subst hz
    rw [Nat.zero_mul, RE_zero _ (Nat.two_pow_pos _), RE_zero _ (Nat.two_pow_pos _)]
    have e1 : kS s 0 - s = 0 := by unfold kS; simp
    have e2 : kS 0 0 - 0 = 0 := by unfold kS; simp
    rw [e1, e2]
  · have hk : kS s (z * 2 ^ s) = kS 0 z + s := by unfold kS; rw [log2_scale z s hz]; omega
    rw [hk, Nat.pow_add, RE_scale _ _ _ (Nat.two_pow_pos s), Nat.add_sub_cancel, Nat.sub_zero]

theorem rd_mg (r : Nat) (h : r ≤ 9218868437227405312) : rd (mg r) = r := by
  unfold rd rdS
  by_cases h1 : r < 4503599627370496
  · have e : mg r = r := by unfold mg; rw [if_pos h1]
    rw [e]
    have hk : kS 0 r = 0 := by
      unfold kS
      by_cases hr : r = 0
      · subst hr; simp
      · have : r.log2 < 52 := by rw [Nat.log2_lt hr]; exact h1
        omega
    rw [hk, Nat.pow_zero, RE_one]; omega
  · have e : mg r = (4503599627370496 + r % 4503599627370496) * 2 ^ (r / 4503599627370496 - 1) := by unfold mg; rw [if_neg h1]
    have hf : (4503599627370496 + r % 4503599627370496) ≠ 0 := by omega
    have hl : (4503599627370496 + r % 4503599627370496).log2 = 52 := by
      apply Nat.le_antisymm
      · have : (4503599627370496 + r % 4503599627370496).log2 < 53 := by
          rw [Nat.log2_lt hf]
          have e : (2 : Nat) ^ 53 = 9007199254740992 := by decide
          rw [e]; omega
        omega
      · rw [Nat.le_log2 hf]
        have e : (2 : Nat) ^ 52 = 4503599627370496 := by decide
        rw [e]; omega
    have hk : kS 0 (mg r) = r / 4503599627370496 - 1 := by
      unfold kS; rw [e, log2_scale _ _ hf, hl]; omega
    rw [hk, e, RE_mul _ _ (Nat.two_pow_pos _)]
    omega

/-- The word of a sum: 't' units, the operands' signs 'a', 'b'. -/
def sumW (a b : Bool) (t : Int) : Nat := Ieee.double.word (if t = 0 then a && b else decide (t < 0)) (rd t.natAbs)

def fin (b : Nat) : Prop := rung b < 9218868437227405312
def neg (b : Nat) : Bool := decide (9223372036854775808 ≤ b)

theorem sum_units (s t : Bool) (m n : Nat) (i j : Int) (hi : -1074 ≤ i) (hj : -1074 ≤ j) (x y : Int)
    (hx : x = if s then -((m * 2 ^ (i + 1074).toNat : Nat) : Int) else ((m * 2 ^ (i + 1074).toNat : Nat) : Int)) (hy : y = if t then -((n * 2 ^ (j + 1074).toNat : Nat) : Int) else ((n * 2 ^ (j + 1074).toNat : Nat) : Int)) :
    ((Ieee.Datum.number s m i).sum (.number t n j)).map Ieee.double.write = some (sumW s t (x + y)) := by
  simp only [Ieee.Datum.sum, Option.map_some]
  congr 1
  have hb : -1074 ≤ min i j := by omega
  have e1 := scaled s m i (min i j) (by omega) hb
  have e2 := scaled t n j (min i j) (by omega) hb
  rw [← hx] at e1
  rw [← hy] at e2
  generalize Ieee.signed s m (i - min i j).toNat = X at *
  generalize Ieee.signed t n (j - min i j).toNat = Y at *
  have hk : ((2 ^ (min i j + 1074).toNat : Nat) : Int) = (2 : Int) ^ (min i j + 1074).toNat := by simp
  have hpos : (0 : Int) < ((2 ^ (min i j + 1074).toNat : Nat) : Int) := by have := Nat.two_pow_pos (min i j + 1074).toNat; omega
  have hxy : x + y = (X + Y) * ((2 ^ (min i j + 1074).toNat : Nat) : Int) := by rw [Int.add_mul, e1, e2]
  show Ieee.double.nearest _ _ _ = _
  rw [nearest_at _ _ 0 (min i j + 1074).toNat (min i j) (by omega)]
  unfold sumW
  have hz : (X + Y = 0) ↔ (x + y = 0) := by
    rw [hxy]
    constructor
    · intro h; rw [h]; simp
    · intro h
      rcases Int.mul_eq_zero.1 h with h | h
      · exact h
      · omega
  have hn : (X + Y < 0) ↔ (x + y < 0) := by
    rw [hxy]
    constructor
    · intro h; exact Int.mul_neg_of_neg_of_pos h hpos
    · intro h
      rcases (show X + Y < 0 ∨ 0 ≤ X + Y by omega) with h' | h'
      · exact h'
      · have := Int.mul_nonneg h' (Int.le_of_lt hpos); omega
  have ha : (x + y).natAbs = (X + Y).natAbs * 2 ^ (min i j + 1074).toNat := by rw [hxy, Int.natAbs_mul]; rfl
  rw [ha]
  congr 1
  simp only [hz, hn]

theorem add_fin (a b : Nat) (ha : a < 18446744073709551616) (hb : b < 18446744073709551616) (fa : fin a) (fb : fin b) : Ieee.double.add a b = some (sumW (neg a) (neg b) (smg a + smg b)) := by
  obtain ⟨m, p, e, hp, hm⟩ := read_fin a ha fa
  obtain ⟨n, q, e', hq, hn⟩ := read_fin b hb fb
  unfold Ieee.Format.add
  rw [e, e']
  refine sum_units _ _ m n p q hp hq _ _ ?_ ?_
  · unfold smg; rw [hm]; simp
  · unfold smg; rw [hn]; simp

theorem sub_fin (a b : Nat) (ha : a < 18446744073709551616) (hb : b < 18446744073709551616) (fa : fin a) (fb : fin b) : Ieee.double.sub a b = some (sumW (neg a) (!neg b) (smg a - smg b)) := by
  obtain ⟨m, p, e, hp, hm⟩ := read_fin a ha fa
  obtain ⟨n, q, e', hq, hn⟩ := read_fin b hb fb
  unfold Ieee.Format.sub
  rw [e, e', Int.sub_eq_add_neg]
  refine sum_units _ _ m n p q hp hq _ _ ?_ ?_
  · unfold smg; rw [hm]; simp
  · unfold smg; rw [hn]; by_cases h : 9223372036854775808 ≤ b <;> simp [h]

end Fl
end Go.Proofs.Ytlbbbabieepabaa
