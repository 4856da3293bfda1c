/-
  Whole numbers as float64s: their sums, their mean, their ranks.
-/
import Derived.Test.YtlbbbabieepabaaMone
namespace Go.Proofs.Ytlbbbabieepabaa
open Go.RowKit

def fI (z : Int) : Nat := floatOfInt .f64 z

theorem fI_word (z : Int) : fI z = Ieee.double.word (decide (z < 0)) (Fl.rd (z.natAbs * 2 ^ 1074)) := by
  have h := Fl.nearest_at (decide (z < 0)) z.natAbs 0 1074 0 (by omega)
  exact h

theorem whole_rung (T : Nat) (hT : T = 1074) (m : Nat) (hm : m < 9007199254740992) : ∃ r, r < 9218868437227405312 ∧ Fl.mg r = m * 2 ^ T := by
  by_cases h0 : m = 0
  · exact ⟨0, by decide, by rw [h0, Fl.mg_zero, Nat.zero_mul]⟩
  · have hl : m.log2 < 53 := by
      rw [Nat.log2_lt h0]
      have e : (2 : Nat) ^ 53 = 9007199254740992 := by decide
      rw [e]; exact hm
    have h1 := Nat.log2_self_le h0
    have h2 : m < 2 ^ (m.log2 + 1) := Nat.lt_log2_self
    generalize m.log2 = L at *
    have e52 : (2 : Nat) ^ 52 = 4503599627370496 := by decide
    have e53 : (2 : Nat) ^ 53 = 9007199254740992 := by decide
    have hlo : 4503599627370496 ≤ m * 2 ^ (52 - L) := by
      rw [← e52, show (2 : Nat) ^ 52 = 2 ^ L * 2 ^ (52 - L) by rw [← Nat.pow_add]; congr 1; omega]
      exact Nat.mul_le_mul_right _ h1
    have hhi : m * 2 ^ (52 - L) < 9007199254740992 := by
      rw [← e53, show (2 : Nat) ^ 53 = 2 ^ (L + 1) * 2 ^ (52 - L) by rw [← Nat.pow_add]; congr 1; omega]
      exact Nat.mul_lt_mul_of_pos_right h2 (Nat.two_pow_pos _)
    have hq : m * 2 ^ T = m * 2 ^ (52 - L) * 2 ^ (1022 + L) := by
      rw [Nat.mul_assoc, ← Nat.pow_add]; congr 2; omega
    generalize m * 2 ^ (52 - L) = q at *
    refine ⟨(1023 + L) * 4503599627370496 + (q - 4503599627370496), by omega, ?_⟩
    unfold Fl.mg
    rw [if_neg (by omega), hq]
    have d1 : ((1023 + L) * 4503599627370496 + (q - 4503599627370496)) % 4503599627370496 = q - 4503599627370496 := by omega
    have d2 : ((1023 + L) * 4503599627370496 + (q - 4503599627370496)) / 4503599627370496 = 1023 + L := by omega
    rw [d1, d2, show 4503599627370496 + (q - 4503599627370496) = q by omega, show 1023 + L - 1 = 1022 + L by omega]

structure Whole (T : Nat) (z : Int) : Prop where
  lt : fI z < 18446744073709551616
  fin : Fl.fin (fI z)
  neg : Fl.neg (fI z) = decide (z < 0)
  mg : Fl.mg (Fl.rung (fI z)) = z.natAbs * 2 ^ T
  smg : Fl.smg (fI z) = z * ((2 ^ T : Nat) : Int)

theorem whole (T : Nat) (hT : T = 1074) (z : Int) (hz : z.natAbs < 9007199254740992) : Whole T z := by
  obtain ⟨r, hr, hm⟩ := whole_rung T hT z.natAbs hz
  have hw := fI_word z
  rw [← hT, ← hm, Fl.rd_mg r (Nat.le_of_lt hr)] at hw
  obtain ⟨w1, w2, w3⟩ := Fl.word_rung (decide (z < 0)) r (Nat.le_of_lt hr)
  refine ⟨by rw [hw]; exact w3, by show Fl.rung _ < _; rw [hw, w1]; exact hr, by rw [hw]; exact w2, by rw [hw, w1]; exact hm, ?_⟩
  rw [hw, Fl.word_smg _ _ (Nat.le_of_lt hr), hm]
  generalize (2 ^ T : Nat) = B
  by_cases h : z < 0
  · rw [if_pos (by simpa using h)]
    have : z = -(z.natAbs : Int) := by omega
    rw [Int.natCast_mul, ← Int.neg_mul, ← this]
  · rw [if_neg (by simpa using h)]
    have : z = (z.natAbs : Int) := by omega
    rw [Int.natCast_mul, ← this]

theorem fI_zero : fI 0 = 0 := by decide +kernel

theorem whole_add (a b : Int) (ha : a.natAbs < 9007199254740992) (hb : b.natAbs < 9007199254740992) : plusN (fI a) (fI b) = fI (a + b) := by
  obtain ⟨T, hT⟩ : ∃ T : Nat, T = 1074 := ⟨_, rfl⟩
  have A := whole T hT a ha
  have B := whole T hT b hb
  rw [plus_fin A.lt B.lt A.fin B.fin, A.smg, B.smg, ← Int.add_mul, A.neg, B.neg, fI_word, ← hT]
  unfold Fl.sumW
  have hpos : (0 : Int) < ((2 ^ T : Nat) : Int) := by have := Nat.two_pow_pos T; omega
  have e1 : ((a + b) * ((2 ^ T : Nat) : Int)).natAbs = (a + b).natAbs * 2 ^ T := by rw [Int.natAbs_mul]; rfl
  rw [e1]
  congr 1
  generalize ((2 ^ T : Nat) : Int) = P at *
  by_cases h0 : a + b = 0
  · rw [h0, Int.zero_mul, if_pos rfl]
    by_cases h1 : a < 0
    · have : ¬ b < 0 := by omega
      simp [this]
    · simp [h1]
  · have hne : (a + b) * P ≠ 0 := fun h => (Int.mul_eq_zero.1 h).elim h0 (by omega)
    rw [if_neg hne]
    congr 1
    rw [eq_iff_iff]
    constructor
    · intro h
      rcases (show a + b < 0 ∨ 0 ≤ a + b by omega) with h' | h'
      · exact h'
      · have := Int.mul_nonneg h' (Int.le_of_lt hpos); omega
    · intro h; exact Int.mul_neg_of_neg_of_pos h hpos

def sumI (l : List Int) : Int := l.foldl (· + ·) 0
theorem sumI_snoc (l : List Int) (x : Int) : sumI (l ++ [x]) = sumI l + x := by unfold sumI; simp

/-- Small whole numbers. -/
def Smalls (l : List Int) : Prop := ∀ x ∈ l, -32768 ≤ x ∧ x ≤ 32767

theorem sumI_bound : ∀ (l r : List Int), Smalls (r ++ l) → (sumI r).natAbs ≤ 32768 * r.length → (sumI (r ++ l)).natAbs ≤ 32768 * (r ++ l).length
  | [], r, _, h => by simpa using h
  | x :: t, r, hs, h => by
    have hx := hs x (by simp)
    have e : r ++ x :: t = (r ++ [x]) ++ t := by simp
    rw [e] at hs ⊢
    refine sumI_bound t (r ++ [x]) hs ?_
    rw [sumI_snoc]
    simp only [List.length_append, List.length_singleton]
    omega
theorem sumI_le (l : List Int) (h : Smalls l) : (sumI l).natAbs ≤ 32768 * l.length := by
  have := sumI_bound l [] (by simpa using h) (by simp [sumI])
  simpa using this

theorem sum_whole (l : List Int) (hs : Smalls l) (hn : l.length ≤ 100) : sumN (l.map fI) = fI (sumI l) := by
  have go : ∀ (t r : List Int), Smalls (r ++ t) → (r ++ t).length ≤ 100 → (t.map fI).foldl plusN (fI (sumI r)) = fI (sumI (r ++ t)) := by
    intro t
    induction t with
    | nil => intro r _ _; simp
    | cons x t ih =>
      intro r h1 h2
      have hx := h1 x (by simp)
      have hr : (sumI r).natAbs ≤ 32768 * r.length := sumI_le r (fun y hy => h1 y (by simp [hy]))
      simp at h2
      show (t.map fI).foldl plusN (plusN (fI (sumI r)) (fI x)) = _
      rw [whole_add _ _ (by omega) (by omega), ← sumI_snoc]
      have e : r ++ x :: t = (r ++ [x]) ++ t := by simp
      rw [e] at h1 ⊢
      exact ih (r ++ [x]) h1 (by simp; omega)
  have := go l [] (by simpa using hs) (by simpa using hn)
  have z : fI (sumI []) = 0 := fI_zero
  rw [z] at this
  simpa [sumN] using this

theorem small_whole {x : Int} (h : -32768 ≤ x ∧ x ≤ 32767) : Whole 1074 x := whole 1074 rfl x (by omega)
theorem small_nan {x : Int} (h : -32768 ≤ x ∧ x ≤ 32767) : nanB (fI x) = false := (nan_iff _).2 (Nat.le_of_lt (small_whole h).fin)
theorem small_fin {x : Int} (h : -32768 ≤ x ∧ x ≤ 32767) : finB (fI x) = true := (fin_iff _).2 (small_whole h).fin

theorem smalls_nums {l : List Int} (hs : Smalls l) : numsL (l.map fI) = l.map fI := by
  unfold numsL
  rw [List.filter_eq_self]
  intro y hy
  obtain ⟨x, hx, rfl⟩ := List.mem_map.1 hy
  rw [small_nan (hs x hx)]; rfl
theorem smalls_fin {l : List Int} (hs : Smalls l) : finL (l.map fI) = l.map fI := by
  unfold finL
  rw [List.filter_eq_self]
  intro y hy
  obtain ⟨x, hx, rfl⟩ := List.mem_map.1 hy
  exact small_fin (hs x hx)

theorem sval_of_key {a b : Nat} (ha : a < 18446744073709551616) (hb : b < 18446744073709551616) (na : nanB a = false) (nb : nanB b = false) (h : keyN a ≤ keyN b) : Fl.sval a ≤ Fl.sval b := by
  unfold keyN sgnB at h
  rw [na, nb] at h
  unfold Fl.sval Fl.rung
  by_cases h1 : 9223372036854775808 ≤ a <;> by_cases h2 : 9223372036854775808 ≤ b <;> simp [h1, h2] at h ⊢ <;> omega

theorem sval_le_whole {a b : Int} (ha : -32768 ≤ a ∧ a ≤ 32767) (hb : -32768 ≤ b ∧ b ≤ 32767) : Fl.sval (fI a) ≤ Fl.sval (fI b) ↔ a ≤ b := by
  obtain ⟨T, hT⟩ : ∃ T : Nat, T = 1074 := ⟨_, rfl⟩
  have A := whole T hT a (by omega)
  have B := whole T hT b (by omega)
  have hpos : (0 : Int) < ((2 ^ T : Nat) : Int) := by have := Nat.two_pow_pos T; omega
  constructor
  · intro h
    have := Fl.smg_le h
    rw [A.smg, B.smg] at this
    exact Int.le_of_mul_le_mul_right this hpos
  · intro h
    refine Fl.sval_of_smg ?_
    rw [A.smg, B.smg]
    exact Int.mul_le_mul_of_nonneg_right h (Int.le_of_lt hpos)

theorem least_whole {l : List Int} (hs : Smalls l) (hne : l ≠ []) : ∃ c ∈ l, minN (l.map fI) = fI c ∧ (∀ x ∈ l, c ≤ x) ∧ ∀ x ∈ l, keyN (fI c) ≤ keyN (fI x) := by
  have hno : ∀ y ∈ l.map fI, nanB y = false := fun y hy => by obtain ⟨x, hx, rfl⟩ := List.mem_map.1 hy; exact small_nan (hs x hx)
  obtain ⟨_, h2, h3⟩ := minGo_ok (l.map fI) 9218868437227405312 hno
  have hc : ∃ c ∈ l, minN (l.map fI) = fI c := by
    rcases h3 with h3 | h3
    · obtain ⟨x, t, rfl⟩ := List.exists_cons_of_ne_nil hne
      have hx := hs x (by simp)
      have h4 := h2 (fI x) (by simp)
      rw [h3] at h4
      have h5 := key_span (fI x) (small_whole hx).lt (small_nan hx)
      exact ⟨x, by simp, by show minGo _ _ = _; rw [h3]; exact key_inj (by decide) (small_whole hx).lt (by decide +kernel) (small_nan hx) (by omega)⟩
    · obtain ⟨c, hc, e⟩ := List.mem_map.1 h3
      exact ⟨c, hc, e.symm⟩
  obtain ⟨c, hc, e⟩ := hc
  have hk : ∀ x ∈ l, keyN (fI c) ≤ keyN (fI x) := fun x hx => by have := h2 (fI x) (List.mem_map.2 ⟨x, hx, rfl⟩); rw [← e]; exact this
  exact ⟨c, hc, e, fun x hx => (sval_le_whole (hs c hc) (hs x hx)).1 (sval_of_key (small_whole (hs c hc)).lt (small_whole (hs x hx)).lt (small_nan (hs c hc)) (small_nan (hs x hx)) (hk x hx)), hk⟩
theorem most_whole {l : List Int} (hs : Smalls l) (hne : l ≠ []) : ∃ c ∈ l, maxN (l.map fI) = fI c ∧ (∀ x ∈ l, x ≤ c) := by
  have hno : ∀ y ∈ l.map fI, nanB y = false := fun y hy => by obtain ⟨x, hx, rfl⟩ := List.mem_map.1 hy; exact small_nan (hs x hx)
  obtain ⟨_, h2, h3⟩ := maxGo_ok (l.map fI) 18442240474082181120 hno
  have hc : ∃ c ∈ l, maxN (l.map fI) = fI c := by
    rcases h3 with h3 | h3
    · obtain ⟨x, t, rfl⟩ := List.exists_cons_of_ne_nil hne
      have hx := hs x (by simp)
      have h4 := h2 (fI x) (by simp)
      rw [h3] at h4
      have h5 := key_span (fI x) (small_whole hx).lt (small_nan hx)
      exact ⟨x, by simp, by show maxGo _ _ = _; rw [h3]; exact key_inj (by decide) (small_whole hx).lt (by decide +kernel) (small_nan hx) (by omega)⟩
    · obtain ⟨c, hc, e⟩ := List.mem_map.1 h3
      exact ⟨c, hc, e.symm⟩
  obtain ⟨c, hc, e⟩ := hc
  exact ⟨c, hc, e, fun x hx => (sval_le_whole (hs x hx) (hs c hc)).1 (sval_of_key (small_whole (hs x hx)).lt (small_whole (hs c hc)).lt (small_nan (hs x hx)) (small_nan (hs c hc)) (by have := h2 (fI x) (List.mem_map.2 ⟨x, hx, rfl⟩); rw [← e]; exact this))⟩

theorem sumI_lower : ∀ (l r : List Int) (c : Int), (∀ x ∈ l, c ≤ x) → c * (r.length : Int) ≤ sumI r → c * ((r ++ l).length : Int) ≤ sumI (r ++ l)
  | [], r, c, _, h => by simpa using h
  | x :: t, r, c, hx, h => by
    have h1 := hx x (by simp)
    have e : r ++ x :: t = (r ++ [x]) ++ t := by simp
    rw [e]
    refine sumI_lower t (r ++ [x]) c (fun y hy => hx y (by simp [hy])) ?_
    rw [sumI_snoc, List.length_append, List.length_singleton, Int.natCast_add, Int.mul_add]
    simp; omega
theorem sumI_upper : ∀ (l r : List Int) (c : Int), (∀ x ∈ l, x ≤ c) → sumI r ≤ c * (r.length : Int) → sumI (r ++ l) ≤ c * ((r ++ l).length : Int)
  | [], r, c, _, h => by simpa using h
  | x :: t, r, c, hx, h => by
    have h1 := hx x (by simp)
    have e : r ++ x :: t = (r ++ [x]) ++ t := by simp
    rw [e]
    refine sumI_upper t (r ++ [x]) c (fun y hy => hx y (by simp [hy])) ?_
    rw [sumI_snoc, List.length_append, List.length_singleton, Int.natCast_add, Int.mul_add]
    simp; omega

end Go.Proofs.Ytlbbbabieepabaa
