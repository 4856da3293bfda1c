import Derived.Test.YtopnagjbdjicaaaRows

/-
  Rows of counts: what they have, one more, put together, compared.
-/
namespace Go.Proofs.Ytopnagjbdjicaaa

/-- What a row has at a place: nought behind its end. -/
def atN (xs : List Nat) (i : Nat) : Nat := xs.getD i 0
def atZ (xs : List Nat) (z : Int) : Nat := if z < 0 then 0 else atN xs z.toNat

theorem atN_of {xs : List Nat} {i : Nat} (h : i < xs.length) : atN xs i = xs[i] := by simp [atN, List.getD, h]
theorem atN_out {xs : List Nat} {i : Nat} (h : xs.length ≤ i) : atN xs i = 0 := by simp [atN, List.getD, List.getElem?_eq_none h]
theorem atZ_nat (xs : List Nat) (i : Nat) : atZ xs (i : Int) = atN xs i := by
  unfold atZ
  rw [if_neg (by omega), Int.toNat_natCast]
theorem atZ_neg {xs : List Nat} {z : Int} (h : z < 0) : atZ xs z = 0 := if_pos h
theorem atN_lt {M : Nat} {xs : List Nat} (hM : 0 < M) (h : ∀ x ∈ xs, x < M) (i : Nat) : atN xs i < M := by
  by_cases hi : i < xs.length
  · rw [atN_of hi]; exact h _ (List.getElem_mem _)
  · rw [atN_out (by omega)]; exact hM
theorem atZ_lt {M : Nat} {xs : List Nat} (hM : 0 < M) (h : ∀ x ∈ xs, x < M) (z : Int) : atZ xs z < M := by
  unfold atZ
  split
  · exact hM
  · exact atN_lt hM h _
/-- Rows of one length are alike if they are so at each place. -/
theorem row_ext {xs ys : List Nat} (hl : xs.length = ys.length) (h : ∀ i, i < xs.length → atN xs i = atN ys i) : xs = ys :=
  List.ext_getElem hl fun i h1 h2 => by
    have := h i h1
    rwa [atN_of h1, atN_of h2] at this

/-- A row from its places. -/
def mkL (n : Nat) (f : Nat → Nat) : List Nat := (List.range n).map f
theorem mkL_length (n : Nat) (f : Nat → Nat) : (mkL n f).length = n := by simp [mkL]
theorem mkL_at {n : Nat} {f : Nat → Nat} (i : Nat) : atN (mkL n f) i = if i < n then f i else 0 := by
  by_cases h : i < n
  · rw [atN_of (by rw [mkL_length]; exact h), if_pos h]; simp [mkL]
  · rw [atN_out (by rw [mkL_length]; omega), if_neg h]
theorem mkL_mem {n : Nat} {f : Nat → Nat} {P : Nat → Prop} (h : ∀ i, i < n → P (f i)) : ∀ x ∈ mkL n f, P x := by
  intro x hx
  obtain ⟨i, hi, rfl⟩ := List.mem_map.1 hx
  exact h i (List.mem_range.1 hi)

/-- Put together. -/
def joinL (a b : List Nat) : List Nat := mkL (max a.length b.length) fun i => max (atN a i) (atN b i)
theorem joinL_length (a b : List Nat) : (joinL a b).length = max a.length b.length := mkL_length ..
theorem joinL_at (a b : List Nat) (i : Nat) : atN (joinL a b) i = max (atN a i) (atN b i) := by
  unfold joinL
  rw [mkL_at]
  split
  · rfl
  · rw [atN_out (xs := a) (by omega), atN_out (xs := b) (by omega)]; rfl
theorem joinL_lt {M : Nat} {a b : List Nat} (hM : 0 < M) (ha : ∀ x ∈ a, x < M) (hb : ∀ x ∈ b, x < M) : ∀ x ∈ joinL a b, x < M :=
  mkL_mem fun i _ => by
    have := atN_lt hM ha i
    have := atN_lt hM hb i
    omega

/-- One more. -/
def upL (xs : List Nat) (i : Nat) : List Nat := mkL (max xs.length (i + 1)) fun k => atN xs k + if k = i then 1 else 0
theorem upL_length (xs : List Nat) (i : Nat) : (upL xs i).length = max xs.length (i + 1) := mkL_length ..
theorem upL_at (xs : List Nat) (i k : Nat) : atN (upL xs i) k = atN xs k + if k = i then 1 else 0 := by
  unfold upL
  rw [mkL_at]
  split
  · rfl
  · rw [atN_out (by omega), if_neg (by omega)]
theorem upL_lt {M : Nat} {xs : List Nat} {i : Nat} (h : ∀ x ∈ xs, x < M) (hi : atN xs i + 1 < M) : ∀ x ∈ upL xs i, x < M :=
  mkL_mem fun k _ => by
    have := atN_lt (by omega) h k
    split
    · subst_vars; exact hi
    · exact this
/-- May one more be counted there? -/
def mayUp (xs : List Nat) (z : Int) : Bool := !(decide (z < 0) || decide (z ≥ 64) || decide (atZ xs z = 18446744073709551615))
def upR (xs : List Nat) (z : Int) : List Nat := if mayUp xs z then upL xs z.toNat else xs
theorem mayUp_yes {xs : List Nat} {i : Nat} (h : i < 64) (h2 : atN xs i ≠ 18446744073709551615) : mayUp xs (i : Int) = true := by
  unfold mayUp
  rw [atZ_nat, decide_eq_false (show ¬ (i : Int) < 0 by omega), decide_eq_false (show ¬ (i : Int) ≥ 64 by omega), decide_eq_false h2]
  rfl
theorem mayUp_low {xs : List Nat} {z : Int} (h : z < 0) : mayUp xs z = false := by
  unfold mayUp
  rw [decide_eq_true h]; rfl
theorem mayUp_high {xs : List Nat} {z : Int} (h : z ≥ 64) : mayUp xs z = false := by
  unfold mayUp
  rw [decide_eq_true h, Bool.or_true, Bool.true_or]; rfl
theorem mayUp_full {xs : List Nat} {z : Int} (h : atZ xs z = 18446744073709551615) : mayUp xs z = false := by
  unfold mayUp
  rw [decide_eq_true h, Bool.or_true]; rfl
theorem mayUp_is {xs : List Nat} {z : Int} (h : mayUp xs z = true) : ∃ i : Nat, z = i ∧ i < 64 ∧ atN xs i ≠ 18446744073709551615 := by
  unfold mayUp at h
  simp only [Bool.not_eq_true', Bool.or_eq_false_iff, decide_eq_false_iff_not] at h
  obtain ⟨⟨h1, h2⟩, h3⟩ := h
  refine ⟨z.toNat, by omega, by omega, ?_⟩
  rwa [show z = ((z.toNat : Nat) : Int) by omega, atZ_nat] at h3
theorem upR_yes {xs : List Nat} {i : Nat} (h : mayUp xs (i : Int) = true) : upR xs (i : Int) = upL xs i := by
  unfold upR
  rw [h, if_pos rfl, Int.toNat_natCast]
theorem upR_no {xs : List Nat} {z : Int} (h : mayUp xs z = false) : upR xs z = xs := by
  unfold upR
  rw [h]; rfl
theorem upR_lt {xs : List Nat} {z : Int} (h : ∀ x ∈ xs, x < 18446744073709551616) : ∀ x ∈ upR xs z, x < 18446744073709551616 := by
  cases hb : mayUp xs z
  · rw [upR_no hb]; exact h
  · obtain ⟨i, rfl, h1, h2⟩ := mayUp_is hb
    rw [upR_yes hb]
    have := atN_lt (by omega) h i
    exact upL_lt h (by omega)
theorem upR_len {xs : List Nat} {z : Int} : (upR xs z).length ≤ max xs.length 64 := by
  cases hb : mayUp xs z
  · rw [upR_no hb]; omega
  · obtain ⟨i, rfl, h1, h2⟩ := mayUp_is hb
    rw [upR_yes hb, upL_length]
    omega

/-- At most, at each place. -/
def wiB (a b : List Nat) : Bool := (List.range a.length).all fun i => decide (atN a i ≤ atN b i)
theorem wiB_iff {a b : List Nat} : wiB a b = true ↔ ∀ i, atN a i ≤ atN b i := by
  unfold wiB
  simp only [List.all_eq_true, List.mem_range, decide_eq_true_eq]
  refine ⟨fun h i => ?_, fun h i _ => h i⟩
  by_cases hi : i < a.length
  · exact h i hi
  · rw [atN_out (by omega)]; exact Nat.zero_le _
theorem wiB_no {a b : List Nat} {i : Nat} (h : atN b i < atN a i) : wiB a b = false := by
  cases e : wiB a b
  · rfl
  · exact absurd (wiB_iff.1 e i) (by omega)
def cmpZ (a b : List Nat) : Int := if wiB a b then if wiB b a then 0 else -1 else if wiB b a then 1 else 2
theorem cmpZ_of {a b : List Nat} {p q : Bool} (hp : wiB a b = p) (hq : wiB b a = q) : cmpZ a b = if p then if q then 0 else -1 else if q then 1 else 2 := by
  unfold cmpZ
  rw [hp, hq]
theorem cmpZ_le {a b : List Nat} : cmpZ a b ≤ 0 ↔ wiB a b = true := by
  unfold cmpZ
  cases wiB a b <;> cases wiB b a <;> decide
theorem cmpZ_self (a : List Nat) : cmpZ a a = 0 := by
  have : wiB a a = true := wiB_iff.2 fun i => Nat.le_refl _
  unfold cmpZ
  rw [this]; rfl
theorem cmpZ_lt {a b : List Nat} (h : ∀ i, atN a i ≤ atN b i) {i : Nat} (hi : atN a i < atN b i) : cmpZ a b = -1 := by
  rw [cmpZ_of (wiB_iff.2 h) (wiB_no hi)]; rfl
theorem cmpZ_alike {a b : List Nat} (h : ∀ i, atN a i = atN b i) : cmpZ a b = 0 := by
  rw [cmpZ_of (wiB_iff.2 fun i => Nat.le_of_eq (h i)) (wiB_iff.2 fun i => Nat.le_of_eq (h i).symm)]; rfl

/-- Filled up to k. -/
def fillL (xs : List Nat) (k : Nat) : List Nat := xs.take k ++ List.replicate (xs.length - k) 0
theorem fillL_length (xs : List Nat) {k : Nat} (h : k ≤ xs.length) : (fillL xs k).length = xs.length := by simp [fillL]; omega
theorem fillL_zero (xs : List Nat) : fillL xs 0 = List.replicate xs.length 0 := by simp [fillL]
theorem fillL_all (xs : List Nat) : fillL xs xs.length = xs := by simp [fillL]
theorem fillL_set (xs : List Nat) {k : Nat} (h : k < xs.length) : (fillL xs k).set k xs[k] = fillL xs (k + 1) := by
  unfold fillL
  have hl : (xs.take k).length = k := by simp; omega
  rw [List.set_append, hl, if_neg (by omega), Nat.sub_self, show xs.length - k = (xs.length - (k + 1)) + 1 by omega, List.replicate_succ, List.set_cons_zero, List.take_succ_eq_append_getElem h, List.append_assoc]
  rfl

end Go.Proofs.Ytopnagjbdjicaaa
