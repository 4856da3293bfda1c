/-
  Small ones: what is so of each.
-/
import Derived.Test.YtnipoknmhcgplaaQaw
namespace Go.Proofs.Ytnipoknmhcgplaa
open Go.RowKit

theorem inN_iff {s t : Nat} (hs : s < 18446744073709551616) (ht : t < 18446744073709551616) : inN s t = true ↔ ∀ i, i < 64 → s.testBit i = true → t.testBit i = true := by
  have hb : ∀ i, i < 64 → (s &&& (18446744073709551615 - t)).testBit i = (s.testBit i && !t.testBit i) := fun i hi => by
    rw [Nat.testBit_and]
    congr 1
    have := Nat.testBit_two_pow_sub_succ (n := 64) (x := t) ht i
    rw [show (2 : Nat) ^ 64 - (t + 1) = 18446744073709551615 - t by omega] at this
    rw [this]
    simp [hi]
  unfold inN
  rw [decide_eq_true_eq]
  constructor
  · intro h i hi h1
    have := hb i hi
    rw [h, h1] at this
    simpa using this
  · intro h
    refine word_ext (and_lt hs) (by decide) fun i hi => ?_
    rw [hb i hi]
    cases h1 : s.testBit i with
    | false => simp
    | true => simp [h i hi h1]

theorem all_has {n p : Int} : hasN (allN n) p = (decide (0 ≤ p ∧ p < 64) && decide (p < n)) := by
  unfold hasN
  by_cases h : 0 ≤ p ∧ p < 64
  · rw [all_test]
    congr 1
    apply decide_eq_decide.2
    omega
  · simp [h]
theorem all_ne {n : Int} (h : 1 ≤ n) : allN n ≠ 0 := fun e => by
  have := all_test n 0
  rw [e] at this
  simp at this
  omega
theorem some_all {n : Int} (h : 1 ≤ n) : someN (allN n) n = true := by
  unfold someN
  rw [Bool.and_eq_true]
  exact ⟨decide_eq_true (all_ne h), (inN_iff (allN_lt n) (allN_lt n)).2 fun _ _ h => h⟩

theorem good_plain {n e : Int} : goodC (plainC n e) = (btw 1 n 16 && (decide (e = 1) || decide (e = 2))) := by
  by_cases h : btw 1 n 16 = true
  · have h1 := btw_true h
    have hs : someN (if n ≤ 64 then allN n else 0) n = true := by rw [if_pos (by omega)]; exact some_all h1.1
    unfold goodC plainC
    simp only [h, hs, List.all_cons, List.all_nil, List.length_singleton]
    rfl
  · rw [Bool.not_eq_true] at h
    unfold goodC plainC
    simp only [h, Bool.false_and]

/-- The rest: all but one. -/
def restN (n p : Int) : Nat := allN n &&& (18446744073709551615 - bitN p)
theorem rest_lt (n p : Int) : restN n p < 18446744073709551616 := and_lt (allN_lt n)
theorem rest_test {n p : Int} {i : Nat} (hi : i < 64) : (restN n p).testBit i = (decide ((i : Int) < n) && !decide (p = (i : Int))) := by
  unfold restN
  rw [Nat.testBit_and, all_test]
  have := Nat.testBit_two_pow_sub_succ (n := 64) (x := bitN p) (bitN_lt p) i
  rw [show (2 : Nat) ^ 64 - (bitN p + 1) = 18446744073709551615 - bitN p by have := bitN_lt p; omega] at this
  rw [this, bit_test]
  simp [hi]
theorem may_rest {n e p : Int} (hg : goodC (plainC n e) = true) : mayC (plainC n e) p (restN n p) = (btw 0 p (n - 1) && decide (1 < n)) := by
  have hn := good_n hg
  unfold mayC
  rw [hg, Bool.true_and]
  show (btw 0 p (n - 1) && someN (restN n p) n && !hasN (restN n p) p) = _
  by_cases h : btw 0 p (n - 1) = true
  · have hp := btw_true h
    rw [h]
    have hn' : 1 ≤ n ∧ n ≤ 16 := hn
    obtain ⟨k, rfl⟩ : ∃ k : Nat, p = (k : Int) := ⟨p.toNat, by omega⟩
    have hh : hasN (restN n (k : Int)) (k : Int) = false := by rw [hasN_nat (by omega), rest_test (by omega)]; simp
    have hi : inN (restN n (k : Int)) (allN n) = true := (inN_iff (rest_lt _ _) (allN_lt n)).2 fun i hi h1 => by
      rw [rest_test hi] at h1
      rw [all_test]
      simp at h1
      simp
      omega
    rw [hh]
    unfold someN
    rw [hi]
    simp only [Bool.true_and, Bool.and_true, Bool.not_false]
    apply decide_eq_decide.2
    constructor
    · intro h0
      by_cases h1 : 1 < n
      · exact h1
      · refine absurd (word_ext (rest_lt n k) (by decide) fun i hi => ?_) h0
        rw [rest_test hi]
        simp
        omega
    · intro h1 h0
      by_cases hk : k = 0
      · have := rest_test (n := n) (p := (k : Int)) (i := 1) (by decide)
        rw [h0] at this
        simp at this
        omega
      · have := rest_test (n := n) (p := (k : Int)) (i := 0) (by decide)
        rw [h0] at this
        simp at this
        omega
  · rw [Bool.not_eq_true] at h
    rw [h]
    rfl
theorem keep_plain {n e p : Int} (hg : goodC (plainC n e) = true) : hasN (keepC (plainC n e) 0) p = btw 0 p (n - 1) := by
  have hn := good_n hg
  have hn' : 1 ≤ n ∧ n ≤ 16 := hn
  have : keepC (plainC n e) 0 = allN n := by
    unfold keepC
    rw [hg]
    simp [plainC, btw]
    try omega
  rw [this, all_has]
  unfold btw
  by_cases h : 0 ≤ p ∧ p < n
  · rw [decide_eq_true (by omega : 0 ≤ p ∧ p < 64), decide_eq_true h.2, decide_eq_true h.1, decide_eq_true (by omega : p ≤ n - 1)]
  · by_cases h0 : 0 ≤ p
    · rw [decide_eq_false (by omega : ¬ p < n), decide_eq_false (by omega : ¬ p ≤ n - 1)]; simp
    · rw [decide_eq_false (by omega : ¬ (0 ≤ p ∧ p < 64)), decide_eq_false h0]; simp
theorem keep_bad {c : Cfg} {v p : Int} (hg : goodC c = false) : hasN (keepC c v) p = false := by
  have : keepC c v = 0 := by unfold keepC; rw [hg]; rfl
  rw [this]
  unfold hasN
  simp
theorem may_bad {c : Cfg} {p : Int} {to : Nat} (hg : goodC c = false) : mayC c p to = false := by
  unfold mayC; rw [hg]; rfl

/-- What is so of each way. -/
structure Way (n e p : Int) (g t m : Bool) : Prop where
  g : goodC (plainC n e) = g
  t : hasN (keepC (plainC n e) 0) p = t
  m : mayC (plainC n e) p (restN n p) = m
theorem way_bad {n e p : Int} (hg : goodC (plainC n e) = false) : Way n e p false false false := ⟨hg, keep_bad hg, may_bad hg⟩
theorem way_good {n e p : Int} (hg : goodC (plainC n e) = true) : Way n e p true (btw 0 p (n - 1)) (btw 0 p (n - 1) && decide (1 < n)) := ⟨hg, keep_plain hg, may_rest hg⟩

/-- All the ways. -/
theorem way_of {n g p : Int} : (n < 1 ∧ Hid (Way n g p false false false)) ∨ (1 ≤ n ∧ 16 < n ∧ Hid (Way n g p false false false)) ∨ (1 ≤ n ∧ n ≤ 16 ∧ (g == 1) = false ∧ (g == 2) = false ∧ Hid (Way n g p false false false)) ∨
    (1 ≤ n ∧ n ≤ 16 ∧ (g == 1) = true ∧ p < 0 ∧ Hid (Way n g p true false false)) ∨ (1 ≤ n ∧ n ≤ 16 ∧ (g == 1) = true ∧ 0 ≤ p ∧ n ≤ p ∧ Hid (Way n g p true false false)) ∨
    (1 ≤ n ∧ n ≤ 16 ∧ (g == 1) = true ∧ 0 ≤ p ∧ p < n ∧ n ≤ 1 ∧ Hid (Way n g p true true false)) ∨ (1 ≤ n ∧ n ≤ 16 ∧ (g == 1) = true ∧ 0 ≤ p ∧ p < n ∧ 1 < n ∧ Hid (Way n g p true true true)) ∨
    (1 ≤ n ∧ n ≤ 16 ∧ (g == 1) = false ∧ (g == 2) = true ∧ p < 0 ∧ Hid (Way n g p true false false)) ∨ (1 ≤ n ∧ n ≤ 16 ∧ (g == 1) = false ∧ (g == 2) = true ∧ 0 ≤ p ∧ n ≤ p ∧ Hid (Way n g p true false false)) ∨
    (1 ≤ n ∧ n ≤ 16 ∧ (g == 1) = false ∧ (g == 2) = true ∧ 0 ≤ p ∧ p < n ∧ n ≤ 1 ∧ Hid (Way n g p true true false)) ∨ (1 ≤ n ∧ n ≤ 16 ∧ (g == 1) = false ∧ (g == 2) = true ∧ 0 ≤ p ∧ p < n ∧ 1 < n ∧ Hid (Way n g p true true true)) := by
  have hb : goodC (plainC n g) = (btw 1 n 16 && (decide (g = 1) || decide (g = 2))) := good_plain
  have e1 : (g == 1) = decide (g = 1) := rfl
  have e2 : (g == 2) = decide (g = 2) := rfl
  rw [e1, e2]
  by_cases h1 : 1 ≤ n
  case neg => exact .inl ⟨by omega, Lib.hid (way_bad (by rw [hb]; unfold btw; simp [h1]))⟩
  by_cases h2 : n ≤ 16
  case neg => exact .inr (.inl ⟨h1, by omega, Lib.hid (way_bad (by rw [hb]; unfold btw; simp [h2]))⟩)
  have hbt : btw 1 n 16 = true := by unfold btw; simp [h1, h2]
  have key : goodC (plainC n g) = true → (p < 0 ∧ Hid (Way n g p true false false)) ∨ (0 ≤ p ∧ n ≤ p ∧ Hid (Way n g p true false false)) ∨ (0 ≤ p ∧ p < n ∧ n ≤ 1 ∧ Hid (Way n g p true true false)) ∨ (0 ≤ p ∧ p < n ∧ 1 < n ∧ Hid (Way n g p true true true)) := fun hg => by
    have w := way_good (p := p) hg
    by_cases h4 : 0 ≤ p
    case neg =>
      rw [show btw 0 p (n - 1) = false by unfold btw; simp [h4]] at w
      exact .inl ⟨by omega, Lib.hid w⟩
    by_cases h5 : p < n
    case neg =>
      rw [show btw 0 p (n - 1) = false by unfold btw; simp; omega] at w
      exact .inr (.inl ⟨h4, by omega, Lib.hid w⟩)
    rw [show btw 0 p (n - 1) = true by unfold btw; simp; omega] at w
    by_cases h6 : 1 < n
    · rw [decide_eq_true h6] at w
      exact .inr (.inr (.inr ⟨h4, h5, h6, Lib.hid w⟩))
    · rw [decide_eq_false h6] at w
      exact .inr (.inr (.inl ⟨h4, h5, by omega, Lib.hid w⟩))
  by_cases h3 : g = 1
  · rw [decide_eq_true h3]
    rcases key (by rw [hb, hbt, decide_eq_true h3]; rfl) with k | k | k | k
    · exact .inr (.inr (.inr (.inl ⟨h1, h2, rfl, k⟩)))
    · exact .inr (.inr (.inr (.inr (.inl ⟨h1, h2, rfl, k⟩))))
    · exact .inr (.inr (.inr (.inr (.inr (.inl ⟨h1, h2, rfl, k⟩)))))
    · exact .inr (.inr (.inr (.inr (.inr (.inr (.inl ⟨h1, h2, rfl, k⟩))))))
  rw [decide_eq_false h3]
  by_cases h3' : g = 2
  · rw [decide_eq_true h3']
    rcases key (by rw [hb, hbt, decide_eq_true h3']; simp) with k | k | k | k
    · exact .inr (.inr (.inr (.inr (.inr (.inr (.inr (.inl ⟨h1, h2, rfl, rfl, k⟩)))))))
    · exact .inr (.inr (.inr (.inr (.inr (.inr (.inr (.inr (.inl ⟨h1, h2, rfl, rfl, k⟩))))))))
    · exact .inr (.inr (.inr (.inr (.inr (.inr (.inr (.inr (.inr (.inl ⟨h1, h2, rfl, rfl, k⟩)))))))))
    · exact .inr (.inr (.inr (.inr (.inr (.inr (.inr (.inr (.inr (.inr ⟨h1, h2, rfl, rfl, k⟩)))))))))
  rw [decide_eq_false h3']
  exact .inr (.inr (.inl ⟨h1, h2, rfl, rfl, Lib.hid (way_bad (by rw [hb, decide_eq_false h3, decide_eq_false h3']; simp))⟩))

end Go.Proofs.Ytnipoknmhcgplaa
