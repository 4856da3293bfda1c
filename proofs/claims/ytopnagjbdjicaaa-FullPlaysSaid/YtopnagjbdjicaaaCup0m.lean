import Derived.Test.YtopnagjbdjicaaaCmatm
import Derived.Test.YtopnagjbdjicaaaDlistm

/-
  One more at each of a set: counted one after another.
-/
namespace Go.Proofs.Ytopnagjbdjicaaa
open Go.RowKit

def upsL (xs js : List Nat) : List Nat := js.foldl (fun r (j : Nat) => upR r (j : Int)) xs
theorem upsL_nil (xs : List Nat) : upsL xs [] = xs := rfl
theorem upsL_more (xs js : List Nat) (j : Nat) : upsL xs (js ++ [j]) = upR (upsL xs js) (j : Int) := by simp [upsL]
theorem upsL_take {xs js : List Nat} {k : Nat} (h : k < js.length) : upsL xs (js.take (k + 1)) = upR (upsL xs (js.take k)) ((js[k] : Nat) : Int) := by
  rw [List.take_succ_eq_append_getElem h, upsL_more]
theorem upsL_lt {xs js : List Nat} (h : ∀ x ∈ xs, x < QM) : ∀ x ∈ upsL xs js, x < QM := by
  unfold upsL
  induction js generalizing xs with
  | nil => exact h
  | cons j js ih => exact ih (upR_lt h)
theorem upR_same {xs : List Nat} {j : Nat} (h : j < xs.length) : (upR xs (j : Int)).length = xs.length := by
  cases hb : mayUp xs (j : Int)
  · rw [upR_no hb]
  · rw [upR_yes hb, upL_length]; omega
theorem upsL_len {xs js : List Nat} (h : ∀ j ∈ js, j < xs.length) : (upsL xs js).length = xs.length := by
  unfold upsL
  induction js generalizing xs with
  | nil => rfl
  | cons j js ih =>
    have e := upR_same (h j (by simp))
    exact (ih (fun i hi => by rw [e]; exact h i (by simp [hi]))).trans e

theorem ups_step {xs : List Nat} {to k : Nat} (hx : ∀ x ∈ xs, x < QM) (hk : k < xs.length) (h64 : k < 64) (hb : to.testBit k = true) : upR (incL xs to k) (k : Int) = incL xs to (k + 1) := by
  have e := incL_same xs to k
  have hq : atN xs k < 18446744073709551616 := atN_lt (by decide) hx k
  by_cases h : atN xs k = 18446744073709551615
  · rw [upR_no (mayUp_full (by rw [atZ_nat, e, h]))]
    exact incL_no fun h' => by omega
  · rw [upR_yes (mayUp_yes h64 (by rw [e]; exact h))]
    refine row_ext (by rw [upL_length, incL_length, incL_length]; omega) fun i hi => ?_
    rw [upL_length, incL_length] at hi
    have hi2 : i < xs.length := by omega
    rw [upL_at, incL_at, incL_at, if_pos hi2, if_pos hi2]
    by_cases e2 : i = k
    · subst e2
      have c1 : ¬ (i < i ∧ hasN to (i : Int) = true ∧ atN xs i < 18446744073709551615) := by omega
      have c2 : i < i + 1 ∧ hasN to (i : Int) = true ∧ atN xs i < 18446744073709551615 := ⟨by omega, by rw [hasN_nat h64]; exact hb, by omega⟩
      rw [if_neg c1, if_pos c2, if_pos rfl]
    · by_cases h2 : i < k ∧ hasN to (i : Int) = true ∧ atN xs i < 18446744073709551615
      · have h3 : i < k + 1 ∧ hasN to (i : Int) = true ∧ atN xs i < 18446744073709551615 := ⟨by omega, h2.2⟩
        rw [if_pos h2, if_pos h3, if_neg e2]
      · have h3 : ¬ (i < k + 1 ∧ hasN to (i : Int) = true ∧ atN xs i < 18446744073709551615) := fun h' => h2 ⟨by omega, h'.2⟩
        rw [if_neg h2, if_neg h3, if_neg e2]
theorem ups_to {xs : List Nat} {to s k : Nat} (hx : ∀ x ∈ xs, x < QM) (hl : xs.length ≤ 64) (hs : ∀ i, i < xs.length → s.testBit i = to.testBit i) (hk : k ≤ xs.length) : upsL xs (toN s k) = incL xs to k := by
  induction k with
  | zero => rw [toN_zero, upsL_nil, incL_zero]
  | succ k ih =>
    have i1 := ih (by omega)
    have e := hs k (by omega)
    cases hb : s.testBit k
    · rw [toN_succ, if_neg (by rw [hb]; decide), i1]
      exact incL_no fun h => by
        have := h.1
        rw [hasN_nat (by omega), ← e, hb] at this
        cases this
    · rw [toN_succ, if_pos hb, upsL_more, i1]
      exact ups_step hx (by omega) (by omega) (by rw [← e, hb])
theorem toN_stop {s n : Nat} (h : ∀ i, n ≤ i → s.testBit i = false) (d : Nat) : toN s (n + d) = toN s n := by
  induction d with
  | zero => rfl
  | succ d ih => rw [← Nat.add_assoc, toN_succ, if_neg (by rw [h _ (by omega)]; decide), ih]
/-- All of a set that are below n, one after another. -/
theorem ups_set {xs : List Nat} {to n : Nat} (hx : ∀ x ∈ xs, x < QM) (hl : xs.length = n) (hn : n ≤ 64) : upsL xs (listN (to &&& allN (n : Int))) = incL xs to n := by
  have hb : ∀ i, (to &&& allN (n : Int)).testBit i = (to.testBit i && decide (i < n)) := fun i => by
    rw [Nat.testBit_and, all_test]
    congr 1
    exact decide_eq_decide.2 (by omega)
  have e : listN (to &&& allN (n : Int)) = toN (to &&& allN (n : Int)) n := by
    have := toN_stop (s := to &&& allN (n : Int)) (n := n) (fun i hi => by rw [hb, decide_eq_false (by omega), Bool.and_false]) (64 - n)
    rw [show n + (64 - n) = 64 by omega] at this
    exact this
  rw [e]
  exact ups_to hx (by omega) (fun i hi => by rw [hb, decide_eq_true (by omega), Bool.and_true]) (by omega)
theorem list_in {to n : Nat} : ∀ j ∈ listN (to &&& allN (n : Int)), j < n := fun j hj => by
  have := (mem_toN.1 hj).2
  rw [Nat.testBit_and, all_test] at this
  simp at this
  omega

end Go.Proofs.Ytopnagjbdjicaaa
