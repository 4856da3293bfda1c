import Derived.Test.YtbmpeadoicjpnaaRows
import Derived.WalkKit
import Derived.WalkSpells
import Derived.WalkLawsBesides
import Derived.IntWalk
import Derived.Laws.BitsAllLaws
import Derived.Lib.TrailingZeros
import Derived.Lib.Hide

/-
  Sets of processes: bits, lists, texts.
-/
namespace Go.Proofs.Ytbmpeadoicjpnaa
open Go.RowKit

/-- A process as bits. -/
def bitN (p : Int) : Nat := if 0 ≤ p ∧ p < 64 then 2 ^ p.toNat else 0
/-- The set of a list. -/
def ofN (l : List Int) : Nat := l.foldl (fun a p => a ||| bitN p) 0
/-- Is one in it? -/
def hasN (s : Nat) (p : Int) : Bool := decide (0 ≤ p ∧ p < 64) && s.testBit p.toNat
/-- Those of a set below k. -/
def toN (s k : Nat) : List Nat := (List.range k).filter fun i => s.testBit i
def listN (s : Nat) : List Nat := toN s 64
def cntN (s : Nat) : Nat := (listN s).length

theorem pow_word {k : Nat} (h : k < 64) : 2 ^ k < 18446744073709551616 :=
  Nat.lt_of_lt_of_le (Nat.pow_lt_pow_right (by decide) h) (by decide)
theorem bitN_nat {k : Nat} (h : k < 64) : bitN (k : Int) = 2 ^ k := by
  unfold bitN; rw [if_pos (by omega)]; simp
theorem bitN_out {p : Int} (h : ¬ (0 ≤ p ∧ p < 64)) : bitN p = 0 := if_neg h
theorem bitN_lt (p : Int) : bitN p < 18446744073709551616 := by
  unfold bitN
  by_cases h : 0 ≤ p ∧ p < 64
  · rw [if_pos h]; exact pow_word (by omega)
  · rw [if_neg h]; decide
theorem or_lt {a b : Nat} (ha : a < 18446744073709551616) (hb : b < 18446744073709551616) : a ||| b < 18446744073709551616 := Nat.or_lt_two_pow (n := 64) ha hb
theorem and_lt {a b : Nat} (ha : a < 18446744073709551616) : a &&& b < 18446744073709551616 := Nat.lt_of_le_of_lt Nat.and_le_left ha

theorem fold_lt : ∀ (l : List Int) (a : Nat), a < 18446744073709551616 → l.foldl (fun a p => a ||| bitN p) a < 18446744073709551616
  | [], _, h => h
  | p :: r, _, h => fold_lt r _ (or_lt h (bitN_lt p))
theorem ofN_lt (l : List Int) : ofN l < 18446744073709551616 := fold_lt l 0 (by decide)
theorem ofN_snoc (l : List Int) (p : Int) : ofN (l ++ [p]) = ofN l ||| bitN p := by unfold ofN; rw [List.foldl_append]; rfl
theorem ofN_take {l : List Int} {k : Nat} (h : k < l.length) : ofN (l.take (k + 1)) = ofN (l.take k) ||| bitN l[k] := by
  rw [List.take_succ_eq_append_getElem h, ofN_snoc]

theorem bit_test (p : Int) (i : Nat) : (bitN p).testBit i = decide (p = (i : Int) ∧ i < 64) := by
  unfold bitN
  by_cases h : 0 ≤ p ∧ p < 64
  · rw [if_pos h, Nat.testBit_two_pow]
    by_cases h1 : p.toNat = i
    · simp [h1]; omega
    · simp [h1]; omega
  · rw [if_neg h]
    simp; omega
theorem fold_test : ∀ (l : List Int) (a i : Nat), (l.foldl (fun a p => a ||| bitN p) a).testBit i = (a.testBit i || decide ((i : Int) ∈ l ∧ i < 64))
  | [], a, i => by simp
  | p :: r, a, i => by
    rw [List.foldl_cons, fold_test r, Nat.testBit_or, bit_test, Bool.or_assoc]
    congr 1
    by_cases h : i < 64
    · by_cases h1 : p = (i : Int)
      · simp [h, h1]
      · simp [h, h1]; omega
    · simp [h]
theorem of_test (l : List Int) (i : Nat) : (ofN l).testBit i = decide ((i : Int) ∈ l ∧ i < 64) := by
  unfold ofN; rw [fold_test]; simp

theorem word_ext {a b : Nat} (ha : a < 18446744073709551616) (hb : b < 18446744073709551616) (h : ∀ i, i < 64 → a.testBit i = b.testBit i) : a = b := by
  refine Nat.eq_of_testBit_eq fun i => ?_
  by_cases hi : i < 64
  · exact h i hi
  · have hp : (2 : Nat) ^ 64 ≤ 2 ^ i := Nat.pow_le_pow_right (by decide) (by omega)
    rw [Nat.testBit_lt_two_pow (Nat.lt_of_lt_of_le ha hp), Nat.testBit_lt_two_pow (Nat.lt_of_lt_of_le hb hp)]

theorem mem_toN {s k i : Nat} : i ∈ toN s k ↔ i < k ∧ s.testBit i = true := by simp [toN]
theorem toN_lt {s k : Nat} : ∀ x ∈ toN s k, x < k := fun _ h => (mem_toN.1 h).1
theorem toN_zero (s : Nat) : toN s 0 = [] := rfl
theorem toN_succ (s k : Nat) : toN s (k + 1) = if s.testBit k then toN s k ++ [k] else toN s k := by
  unfold toN
  rw [List.range_succ, List.filter_append]
  by_cases h : s.testBit k = true
  · simp [h]
  · simp [h]
theorem toN_len (s k : Nat) : (toN s k).length ≤ k := by
  unfold toN
  have := List.length_filter_le (fun i => s.testBit i) (List.range k)
  simpa using this
/-- Nothing at or over k: all are below. -/
theorem toN_more {s k : Nat} : ∀ (d : Nat), s >>> k = 0 → toN s (k + d) = toN s k
  | 0, _ => rfl
  | d + 1, h => by
    have hb : s.testBit (k + d) = false := by
      have := Nat.testBit_shiftRight (i := k) (j := d) s
      rw [h] at this
      simpa using this.symm
    rw [Nat.add_succ, toN_succ, hb, if_neg (by decide), toN_more d h]
theorem toN_all {s k : Nat} (hk : k ≤ 64) (h : s >>> k = 0) : toN s k = listN s := by
  have := toN_more (64 - k) h
  rw [show k + (64 - k) = 64 by omega] at this
  exact this.symm
theorem shift_end {s : Nat} (h : s < 18446744073709551616) : s >>> 64 = 0 := by
  rw [Nat.shiftRight_eq_div_pow]; exact Nat.div_eq_of_lt h

theorem of_list {s : Nat} (h : s < 18446744073709551616) : ofN ((listN s).map fun (x : Nat) => (x : Int)) = s := by
  refine word_ext (ofN_lt _) h fun i hi => ?_
  rw [of_test]
  by_cases hb : s.testBit i = true
  · rw [hb]
    simp only [decide_eq_true_eq]
    exact ⟨List.mem_map.2 ⟨i, mem_toN.2 ⟨hi, hb⟩, rfl⟩, hi⟩
  · rw [Bool.not_eq_true] at hb
    rw [hb]
    simp only [decide_eq_false_iff_not, not_and]
    intro hm
    obtain ⟨x, hx, e⟩ := List.mem_map.1 hm
    have : x = i := by omega
    subst this
    rw [(mem_toN.1 hx).2] at hb
    cases hb

theorem and_bit (s : Nat) (p : Int) : s &&& bitN p = if hasN s p then bitN p else 0 := by
  refine Nat.eq_of_testBit_eq fun i => ?_
  rw [Nat.testBit_and, bit_test]
  unfold hasN
  by_cases h : p = (i : Int) ∧ i < 64
  · obtain ⟨rfl, hi⟩ := h
    have h1 : ((i : Nat) : Int).toNat = i := rfl
    rw [h1]
    cases hb : s.testBit i
    · simp
    · rw [if_pos (by simp; omega), bit_test]; simp [hi]
  · rw [decide_eq_false h, Bool.and_false]
    split
    · rw [bit_test, decide_eq_false h]
    · simp
theorem and_bit_ne (s : Nat) (p : Int) : (s &&& bitN p ≠ 0) = (hasN s p = true) := by
  rw [and_bit]
  by_cases h : hasN s p = true
  · rw [if_pos h]
    have : 0 ≤ p ∧ p < 64 := by unfold hasN at h; simp at h; exact h.1
    unfold bitN
    rw [if_pos this]
    have : 0 < 2 ^ p.toNat := Nat.pow_pos (by decide)
    simp [h]
  · rw [if_neg h]
    simp [h]
theorem hasN_nat {s k : Nat} (h : k < 64) : hasN s (k : Int) = s.testBit k := by
  unfold hasN
  have : ((k : Nat) : Int).toNat = k := rfl
  rw [this, decide_eq_true (by omega), Bool.true_and]

/-! Texts. -/
def digN (n : Nat) : List UInt8 := if n < 10 then [UInt8.ofNat (48 + n)] else [UInt8.ofNat (48 + n / 10), UInt8.ofNat (48 + n % 10)]
/-- Numbers, commas between. -/
def joinN (l : List Nat) : List UInt8 := l.foldl (fun t k => if t = [] then digN k else t ++ 44 :: digN k) []
def showN (s : Nat) : List UInt8 := 123 :: (joinN (listN s) ++ [125])

theorem digN_ne (n : Nat) : digN n ≠ [] := by unfold digN; split <;> simp
theorem digN_len (n : Nat) : (digN n).length ≤ 2 := by unfold digN; split <;> simp
theorem join_nil : joinN [] = [] := rfl
theorem join_snoc' (l : List Nat) (k : Nat) : joinN (l ++ [k]) = if joinN l = [] then digN k else joinN l ++ 44 :: digN k := by
  unfold joinN; rw [List.foldl_append]; rfl
theorem snoc_cases {α : Type} (l : List α) : l = [] ∨ ∃ r k, l = r ++ [k] := by
  by_cases h : l = []
  · exact Or.inl h
  · exact Or.inr ⟨l.dropLast, l.getLast h, (List.dropLast_concat_getLast h).symm⟩
theorem join_ne {l : List Nat} (h : l ≠ []) : joinN l ≠ [] := by
  rcases snoc_cases l with rfl | ⟨r, k, rfl⟩
  · exact absurd rfl h
  · rw [join_snoc']
    split
    · exact digN_ne k
    · simp
theorem join_one (k : Nat) : joinN [k] = digN k := rfl
theorem join_snoc {l : List Nat} (h : l ≠ []) (k : Nat) : joinN (l ++ [k]) = joinN l ++ 44 :: digN k := by
  rw [join_snoc', if_neg (join_ne h)]
theorem snoc_ind {α : Type} {C : List α → Prop} (h0 : C []) (h1 : ∀ l k, C l → C (l ++ [k])) : ∀ l, C l := by
  intro l
  have key : ∀ (n : Nat) (l : List α), l.length = n → C l := by
    intro n
    induction n with
    | zero => intro l hl; rw [List.length_eq_zero_iff.1 hl]; exact h0
    | succ n ih =>
      intro l hl
      rcases snoc_cases l with rfl | ⟨r, k, rfl⟩
      · exact h0
      · exact h1 r k (ih r (by simp at hl; omega))
  exact key _ l rfl
theorem join_len (l : List Nat) : (joinN l).length ≤ 3 * l.length := by
  refine snoc_ind (C := fun l => (joinN l).length ≤ 3 * l.length) (by simp [join_nil]) (fun l k ih => ?_) l
  have := digN_len k
  rw [join_snoc']
  split
  · simp; omega
  · simp; omega

/-! What is read: pieces between commas. -/
def cutN : List UInt8 → List (List UInt8)
  | [] => [[]]
  | c :: r => if c = 44 then [] :: cutN r else
    match cutN r with
    | [] => [[c]]
    | p :: q => (c :: p) :: q
theorem cutN_ne : ∀ l, cutN l ≠ []
  | [] => by simp [cutN]
  | c :: r => by
    unfold cutN
    split
    · simp
    · split <;> simp
theorem cut_at {c : UInt8} {r : List UInt8} (h : c = 44) : cutN (c :: r) = [] :: cutN r := by rw [cutN, if_pos h]
def consN (c : UInt8) : List (List UInt8) → List (List UInt8)
  | [] => [[c]]
  | p :: q => (c :: p) :: q
theorem cut_in {c : UInt8} {r : List UInt8} (h : ¬ c = 44) : cutN (c :: r) = consN c (cutN r) := by rw [cutN, if_neg h]; cases cutN r <;> rfl
theorem cut_comma : ∀ (a b : List UInt8), cutN (a ++ 44 :: b) = cutN a ++ cutN b
  | [], b => by simp [cutN]
  | c :: r, b => by
    have ih := cut_comma r b
    rw [List.cons_append]
    by_cases hc : c = 44
    · rw [cut_at hc, cut_at hc, ih]; rfl
    · rw [cut_in hc, cut_in hc, ih]
      cases hr : cutN r with
      | nil => exact absurd hr (cutN_ne r)
      | cons p q => rfl
theorem cut_free : ∀ (a : List UInt8), (∀ c ∈ a, c ≠ 44) → cutN a = [a]
  | [], _ => rfl
  | c :: r, h => by
    rw [cut_in (h c (by simp)), cut_free r fun x hx => h x (List.mem_cons_of_mem _ hx)]; rfl
theorem dig_free {k : Nat} (h : k < 64) : ∀ c ∈ digN k, 48 ≤ c.toNat ∧ c.toNat ≤ 57 := by
  have key : ((List.range 64).all fun k => (digN k).all fun c => decide (48 ≤ c.toNat ∧ c.toNat ≤ 57)) = true := by decide +kernel
  intro c hc
  have h1 := List.all_eq_true.1 key k (by simpa using h)
  exact of_decide_eq_true (List.all_eq_true.1 h1 c hc)
theorem cut_join (l : List Nat) (hl : ∀ x ∈ l, x < 64) : cutN (joinN l) = if l = [] then [[]] else l.map digN := by
  revert hl
  refine snoc_ind (C := fun l => (∀ x ∈ l, x < 64) → cutN (joinN l) = if l = [] then [[]] else l.map digN) (fun _ => rfl) (fun l k ih h => ?_) l
  have hk : k < 64 := h k (by simp)
  have hfree : cutN (digN k) = [digN k] := cut_free _ fun c hc e => by have := (dig_free hk c hc).2; have := (dig_free hk c hc).1; subst e; revert this; decide
  have ih := ih fun x hx => h x (by simp [hx])
  rw [if_neg (by simp)]
  by_cases h0 : l = []
  · subst h0
    rw [List.nil_append, join_one, hfree]; rfl
  · rw [join_snoc h0, cut_comma, ih, if_neg h0, hfree, List.map_append]; rfl

end Go.Proofs.Ytbmpeadoicjpnaa
