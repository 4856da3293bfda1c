/-
  Texts of this claim, put together.
-/
import Derived.Test.YtopnagjbdjicaaaRows
import Derived.WalkKit
import Derived.WalkSpells
import Derived.WalkLawsBesides
import Derived.IntWalk
import Derived.Laws.BitsAllLaws
import Derived.Lib.TrailingZeros
import Derived.Lib.Hide

/-
  Sets of processes: bits, lists, texts.
-/
namespace Go.Proofs.Ytopnagjbdjicaaa
open Go.RowKit

/-- A process as bits. -/
def bitN (p : Int) : Nat := if 0 ≤ p ∧ p < 64 then 2 ^ p.toNat else 0
/-- The set of a list. -/
def ofN (l : List Int) : Nat := l.foldl (fun a p => a ||| bitN p) 0
/-- Is one in it? -/
def hasN (s : Nat) (p : Int) : Bool := decide (0 ≤ p ∧ p < 64) && s.testBit p.toNat
/-- Those of a set below k. -/
def toN (s k : Nat) : List Nat := (List.range k).filter fun i => s.testBit i
def listN (s : Nat) : List Nat := toN s 64
def cntN (s : Nat) : Nat := (listN s).length

theorem pow_word {k : Nat} (h : k < 64) : 2 ^ k < 18446744073709551616 :=
  Nat.lt_of_lt_of_le (Nat.pow_lt_pow_right (by decide) h) (by decide)
theorem bitN_nat {k : Nat} (h : k < 64) : bitN (k : Int) = 2 ^ k := by
  unfold bitN; rw [if_pos (by omega)]; simp
theorem bitN_out {p : Int} (h : ¬ (0 ≤ p ∧ p < 64)) : bitN p = 0 := if_neg h
theorem bitN_lt (p : Int) : bitN p < 18446744073709551616 := by
  unfold bitN
  by_cases h : 0 ≤ p ∧ p < 64
  · rw [if_pos h]; exact pow_word (by omega)
  · rw [if_neg h]; decide
theorem or_lt {a b : Nat} (ha : a < 18446744073709551616) (hb : b < 18446744073709551616) : a ||| b < 18446744073709551616 := Nat.or_lt_two_pow (n := 64) ha hb
theorem and_lt {a b : Nat} (ha : a < 18446744073709551616) : a &&& b < 18446744073709551616 := Nat.lt_of_le_of_lt Nat.and_le_left ha

theorem fold_lt : ∀ (l : List Int) (a : Nat), a < 18446744073709551616 → l.foldl (fun a p => a ||| bitN p) a < 18446744073709551616
  | [], _, h => h
  | p :: r, _, h => fold_lt r _ (or_lt h (bitN_lt p))
theorem ofN_lt (l : List Int) : ofN l < 18446744073709551616 := fold_lt l 0 (by decide)
theorem ofN_snoc (l : List Int) (p : Int) : ofN (l ++ [p]) = ofN l ||| bitN p := by unfold ofN; rw [List.foldl_append]; rfl
theorem ofN_take {l : List Int} {k : Nat} (h : k < l.length) : ofN (l.take (k + 1)) = ofN (l.take k) ||| bitN l[k] := by
  rw [List.take_succ_eq_append_getElem h, ofN_snoc]

theorem bit_test (p : Int) (i : Nat) : (bitN p).testBit i = decide (p = (i : Int) ∧ i < 64) := by
  unfold bitN
  by_cases h : 0 ≤ p ∧ p < 64
  · rw [if_pos h, Nat.testBit_two_pow]
    by_cases h1 : p.toNat = i
    · simp [h1]; omega
    · simp [h1]; omega
  · rw [if_neg h]
    simp; omega
theorem fold_test : ∀ (l : List Int) (a i : Nat), (l.foldl (fun a p => a ||| bitN p) a).testBit i = (a.testBit i || decide ((i : Int) ∈ l ∧ i < 64))
  | [], a, i => by simp
  | p :: r, a, i => by
    rw [List.foldl_cons, fold_test r, Nat.testBit_or, bit_test, Bool.or_assoc]
    congr 1
    by_cases h : i < 64
    · by_cases h1 : p = (i : Int)
      · simp [h, h1]
      · simp [h, h1]; omega
    · simp [h]
theorem of_test (l : List Int) (i : Nat) : (ofN l).testBit i = decide ((i : Int) ∈ l ∧ i < 64) := by
  unfold ofN; rw [fold_test]; simp

theorem word_ext {a b : Nat} (ha : a < 18446744073709551616) (hb : b < 18446744073709551616) (h : ∀ i, i < 64 → a.testBit i = b.testBit i) : a = b := by
  refine Nat.eq_of_testBit_eq fun i => ?_
  by_cases hi : i < 64
  · exact h i hi
  · have hp : (2 : Nat) ^ 64 ≤ 2 ^ i := Nat.pow_le_pow_right (by decide) (by omega)
    rw [Nat.testBit_lt_two_pow (Nat.lt_of_lt_of_le ha hp), Nat.testBit_lt_two_pow (Nat.lt_of_lt_of_le hb hp)]

theorem mem_toN {s k i : Nat} : i ∈ toN s k ↔ i < k ∧ s.testBit i = true := by simp [toN]
theorem toN_lt {s k : Nat} : ∀ x ∈ toN s k, x < k := fun _ h => (mem_toN.1 h).1
theorem toN_zero (s : Nat) : toN s 0 = [] := rfl
theorem toN_succ (s k : Nat) : toN s (k + 1) = if s.testBit k then toN s k ++ [k] else toN s k := by
  unfold toN
  rw [List.range_succ, List.filter_append]
  by_cases h : s.testBit k = true
  · simp [h]
  · simp [h]
theorem toN_len (s k : Nat) : (toN s k).length ≤ k := by
  unfold toN
  have := List.length_filter_le (fun i => s.testBit i) (List.range k)
  simpa using this
/-- Nothing at or over k: all are below. -/
theorem toN_more {s k : Nat} : ∀ (d : Nat), s >>> k = 0 → toN s (k + d) = toN s k
  | 0, _ => rfl
  | d + 1, h => by
    have hb : s.testBit (k + d) = false := by
      have := Nat.testBit_shiftRight (i := k) (j := d) s
      rw [h] at this
      simpa using this.symm
    rw [Nat.add_succ, toN_succ, hb, if_neg (by decide), toN_more d h]
theorem toN_all {s k : Nat} (hk : k ≤ 64) (h : s >>> k = 0) : toN s k = listN s := by
  have := toN_more (64 - k) h
  rw [show k + (64 - k) = 64 by omega] at this
  exact this.symm
theorem shift_end {s : Nat} (h : s < 18446744073709551616) : s >>> 64 = 0 := by
  rw [Nat.shiftRight_eq_div_pow]; exact Nat.div_eq_of_lt h

theorem of_list {s : Nat} (h : s < 18446744073709551616) : ofN ((listN s).map fun (x : Nat) => (x : Int)) = s := by
  refine word_ext (ofN_lt _) h fun i hi => ?_
  rw [of_test]
  by_cases hb : s.testBit i = true
  · rw [hb]
    simp only [decide_eq_true_eq]
    exact ⟨List.mem_map.2 ⟨i, mem_toN.2 ⟨hi, hb⟩, rfl⟩, hi⟩
  · rw [Bool.not_eq_true] at hb
    rw [hb]
    simp only [decide_eq_false_iff_not, not_and]
    intro hm
    obtain ⟨x, hx, e⟩ := List.mem_map.1 hm
    have : x = i := by omega
    subst this
    rw [(mem_toN.1 hx).2] at hb
    cases hb

theorem and_bit (s : Nat) (p : Int) : s &&& bitN p = if hasN s p then bitN p else 0 := by
  refine Nat.eq_of_testBit_eq fun i => ?_
  rw [Nat.testBit_and, bit_test]
  unfold hasN
  by_cases h : p = (i : Int) ∧ i < 64
  · obtain ⟨rfl, hi⟩ := h
    have h1 : ((i : Nat) : Int).toNat = i := rfl
    rw [h1]
    cases hb : s.testBit i
    · simp
    · rw [if_pos (by simp; omega), bit_test]; simp [hi]
  · rw [decide_eq_false h, Bool.and_false]
    split
    · rw [bit_test, decide_eq_false h]
    · simp
theorem and_bit_ne (s : Nat) (p : Int) : (s &&& bitN p ≠ 0) = (hasN s p = true) := by
  rw [and_bit]
  by_cases h : hasN s p = true
  · rw [if_pos h]
    have : 0 ≤ p ∧ p < 64 := by unfold hasN at h; simp at h; exact h.1
    unfold bitN
    rw [if_pos this]
    have : 0 < 2 ^ p.toNat := Nat.pow_pos (by decide)
    simp [h]
  · rw [if_neg h]
    simp [h]
theorem hasN_nat {s k : Nat} (h : k < 64) : hasN s (k : Int) = s.testBit k := by
  unfold hasN
  have : ((k : Nat) : Int).toNat = k := rfl
  rw [this, decide_eq_true (by omega), Bool.true_and]

/-! Texts. -/
def digN (n : Nat) : List UInt8 := if n < 10 then [UInt8.ofNat (48 + n)] else [UInt8.ofNat (48 + n / 10), UInt8.ofNat (48 + n % 10)]
/-- Numbers, commas between. -/
def joinN (l : List Nat) : List UInt8 := l.foldl (fun t k => if t = [] then digN k else t ++ 44 :: digN k) []
def showN (s : Nat) : List UInt8 := 123 :: (joinN (listN s) ++ [125])

theorem digN_ne (n : Nat) : digN n ≠ [] := by unfold digN; split <;> simp
theorem digN_len (n : Nat) : (digN n).length ≤ 2 := by unfold digN; split <;> simp
theorem join_nil : joinN [] = [] := rfl
theorem join_snoc' (l : List Nat) (k : Nat) : joinN (l ++ [k]) = if joinN l = [] then digN k else joinN l ++ 44 :: digN k := by
  unfold joinN; rw [List.foldl_append]; rfl
theorem snoc_cases {α : Type} (l : List α) : l = [] ∨ ∃ r k, l = r ++ [k] := by
  by_cases h : l = []
  · exact Or.inl h
  · exact Or.inr ⟨l.dropLast, l.getLast h, (List.dropLast_concat_getLast h).symm⟩
theorem join_ne {l : List Nat} (h : l ≠ []) : joinN l ≠ [] := by
  rcases snoc_cases l with rfl | ⟨r, k, rfl⟩
  · exact absurd rfl h
  · rw [join_snoc']
    split
    · exact digN_ne k
    · simp
theorem join_one (k : Nat) : joinN [k] = digN k := rfl
theorem join_snoc {l : List Nat} (h : l ≠ []) (k : Nat) : joinN (l ++ [k]) = joinN l ++ 44 :: digN k := by
  rw [join_snoc', if_neg (join_ne h)]
theorem snoc_ind {α : Type} {C : List α → Prop} (h0 : C []) (h1 : ∀ l k, C l → C (l ++ [k])) : ∀ l, C l := by
  intro l
  have key : ∀ (n : Nat) (l : List α), l.length = n → C l := by
    intro n
    induction n with
    | zero => intro l hl; rw [List.length_eq_zero_iff.1 hl]; exact h0
    | succ n ih =>
      intro l hl
      rcases snoc_cases l with rfl | ⟨r, k, rfl⟩
      · exact h0
      · exact h1 r k (ih r (by simp at hl; omega))
  exact key _ l rfl
theorem join_len (l : List Nat) : (joinN l).length ≤ 3 * l.length := by
  refine snoc_ind (C := fun l => (joinN l).length ≤ 3 * l.length) (by simp [join_nil]) (fun l k ih => ?_) l
  have := digN_len k
  rw [join_snoc']
  split
  · simp; omega
  · simp; omega

/-! What is read: pieces between commas. -/
def cutN : List UInt8 → List (List UInt8)
  | [] => [[]]
  | c :: r => if c = 44 then [] :: cutN r else
    match cutN r with
    | [] => [[c]]
    | p :: q => (c :: p) :: q
theorem cutN_ne : ∀ l, cutN l ≠ []
  | [] => by simp [cutN]
  | c :: r => by
    unfold cutN
    split
    · simp
    · split <;> simp
theorem cut_at {c : UInt8} {r : List UInt8} (h : c = 44) : cutN (c :: r) = [] :: cutN r := by rw [cutN, if_pos h]
def consN (c : UInt8) : List (List UInt8) → List (List UInt8)
  | [] => [[c]]
  | p :: q => (c :: p) :: q
theorem cut_in {c : UInt8} {r : List UInt8} (h : ¬ c = 44) : cutN (c :: r) = consN c (cutN r) := by rw [cutN, if_neg h]; cases cutN r <;> rfl
theorem cut_comma : ∀ (a b : List UInt8), cutN (a ++ 44 :: b) = cutN a ++ cutN b
  | [], b => by simp [cutN]
  | c :: r, b => by
    have ih := cut_comma r b
    rw [List.cons_append]
    by_cases hc : c = 44
    · rw [cut_at hc, cut_at hc, ih]; rfl
    · rw [cut_in hc, cut_in hc, ih]
      cases hr : cutN r with
      | nil => exact absurd hr (cutN_ne r)
      | cons p q => rfl
theorem cut_free : ∀ (a : List UInt8), (∀ c ∈ a, c ≠ 44) → cutN a = [a]
  | [], _ => rfl
  | c :: r, h => by
    rw [cut_in (h c (by simp)), cut_free r fun x hx => h x (List.mem_cons_of_mem _ hx)]; rfl
theorem dig_free {k : Nat} (h : k < 64) : ∀ c ∈ digN k, 48 ≤ c.toNat ∧ c.toNat ≤ 57 := by
  have key : ((List.range 64).all fun k => (digN k).all fun c => decide (48 ≤ c.toNat ∧ c.toNat ≤ 57)) = true := by decide +kernel
  intro c hc
  have h1 := List.all_eq_true.1 key k (by simpa using h)
  exact of_decide_eq_true (List.all_eq_true.1 h1 c hc)
theorem cut_join (l : List Nat) (hl : ∀ x ∈ l, x < 64) : cutN (joinN l) = if l = [] then [[]] else l.map digN := by
  revert hl
  refine snoc_ind (C := fun l => (∀ x ∈ l, x < 64) → cutN (joinN l) = if l = [] then [[]] else l.map digN) (fun _ => rfl) (fun l k ih h => ?_) l
  have hk : k < 64 := h k (by simp)
  have hfree : cutN (digN k) = [digN k] := cut_free _ fun c hc e => by have := (dig_free hk c hc).2; have := (dig_free hk c hc).1; subst e; revert this; decide
  have ih := ih fun x hx => h x (by simp [hx])
  rw [if_neg (by simp)]
  by_cases h0 : l = []
  · subst h0
    rw [List.nil_append, join_one, hfree]; rfl
  · rw [join_snoc h0, cut_comma, ih, if_neg h0, hfree, List.map_append]; rfl

end Go.Proofs.Ytopnagjbdjicaaa

/-
  How many bits, as the library counts them.
-/
namespace Go.Proofs.Ytopnagjbdjicaaa

def repN (m : Nat) : Nat → Nat
  | 0 => 0
  | n + 1 => m + 256 * repN m n
def one1 (n x : Nat) : Nat := ((x / 2) &&& repN 85 n) + (x &&& repN 85 n)
def two2 (n x : Nat) : Nat := ((one1 n x / 4) &&& repN 51 n) + (one1 n x &&& repN 51 n)
def fou4 (n x : Nat) : Nat := (two2 n x / 16 + two2 n x) &&& repN 15 n

def c1 (b : Nat) : Nat := ((b / 2) &&& 85) + (b &&& 85)
def c2 (b : Nat) : Nat := ((c1 b / 4) &&& 51) + (c1 b &&& 51)
def cnt8 (b : Nat) : Nat := ((List.range 8).filter fun i => b.testBit i).length

theorem and_parts (d r m M : Nat) (hd : d < 256) (hm : m < 256) : (d + 256 * r) &&& (m + 256 * M) = (d &&& m) + 256 * (r &&& M) := by
  have h1 := Nat.and_div_two_pow (a := d + 256 * r) (b := m + 256 * M) (n := 8)
  have h2 := Nat.and_mod_two_pow (a := d + 256 * r) (b := m + 256 * M) (n := 8)
  rw [show (2 : Nat) ^ 8 = 256 by decide] at h1 h2
  rw [show (d + 256 * r) / 256 = r by omega, show (m + 256 * M) / 256 = M by omega] at h1
  rw [show (d + 256 * r) % 256 = d by omega, show (m + 256 * M) % 256 = m by omega] at h2
  generalize (d + 256 * r) &&& (m + 256 * M) = X at *
  generalize d &&& m = Y at *
  generalize r &&& M = Z at *
  omega

theorem all_two {p : Nat → Nat → Bool} {m n : Nat} (h : ((List.range m).all fun a => (List.range n).all fun b => p a b) = true) {a b : Nat} (ha : a < m) (hb : b < n) : p a b = true :=
  List.all_eq_true.1 (List.all_eq_true.1 h a (by simpa using ha)) b (by simpa using hb)

theorem one_byte {b e : Nat} (hb : b < 256) (he : e < 2) : (b / 2 + 128 * e) &&& 85 = (b / 2) &&& 85 ∧ b / 2 + 128 * e < 256 := by
  have key : ((List.range 256).all fun b => (List.range 2).all fun e => decide ((b / 2 + 128 * e) &&& 85 = (b / 2) &&& 85 ∧ b / 2 + 128 * e < 256)) = true := by decide +kernel
  exact of_decide_eq_true (all_two key hb he)
theorem two_byte {b e : Nat} (hb : b < 256) (he : e < 4) : (b / 4 + 64 * e) &&& 51 = (b / 4) &&& 51 ∧ b / 4 + 64 * e < 256 := by
  have key : ((List.range 256).all fun b => (List.range 4).all fun e => decide ((b / 4 + 64 * e) &&& 51 = (b / 4) &&& 51 ∧ b / 4 + 64 * e < 256)) = true := by decide +kernel
  exact of_decide_eq_true (all_two key hb he)
theorem fou_byte {b e : Nat} (hb : b < 256) (he : e < 5) : (c2 b / 16 + c2 b + 16 * e) &&& 15 = cnt8 b ∧ c2 b / 16 + c2 b + 16 * e < 256 ∧ c1 b < 256 ∧ c2 b < 256 ∧ c2 b % 16 < 5 ∧ cnt8 b ≤ 8 := by
  have key : ((List.range 256).all fun b => (List.range 5).all fun e => decide ((c2 b / 16 + c2 b + 16 * e) &&& 15 = cnt8 b ∧ c2 b / 16 + c2 b + 16 * e < 256 ∧ c1 b < 256 ∧ c2 b < 256 ∧ c2 b % 16 < 5 ∧ cnt8 b ≤ 8)) = true := by decide +kernel
  exact of_decide_eq_true (all_two key hb he)

theorem one_step (n b r : Nat) (hb : b < 256) : one1 (n + 1) (b + 256 * r) = c1 b + 256 * one1 n r := by
  unfold one1 c1
  have h := one_byte hb (show r % 2 < 2 by omega)
  rw [show (b + 256 * r) / 2 = (b / 2 + 128 * (r % 2)) + 256 * (r / 2) by omega]
  show ((b / 2 + 128 * (r % 2)) + 256 * (r / 2) &&& (85 + 256 * repN 85 n)) + ((b + 256 * r) &&& (85 + 256 * repN 85 n)) = _
  rw [and_parts _ _ _ _ h.2 (by decide), and_parts _ _ _ _ hb (by decide), h.1]
  omega
theorem two_step (n b r : Nat) (hb : b < 256) : two2 (n + 1) (b + 256 * r) = c2 b + 256 * two2 n r := by
  have hf := fou_byte hb (show 0 < 5 by decide)
  unfold two2 c2
  rw [one_step n b r hb]
  generalize one1 n r = x
  have hc : c1 b < 256 := hf.2.2.1
  generalize c1 b = c at *
  have h := two_byte hc (show x % 4 < 4 by omega)
  rw [show (c + 256 * x) / 4 = (c / 4 + 64 * (x % 4)) + 256 * (x / 4) by omega]
  show ((c / 4 + 64 * (x % 4)) + 256 * (x / 4) &&& (51 + 256 * repN 51 n)) + ((c + 256 * x) &&& (51 + 256 * repN 51 n)) = _
  rw [and_parts _ _ _ _ h.2 (by decide), and_parts _ _ _ _ hc (by decide), h.1]
  omega
theorem two_low : ∀ (n r : Nat), r < 256 ^ n → two2 n r % 16 < 5
  | 0, r, _ => by simp [two2, repN]
  | n + 1, r, _ => by
    have h := two_step n (r % 256) (r / 256) (by omega)
    rw [show r % 256 + 256 * (r / 256) = r by omega] at h
    rw [h]
    have := (fou_byte (show r % 256 < 256 by omega) (show 0 < 5 by decide)).2.2.2.2.1
    omega
theorem fou_step (n b r : Nat) (hb : b < 256) (hr : r < 256 ^ n) : fou4 (n + 1) (b + 256 * r) = cnt8 b + 256 * fou4 n r := by
  unfold fou4
  rw [two_step n b r hb]
  have hl := two_low n r hr
  have hf := fou_byte hb hl
  generalize two2 n r = x at *
  obtain ⟨h1, h2, _, _, _, _⟩ := hf
  rw [show (c2 b + 256 * x) / 16 + (c2 b + 256 * x) = (c2 b / 16 + c2 b + 16 * (x % 16)) + 256 * (x / 16 + x) by omega]
  show (c2 b / 16 + c2 b + 16 * (x % 16)) + 256 * (x / 16 + x) &&& (15 + 256 * repN 15 n) = _
  rw [and_parts _ _ _ _ h2 (by decide), h1]

/-- The counts of the bytes, in bytes. -/
def pcs : Nat → Nat → Nat
  | 0, _ => 0
  | n + 1, x => cnt8 (x % 256) + 256 * pcs n (x / 256)
theorem fou_all : ∀ (n x : Nat), x < 256 ^ n → fou4 n x = pcs n x
  | 0, x, _ => by simp [fou4, pcs, repN]
  | n + 1, x, h => by
    have hq : x / 256 < 256 ^ n := Nat.div_lt_of_lt_mul (by rw [Nat.pow_succ, Nat.mul_comm] at h; exact h)
    have e := fou_step n (x % 256) (x / 256) (by omega) hq
    rw [show x % 256 + 256 * (x / 256) = x by omega] at e
    rw [e, fou_all n _ hq]; rfl
def sums : Nat → Nat → Nat
  | 0, _ => 0
  | n + 1, x => cnt8 (x % 256) + sums n (x / 256)

theorem cnt_le (x : Nat) : cnt8 (x % 256) ≤ 8 := (fou_byte (show x % 256 < 256 by omega) (show 0 < 5 by decide)).2.2.2.2.2

theorem cnt_split (s k : Nat) : (toN s (8 + k)).length = cnt8 (s % 256) + (toN (s / 256) k).length := by
  unfold toN cnt8
  rw [List.range_add, List.filter_append, List.length_append, List.filter_map, List.length_map]
  congr 2
  · apply List.filter_congr
    intro i hi
    have hi := List.mem_range.1 hi
    have h := Nat.testBit_mod_two_pow s 8 i
    rw [show (2 : Nat) ^ 8 = 256 by decide, decide_eq_true hi, Bool.true_and] at h
    exact h.symm
  · apply List.filter_congr
    intro i _
    have h := Nat.testBit_shiftRight (i := 8) (j := i) s
    rw [Nat.shiftRight_eq_div_pow, show (2 : Nat) ^ 8 = 256 by decide] at h
    exact h.symm
theorem sums_all : ∀ (n s : Nat), (toN s (8 * n)).length = sums n s
  | 0, _ => rfl
  | n + 1, s => by
    rw [show 8 * (n + 1) = 8 + 8 * n by omega, cnt_split, sums_all n]; rfl

theorem div_b {p Y X : Nat} (h : p < 256) (e : X = p + 256 * Y) : X / 256 = Y := by omega
theorem div_w {p Y X : Nat} (h : p < 65536) (e : X = p + 65536 * Y) : X / 65536 = Y := by omega
theorem div_d {p Y X : Nat} (h : p < 4294967296) (e : X = p + 4294967296 * Y) : X / 4294967296 = Y := by omega
theorem mix_b (p0 p1 p2 p3 p4 p5 p6 p7 : Nat) : (p0 + 256 * (p1 + 256 * (p2 + 256 * (p3 + 256 * (p4 + 256 * (p5 + 256 * (p6 + 256 * p7))))))) + (p1 + 256 * (p2 + 256 * (p3 + 256 * (p4 + 256 * (p5 + 256 * (p6 + 256 * p7))))))
    = (p0 + p1 + 256 * (p1 + p2)) + 65536 * ((p2 + p3 + 256 * (p3 + p4)) + 65536 * ((p4 + p5 + 256 * (p5 + p6)) + 65536 * (p6 + p7 + 256 * p7))) := by omega
theorem mix_w (A0 A1 A2 A3 : Nat) : (A0 + 65536 * (A1 + 65536 * (A2 + 65536 * A3))) + (A1 + 65536 * (A2 + 65536 * A3)) = (A0 + A1 + 65536 * (A1 + A2)) + 4294967296 * (A2 + A3 + 65536 * A3) := by omega
theorem mix_d (p0 p1 p2 p3 p4 p5 p6 p7 Z : Nat) : (p0 + p1 + 256 * (p1 + p2)) + (p2 + p3 + 256 * (p3 + p4)) + ((p4 + p5 + 256 * (p5 + p6)) + (p6 + p7 + 256 * p7)) + 128 * Z = (p0 + (p1 + (p2 + (p3 + (p4 + (p5 + (p6 + p7))))))) + 128 * (2 * (p1 + p2 + p3 + p4 + p5 + p6 + p7) + Z) := by omega
theorem mix_e (A0 A1 A2 A3 : Nat) : (A0 + A1 + 65536 * (A1 + A2)) + 4294967296 * (A2 + A3 + 65536 * A3) + (A2 + A3 + 65536 * A3) = (A0 + A1 + (A2 + A3)) + 128 * (512 * (A1 + A2) + 33554432 * (A2 + A3 + 65536 * A3) + 512 * A3) := by omega
theorem low_7 {a b : Nat} (h : a ≤ 64) : (a + 128 * b) % 128 = a := by omega
theorem lt_nest {p0 p1 p2 p3 p4 p5 p6 p7 : Nat} (h0 : p0 ≤ 8) (h1 : p1 ≤ 8) (h2 : p2 ≤ 8) (h3 : p3 ≤ 8) (h4 : p4 ≤ 8) (h5 : p5 ≤ 8) (h6 : p6 ≤ 8) (h7 : p7 ≤ 8) :
    (p0 + 256 * (p1 + 256 * (p2 + 256 * (p3 + 256 * (p4 + 256 * (p5 + 256 * (p6 + 256 * p7))))))) < 18446744073709551616 := by omega

/-- The library's last steps. -/
def EndSum (X S : Nat) : Prop := ∃ a b c : Nat, X + X / 256 = a ∧ a + a / 65536 = b ∧ b + b / 4294967296 = c ∧ a < 18446744073709551616 ∧ b < 18446744073709551616 ∧ c < 9223372036854775808 ∧ c % 128 = S ∧ X < 18446744073709551616

theorem lt_four {A0 A1 A2 A3 : Nat} (h0 : A0 < 65536) (h1 : A1 < 65536) (h2 : A2 < 65536) (h3 : A3 < 65535) : A0 + 65536 * (A1 + 65536 * (A2 + 65536 * A3)) < 18446462598732840960 := by omega
theorem lt_two {a b : Nat} (h0 : a < 4294967296) (h1 : b < 275300000) : a + 4294967296 * b < 4611686018427387904 := by omega

theorem end_two {A0 A1 A2 A3 S T X a : Nat} (h0 : A0 < 4200) (h1 : A1 < 4200) (h2 : A2 < 4200) (h3 : A3 < 4200) (hS : S ≤ 64) (hm : ∀ Z, A0 + A1 + (A2 + A3) + 128 * Z = S + 128 * (2 * T + Z))
    (hX : X < 18446744073709551616) (ha : X + X / 256 = a) (e : a = A0 + 65536 * (A1 + 65536 * (A2 + 65536 * A3))) : EndSum X S := by
  have d1 : a / 65536 = A1 + 65536 * (A2 + 65536 * A3) := div_w (by omega) e
  have d2 : a + a / 65536 = (A0 + A1 + 65536 * (A1 + A2)) + 4294967296 * (A2 + A3 + 65536 * A3) := by rw [d1, e, mix_w]
  have d3 : ((A0 + A1 + 65536 * (A1 + A2)) + 4294967296 * (A2 + A3 + 65536 * A3)) / 4294967296 = A2 + A3 + 65536 * A3 := div_d (by omega) rfl
  have l1 := lt_four (A0 := A0) (A1 := A1) (A2 := A2) (A3 := A3) (by omega) (by omega) (by omega) (by omega)
  have l2 := lt_two (a := A0 + A1 + 65536 * (A1 + A2)) (b := A2 + A3 + 65536 * A3) (by omega) (by omega)
  have l3 : A2 + A3 + 65536 * A3 < 4294967296 := by omega
  have d4 := mix_e A0 A1 A2 A3
  rw [← e] at l1
  rw [hm] at d4
  generalize hU : (A0 + A1 + 65536 * (A1 + A2)) + 4294967296 * (A2 + A3 + 65536 * A3) = U at *
  generalize A2 + A3 + 65536 * A3 = V at *
  clear e d1 hm h0 h1 h2 h3 hU
  refine ⟨a, U, U + V, ha, d2, by rw [d3], by omega, by omega, by omega, ?_, hX⟩
  rw [d4]
  exact low_7 hS

theorem end_sum (p0 p1 p2 p3 p4 p5 p6 p7 : Nat) (h0 : p0 ≤ 8) (h1 : p1 ≤ 8) (h2 : p2 ≤ 8) (h3 : p3 ≤ 8) (h4 : p4 ≤ 8) (h5 : p5 ≤ 8) (h6 : p6 ≤ 8) (h7 : p7 ≤ 8) :
    EndSum (p0 + 256 * (p1 + 256 * (p2 + 256 * (p3 + 256 * (p4 + 256 * (p5 + 256 * (p6 + 256 * p7))))))) (p0 + (p1 + (p2 + (p3 + (p4 + (p5 + (p6 + p7))))))) := by
  have b0 : p0 + p1 + 256 * (p1 + p2) < 4200 := by omega
  have b1 : p2 + p3 + 256 * (p3 + p4) < 4200 := by omega
  have b2 : p4 + p5 + 256 * (p5 + p6) < 4200 := by omega
  have b3 : p6 + p7 + 256 * p7 < 4200 := by omega
  have b4 : p0 + (p1 + (p2 + (p3 + (p4 + (p5 + (p6 + p7)))))) ≤ 64 := by omega
  have b5 : p0 < 256 := by omega
  refine end_two b0 b1 b2 b3 b4 (mix_d p0 p1 p2 p3 p4 p5 p6 p7) (lt_nest h0 h1 h2 h3 h4 h5 h6 h7) rfl ?_
  rw [← mix_b p0 p1 p2 p3 p4 p5 p6 p7]
  congr 1
  exact div_b b5 rfl

theorem pcs_succ (n x : Nat) : pcs (n + 1) x = cnt8 (x % 256) + 256 * pcs n (x / 256) := rfl
theorem sums_succ (n x : Nat) : sums (n + 1) x = cnt8 (x % 256) + sums n (x / 256) := rfl
theorem fold_sum (x : Nat) : EndSum (pcs 8 x) (sums 8 x) := by
  have h := end_sum _ _ _ _ _ _ _ _ (cnt_le x) (cnt_le (x / 256)) (cnt_le (x / 256 / 256)) (cnt_le (x / 256 / 256 / 256)) (cnt_le (x / 256 / 256 / 256 / 256)) (cnt_le (x / 256 / 256 / 256 / 256 / 256)) (cnt_le (x / 256 / 256 / 256 / 256 / 256 / 256)) (cnt_le (x / 256 / 256 / 256 / 256 / 256 / 256 / 256))
  rw [pcs_succ 7, pcs_succ 6, pcs_succ 5, pcs_succ 4, pcs_succ 3, pcs_succ 2, pcs_succ 1, pcs_succ 0, sums_succ 7, sums_succ 6, sums_succ 5, sums_succ 4, sums_succ 3, sums_succ 2, sums_succ 1, sums_succ 0, show ∀ x, pcs 0 x = 0 from fun _ => rfl, show ∀ x, sums 0 x = 0 from fun _ => rfl, Nat.mul_zero, Nat.add_zero]
  exact h

theorem rep_85 : repN 85 8 = 6148914691236517205 := by decide
theorem rep_51 : repN 51 8 = 3689348814741910323 := by decide
theorem rep_15 : repN 15 8 = 1085102592571150095 := by decide

/-- The whole of it. -/
theorem pop_word {x : Nat} (h : x < 18446744073709551616) : fou4 8 x = pcs 8 x ∧ sums 8 x = cntN x := by
  refine ⟨fou_all 8 x (Nat.lt_of_lt_of_le h (by decide)), ?_⟩
  exact (sums_all 8 x).symm

end Go.Proofs.Ytopnagjbdjicaaa
