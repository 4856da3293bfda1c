import Derived.Test.YtbmpeadoicjpnaaRows
import Derived.WalkKit
import Derived.WalkSpells
import Derived.WalkLawsBesides
import Derived.IntWalk
import Derived.Laws.BitsAllLaws

/-
  Numbers in groups of seven bits: what their bytes are, and what bytes tell.
-/
namespace Go.Proofs.Ytbmpeadoicjpnaa
open Go.RowKit

theorem or_map {a b c d : Prop} (h : a ∨ b) (f : a → c) (g : b → d) : c ∨ d := h.elim (fun x => Or.inl (f x)) (fun y => Or.inr (g y))

/-- The bytes of n. -/
def lebL (n : Nat) : List Nat := if n < 128 then [n] else (n % 128 + 128) :: lebL (n / 128)
termination_by n
decreasing_by omega

theorem lebL_lo {n : Nat} (h : n < 128) : lebL n = [n] := by rw [lebL, if_pos h]
theorem lebL_hi {n : Nat} (h : ¬ n < 128) : lebL n = (n % 128 + 128) :: lebL (n / 128) := by rw [lebL, if_neg h]

/-- How many they are. -/
def szN (n : Nat) : Nat := (lebL n).length
theorem szN_lo {n : Nat} (h : n < 128) : szN n = 1 := by unfold szN; rw [lebL_lo h]; rfl
theorem szN_hi {n : Nat} (h : ¬ n < 128) : szN n = szN (n / 128) + 1 := by unfold szN; rw [lebL_hi h]; rfl
theorem szN_pos (n : Nat) : 0 < szN n := by
  by_cases h : n < 128
  · rw [szN_lo h]; decide
  · rw [szN_hi h]; omega
theorem szN_le : ∀ (k n : Nat), n < 128 ^ (k + 1) → szN n ≤ k + 1
  | 0, n, h => by rw [szN_lo (by simpa using h)]; exact Nat.le_refl _
  | k + 1, n, h => by
    by_cases h1 : n < 128
    · rw [szN_lo h1]; omega
    · rw [szN_hi h1]
      have := szN_le k (n / 128) (Nat.div_lt_of_lt_mul (by rw [Nat.pow_succ, Nat.mul_comm] at h; exact h))
      omega
theorem szN_gt : ∀ (k n : Nat), 128 ^ k ≤ n → k < szN n
  | 0, n, _ => szN_pos n
  | k + 1, n, h => by
    have h128 : 128 ≤ 128 ^ (k + 1) := by rw [Nat.pow_succ]; have := Nat.pow_pos (n := k) (show 0 < 128 by decide); omega
    have h1 : ¬ n < 128 := by omega
    rw [szN_hi h1]
    have := szN_gt k (n / 128) ((Nat.le_div_iff_mul_le (by decide)).2 (by rw [Nat.pow_succ] at h; exact h))
    omega
theorem szN_word {n : Nat} (h : n < 18446744073709551616) : szN n ≤ 10 := szN_le 9 n (Nat.lt_of_lt_of_le h (by decide))
theorem szN_mono : ∀ (a b : Nat), a ≤ b → szN a ≤ szN b := by
  intro a
  induction a using Nat.strongRecOn with
  | ind a ih =>
    intro b h
    by_cases h1 : a < 128
    · rw [szN_lo h1]; exact szN_pos b
    · rw [szN_hi h1, szN_hi (show ¬ b < 128 by omega)]
      have := ih (a / 128) (by omega) (b / 128) (by omega)
      omega
theorem lebL_lt (n : Nat) : ∀ x ∈ lebL n, x < 256 := by
  induction n using Nat.strongRecOn with
  | ind n ih =>
    intro x hx
    by_cases h1 : n < 128
    · rw [lebL_lo h1] at hx; simp at hx; omega
    · rw [lebL_hi h1] at hx
      rcases List.mem_cons.1 hx with rfl | hx
      · omega
      · exact ih (n / 128) (by omega) x hx

/-- What bytes begin with: the number, and how many bytes it takes. -/
def decN : List Nat → Option (Nat × Nat)
  | [] => none
  | c :: r => if c < 128 then some (c, 1) else
    match decN r with
    | some (m, j) => if m = 0 then none else some (c % 128 + 128 * m, j + 1)
    | none => none

theorem decN_lebL (n : Nat) (rest : List Nat) : decN (lebL n ++ rest) = some (n, szN n) := by
  induction n using Nat.strongRecOn with
  | ind n ih =>
    by_cases h1 : n < 128
    · rw [lebL_lo h1, szN_lo h1]; simp [decN, h1]
    · rw [lebL_hi h1, szN_hi h1, List.cons_append]
      unfold decN
      rw [if_neg (by omega), ih (n / 128) (by omega)]
      have h2 : ¬ n / 128 = 0 := by omega
      simp only [h2, if_false]
      have h3 : (n % 128 + 128) % 128 + 128 * (n / 128) = n := by omega
      rw [h3]

theorem decN_cut : ∀ (n at_ : Nat), at_ < szN n → decN ((lebL n).take at_) = none := by
  intro n
  induction n using Nat.strongRecOn with
  | ind n ih =>
    intro k hk
    cases k with
    | zero => rfl
    | succ k =>
      by_cases h1 : n < 128
      · rw [szN_lo h1] at hk; omega
      · rw [szN_hi h1] at hk
        rw [lebL_hi h1, List.take_succ_cons]
        unfold decN
        rw [if_neg (by omega), ih (n / 128) (by omega) k (by omega)]

def getN (b : List Nat) : Nat × Nat :=
  match decN b with
  | some (n, j) => if n < 18446744073709551616 then (n, j) else (0, 0)
  | none => (0, 0)

theorem getN_lebL {n : Nat} (h : n < 18446744073709551616) (rest : List Nat) : getN (lebL n ++ rest) = (n, szN n) := by
  unfold getN; rw [decN_lebL]; simp [h]
theorem getN_cut {n k : Nat} (h : k < szN n) : getN ((lebL n).take k) = (0, 0) := by
  unfold getN; rw [decN_cut n k h]

theorem decN_size : ∀ (b : List Nat) (n j : Nat), decN b = some (n, j) → 0 < j ∧ j ≤ b.length
  | [], _, _, h => by simp [decN] at h
  | c :: r, n, j, h => by
    unfold decN at h
    by_cases h1 : c < 128
    · simp [h1] at h; simp; omega
    · rw [if_neg h1] at h
      cases hd : decN r with
      | none => rw [hd] at h; simp at h
      | some x =>
        obtain ⟨m, i⟩ := x
        have := decN_size r m i hd
        rw [hd] at h
        by_cases h2 : m = 0
        · simp [h2] at h
        · simp [h2] at h; simp; omega

theorem getN_size (b : List Nat) : (getN b).2 ≤ b.length := by
  unfold getN
  cases h : decN b with
  | none => simp
  | some x =>
    obtain ⟨n, j⟩ := x
    have := decN_size b n j h
    by_cases h1 : n < 18446744073709551616 <;> simp [h1]
    omega
theorem getN_lt (b : List Nat) : (getN b).1 < 18446744073709551616 := by
  unfold getN
  cases h : decN b with
  | none => simp
  | some x =>
    obtain ⟨n, j⟩ := x
    by_cases h1 : n < 18446744073709551616 <;> simp [h1]

/-- All numbers, one behind the other. -/
def allF : Nat → List Nat → Option (List Nat)
  | _, [] => some []
  | 0, _ :: _ => none
  | f + 1, b => if (getN b).2 = 0 then none else (allF f (b.drop (getN b).2)).map ((getN b).1 :: ·)
def allG (b : List Nat) : Option (List Nat) := allF b.length b

theorem allF_fuel : ∀ (f g : Nat) (b : List Nat), b.length ≤ f → b.length ≤ g → allF f b = allF g b := by
  intro f
  induction f with
  | zero => intro g b h1 h2; obtain rfl : b = [] := List.length_eq_zero_iff.1 (by omega); cases g <;> rfl
  | succ f ih =>
    intro g b h1 h2
    cases b with
    | nil => cases g <;> rfl
    | cons c r =>
      cases g with
      | zero => simp at h2
      | succ g =>
        show (if (getN (c :: r)).2 = 0 then none else (allF f ((c :: r).drop (getN (c :: r)).2)).map ((getN (c :: r)).1 :: ·)) = (if (getN (c :: r)).2 = 0 then none else (allF g ((c :: r).drop (getN (c :: r)).2)).map ((getN (c :: r)).1 :: ·))
        by_cases h0 : (getN (c :: r)).2 = 0
        · rw [if_pos h0, if_pos h0]
        · rw [if_neg h0, if_neg h0, ih g _ (by simp at h1 ⊢; omega) (by simp at h2 ⊢; omega)]

theorem allG_nil : allG [] = some [] := rfl
theorem allG_step {b : List Nat} (h : b ≠ []) : allG b = if (getN b).2 = 0 then none else (allG (b.drop (getN b).2)).map ((getN b).1 :: ·) := by
  cases b with
  | nil => exact absurd rfl h
  | cons c r =>
    show (if (getN (c :: r)).2 = 0 then none else (allF r.length ((c :: r).drop (getN (c :: r)).2)).map ((getN (c :: r)).1 :: ·)) = _
    by_cases h0 : (getN (c :: r)).2 = 0
    · rw [if_pos h0, if_pos h0]
    · rw [if_neg h0, if_neg h0, allF_fuel r.length _ _ (by simp; omega) (Nat.le_refl _)]; rfl

/-- The bytes of many. -/
def manyL : List Nat → List Nat
  | [] => []
  | n :: r => lebL n ++ manyL r
theorem manyL_snoc : ∀ (l : List Nat) (n : Nat), manyL (l ++ [n]) = manyL l ++ lebL n
  | [], n => by simp [manyL]
  | m :: r, n => by show lebL m ++ manyL (r ++ [n]) = (lebL m ++ manyL r) ++ lebL n; rw [manyL_snoc r n, List.append_assoc]
theorem allG_many : ∀ (l : List Nat), (∀ n ∈ l, n < 18446744073709551616) → allG (manyL l) = some l
  | [], _ => rfl
  | n :: r, h => by
    have hn := h n (by simp)
    have hp := szN_pos n
    have hne : lebL n ++ manyL r ≠ [] := by intro e; have := congrArg List.length e; simp at this; unfold szN at hp; simp [this.1] at hp
    show allG (lebL n ++ manyL r) = _
    rw [allG_step hne, getN_lebL hn]
    have h0 : ¬ szN n = 0 := by omega
    simp only [h0, if_false]
    rw [show szN n = (lebL n).length from rfl, List.drop_left, allG_many r (fun m hm => h m (List.mem_cons_of_mem _ hm))]
    rfl
theorem manyL_len : ∀ (l : List Nat), (∀ n ∈ l, n < 18446744073709551616) → (manyL l).length ≤ 10 * l.length
  | [], _ => by simp [manyL]
  | n :: r, h => by
    have := manyL_len r (fun m hm => h m (List.mem_cons_of_mem _ hm))
    have h2 := szN_word (h n (by simp))
    unfold szN at h2
    simp [manyL]; omega
theorem manyL_lt : ∀ (l : List Nat), ∀ x ∈ manyL l, x < 256
  | [], x, h => by simp [manyL] at h
  | n :: r, x, h => (List.mem_append.1 h).elim (lebL_lt n x) (manyL_lt r x)
theorem manyL_take {l : List Nat} {k : Nat} (h : k < l.length) : manyL (l.take (k + 1)) = manyL (l.take k) ++ lebL l[k] := by
  rw [List.take_succ_eq_append_getElem h, manyL_snoc]

theorem decN_lo {c : Nat} {r : List Nat} (h : c < 128) : decN (c :: r) = some (c, 1) := by simp [decN, h]
theorem decN_none {c : Nat} {r : List Nat} (h : ¬ c < 128) (hd : decN r = none) : decN (c :: r) = none := by simp [decN, h, hd]
theorem decN_zero {c j : Nat} {r : List Nat} (h : ¬ c < 128) (hd : decN r = some (0, j)) : decN (c :: r) = none := by simp [decN, h, hd]
theorem decN_more {c m j : Nat} {r : List Nat} (h : ¬ c < 128) (hd : decN r = some (m, j)) (hm : ¬ m = 0) : decN (c :: r) = some (c % 128 + 128 * m, j + 1) := by simp [decN, h, hd, hm]

/-! What a reader knows behind k bytes. -/
def liftN (k acc : Nat) : Option (Nat × Nat) → Option (Nat × Nat)
  | some (m, j) => if 0 < k ∧ m = 0 then none else some (acc + 128 ^ k * m, j + k)
  | none => none

theorem liftN_some {k acc m j : Nat} (h : ¬ (0 < k ∧ m = 0)) : liftN k acc (some (m, j)) = some (acc + 128 ^ k * m, j + k) := by simp only [liftN, h, if_false]
theorem liftN_zero {k acc j : Nat} (h : 0 < k) : liftN k acc (some (0, j)) = none := by simp [liftN, h]

def SeenN (b : List Nat) (k acc : Nat) : Prop := decN b = liftN k acc (decN (b.drop k)) ∧ acc < 128 ^ k

theorem seen_zero (b : List Nat) : SeenN b 0 0 := by
  refine ⟨?_, by decide⟩
  rw [List.drop_zero]
  cases decN b with
  | none => rfl
  | some x => obtain ⟨m, j⟩ := x; simp [liftN]

theorem seen_next {b : List Nat} {k acc : Nat} (h : SeenN b k acc) (hk : k < b.length) (hc : ¬ b[k] < 128) : SeenN b (k + 1) (acc + b[k] % 128 * 128 ^ k) := by
  obtain ⟨h1, h2⟩ := h
  rw [List.drop_eq_getElem_cons hk] at h1
  generalize b[k] = c at *
  constructor
  · rw [h1]
    cases hd : decN (b.drop (k + 1)) with
    | none => rw [decN_none hc hd]; rfl
    | some x =>
      obtain ⟨m, j⟩ := x
      by_cases hm : m = 0
      · subst hm; rw [decN_zero hc hd, liftN_zero (by omega)]; rfl
      · rw [decN_more hc hd hm, liftN_some (by omega), liftN_some (by omega)]
        have e : acc + 128 ^ k * (c % 128 + 128 * m) = acc + c % 128 * 128 ^ k + 128 ^ (k + 1) * m := by
          rw [Nat.pow_succ, Nat.mul_add, Nat.mul_comm (c % 128), Nat.mul_assoc, Nat.add_assoc]
        rw [e, show j + 1 + k = j + (k + 1) by omega]
  · have : c % 128 * 128 ^ k ≤ 127 * 128 ^ k := Nat.mul_le_mul_right _ (by omega)
    rw [Nat.pow_succ]
    omega

theorem seen_over {b : List Nat} {k acc : Nat} (h : SeenN b k acc) (hk : b.length ≤ k) : getN b = (0, 0) := by
  unfold getN
  rw [h.1, List.drop_eq_nil_of_le hk]
  rfl

/-- A group that has no room, or bytes behind the tenth: no number. -/
theorem seen_much {b : List Nat} {k acc : Nat} (h : SeenN b k acc) (hg : k = 10 ∨ (k = 9 ∧ ∃ hk : k < b.length, 2 ≤ b[k] % 128 ∨ 128 ≤ b[k])) : getN b = (0, 0) := by
  obtain ⟨h1, h2⟩ := h
  have big : ∀ n j, decN b = some (n, j) → ¬ n < 18446744073709551616 := by
    intro n j e
    rw [h1] at e
    rcases hg with rfl | ⟨rfl, hk, hc⟩
    · cases hd : decN (b.drop 10) with
      | none => rw [hd] at e; simp [liftN] at e
      | some x =>
        obtain ⟨m, i⟩ := x
        rw [hd] at e
        by_cases hm : m = 0
        · subst hm; rw [liftN_zero (by decide)] at e; cases e
        · rw [liftN_some (by omega)] at e
          have e1 := (Prod.mk.inj (Option.some.inj e)).1
          have : 128 ^ 10 * 1 ≤ 128 ^ 10 * m := Nat.mul_le_mul_left _ (by omega)
          have e2 : (128 : Nat) ^ 10 = 1180591620717411303424 := by decide
          rw [e2] at this e1
          omega
    · rw [List.drop_eq_getElem_cons hk] at e
      generalize b[9] = c at *
      have e9 : (128 : Nat) ^ 9 = 9223372036854775808 := by decide
      by_cases h128 : c < 128
      · have : 2 ≤ c := by omega
        rw [decN_lo h128, liftN_some (by omega)] at e
        have e1 := (Prod.mk.inj (Option.some.inj e)).1
        have : 128 ^ 9 * 2 ≤ 128 ^ 9 * c := Nat.mul_le_mul_left _ this
        rw [e9] at this e1
        omega
      · cases hd : decN (b.drop (9 + 1)) with
        | none => rw [decN_none h128 hd] at e; simp [liftN] at e
        | some x =>
          obtain ⟨m, i⟩ := x
          by_cases hm : m = 0
          · subst hm; rw [decN_zero h128 hd] at e; simp [liftN] at e
          · rw [decN_more h128 hd hm, liftN_some (by omega)] at e
            have e1 := (Prod.mk.inj (Option.some.inj e)).1
            have : 128 ^ 9 * 2 ≤ 128 ^ 9 * (c % 128 + 128 * m) := Nat.mul_le_mul_left _ (by omega)
            rw [e9] at this e1
            omega
  unfold getN
  cases hd : decN b with
  | none => rfl
  | some x => obtain ⟨n, j⟩ := x; simp [big n j hd]

/-- The last byte. -/
theorem seen_last {b : List Nat} {k acc : Nat} (h : SeenN b k acc) (hk : k < b.length) (hc : b[k] < 128) (h9 : k < 9 ∨ (k = 9 ∧ b[k] < 2)) :
    getN b = if 0 < k ∧ b[k] = 0 then (0, 0) else (acc + b[k] * 128 ^ k, k + 1) := by
  obtain ⟨h1, h2⟩ := h
  rw [List.drop_eq_getElem_cons hk] at h1
  generalize b[k] = c at *
  rw [decN_lo hc] at h1
  unfold getN
  by_cases hz : 0 < k ∧ c = 0
  · obtain ⟨h0, rfl⟩ := hz
    rw [liftN_zero h0] at h1
    rw [h1, if_pos ⟨h0, rfl⟩]
  · rw [liftN_some hz] at h1
    rw [h1, if_neg hz]
    have e9 : (128 : Nat) ^ 9 = 9223372036854775808 := by decide
    have hl : acc + 128 ^ k * c < 18446744073709551616 := by
      rcases h9 with h9 | ⟨rfl, h9⟩
      · have hp : (128 : Nat) ^ (k + 1) ≤ 128 ^ 9 := Nat.pow_le_pow_right (by decide) (by omega)
        have hq : 128 ^ k * c ≤ 128 ^ k * 127 := Nat.mul_le_mul_left _ (by omega)
        rw [Nat.pow_succ] at hp
        omega
      · have hq : 128 ^ 9 * c ≤ 128 ^ 9 * 1 := Nat.mul_le_mul_left _ (by omega)
        rw [e9] at hq h2 ⊢
        omega
    simp only [hl, if_true]
    rw [Nat.mul_comm c, Nat.add_comm 1]

theorem seen_size {k acc c : Nat} (h : acc < 128 ^ k) (hc : c < 128) (hz : ¬ (0 < k ∧ c = 0)) : szN (acc + c * 128 ^ k) = k + 1 := by
  have h1 : szN (acc + c * 128 ^ k) ≤ k + 1 := by
    refine szN_le k _ ?_
    have : c * 128 ^ k ≤ 127 * 128 ^ k := Nat.mul_le_mul_right _ (by omega)
    rw [Nat.pow_succ]
    omega
  have h2 := szN_pos (acc + c * 128 ^ k)
  by_cases h0 : k = 0
  · subst h0; omega
  · have : k < szN (acc + c * 128 ^ k) := by
      refine szN_gt k _ ?_
      have : 1 * 128 ^ k ≤ c * 128 ^ k := Nat.mul_le_mul_right _ (by omega)
      omega
    omega
theorem seen_short {k acc : Nat} (h : acc < 128 ^ k) (hk : 0 < k) : szN acc ≤ k := by
  obtain ⟨j, rfl⟩ : ∃ j, k = j + 1 := ⟨k - 1, by omega⟩
  exact szN_le j acc h

end Go.Proofs.Ytbmpeadoicjpnaa
