/-
  What a text tells: the pieces between commas, braces off.
-/
import Derived.Test.YtlfahnijnlapdaaDoorDsplit
import Derived.Lib.AtoiAll
import Derived.Lib.SlTrimSet
namespace Go.Proofs.YtlfahnijnlapdaaDoor
open Go.RowKit

def accN (a : Nat) (p : List UInt8) : Nat := match Lib.atoiAll p with
  | .ok v => a ||| bitN v
  | _ => a
/-- The set that a text's pieces tell. -/
def setN (t : List UInt8) : Nat := (cutN (Lib.trimS t [123, 125])).foldl accN 0

theorem accN_lt {a : Nat} (h : a < 18446744073709551616) (p : List UInt8) : accN a p < 18446744073709551616 := by
  unfold accN
  split
  · exact or_lt h (bitN_lt _)
  · exact h
theorem accs_lt : ∀ (l : List (List UInt8)) (a : Nat), a < 18446744073709551616 → l.foldl accN a < 18446744073709551616
  | [], _, h => h
  | p :: r, _, h => accs_lt r _ (accN_lt h p)
theorem setN_lt (t : List UInt8) : setN t < 18446744073709551616 := accs_lt _ 0 (by decide)

theorem atoi_dig {k : Nat} (h : k < 64) : Lib.atoiAll (digN k) = .ok (k : Int) := by
  have key : ((List.range 64).all fun k => match Lib.atoiAll (digN k) with | .ok v => v == (k : Int) | _ => false) = true := by decide +kernel
  have h1 := List.all_eq_true.1 key k (by simpa using h)
  cases e : Lib.atoiAll (digN k) with
  | ok v => rw [e] at h1; simp at h1; rw [h1]
  | «syntax» => rw [e] at h1; simp at h1
  | range => rw [e] at h1; simp at h1
theorem accs_dig : ∀ (l : List Nat) (a : Nat), (∀ x ∈ l, x < 64) → (l.map digN).foldl accN a = (l.map fun (x : Nat) => (x : Int)).foldl (fun a p => a ||| bitN p) a
  | [], _, _ => rfl
  | k :: r, a, h => by
    rw [List.map_cons, List.map_cons, List.foldl_cons, List.foldl_cons, accs_dig r _ fun x hx => h x (List.mem_cons_of_mem _ hx)]
    unfold accN
    rw [atoi_dig (h k (by simp))]

theorem join_free (l : List Nat) (hl : ∀ x ∈ l, x < 64) : ∀ c ∈ joinN l, ([123, 125] : List UInt8).contains c = false := by
  have dig : ∀ k, k < 64 → ∀ c ∈ digN k, ([123, 125] : List UInt8).contains c = false := by
    intro k hk c hc
    obtain ⟨h1, h2⟩ := dig_free hk c hc
    have n1 : c ≠ 123 := fun e => by subst e; revert h2; decide
    have n2 : c ≠ 125 := fun e => by subst e; revert h2; decide
    simp [n1, n2]
  revert hl
  refine snoc_ind (C := fun l => (∀ x ∈ l, x < 64) → ∀ c ∈ joinN l, ([123, 125] : List UInt8).contains c = false) (fun _ c hc => by simp [join_nil] at hc) (fun l k ih h c hc => ?_) l
  have hk : k < 64 := h k (by simp)
  rw [join_snoc'] at hc
  split at hc
  · exact dig k hk c hc
  · rcases List.mem_append.1 hc with h1 | h1
    · exact ih (fun x hx => h x (by simp [hx])) c h1
    · rcases List.mem_cons.1 h1 with rfl | h2
      · decide
      · exact dig k hk c h2

theorem drop_free {p : UInt8 → Bool} {l : List UInt8} (h : ∀ c ∈ l, p c = false) : l.dropWhile p = l := by
  cases l with
  | nil => rfl
  | cons c r => rw [List.dropWhile_cons, h c (by simp)]; rfl
theorem trim_braces {j : List UInt8} (h : ∀ c ∈ j, ([123, 125] : List UInt8).contains c = false) : Lib.trimS (123 :: (j ++ [125])) [123, 125] = j := by
  unfold Lib.trimS Lib.trimLeftS Lib.trimRightS
  have e1 : (123 :: (j ++ [125])).reverse = 125 :: (j.reverse ++ [123]) := by simp
  rw [e1, List.dropWhile_cons, if_pos (by decide)]
  by_cases h0 : j = []
  · subst h0; decide
  · have h1 : (j.reverse ++ [123]).dropWhile (([123, 125] : List UInt8).contains ·) = j.reverse ++ [123] := by
      cases hr : j.reverse with
      | nil => exact absurd (by simpa using hr) h0
      | cons c r =>
        have hc := h c (List.mem_reverse.1 (by rw [hr]; simp))
        rw [List.cons_append, List.dropWhile_cons, hc]; rfl
    rw [h1, List.reverse_append, List.reverse_reverse]
    show List.dropWhile _ (123 :: j) = j
    rw [List.dropWhile_cons, if_pos (by decide)]
    exact drop_free h

/-- What is shown is read again. -/
theorem set_show {s : Nat} (h : s < 18446744073709551616) : setN (showN s) = s := by
  have hl : ∀ x ∈ listN s, x < 64 := toN_lt
  unfold setN showN
  rw [trim_braces (join_free _ hl), cut_join _ hl]
  have ho := of_list h
  by_cases h0 : listN s = []
  · rw [if_pos h0]
    rw [h0] at ho
    rw [← ho]
    decide
  · rw [if_neg h0, accs_dig _ _ hl]
    exact ho

theorem atoi_ok {l : List UInt8} {v : Int} (h : Lib.atoiAll l = .ok v) : IntOk v := by
  unfold Lib.atoiAll at h
  unfold IntOk
  cases l with
  | nil => cases h
  | cons c r =>
    simp only at h
    split at h
    · cases h
    · cases h
    · split at h
      · cases h
      · split at h
        · cases h
        · cases h
          split <;> omega

end Go.Proofs.YtlfahnijnlapdaaDoor
