/-
  Counted up, one by one: what a square has then.
-/
import Derived.Test.YtfiamomadicbpaaCsq
namespace Go.Proofs.Ytfiamomadicbpaa

def hitS (r j : Nat) (p : Int × Nat) : Bool := decide (p.1 = (r : Int)) && hasN p.2 (j : Int)
def cntS (S : List (Int × Nat)) (r j : Nat) : Nat := S.countP (hitS r j)
theorem cntS_more (S : List (Int × Nat)) (p : Int × Nat) (r j : Nat) : cntS (S ++ [p]) r j = cntS S r j + if hitS r j p = true then 1 else 0 := by
  unfold cntS
  rw [List.countP_append]
  congr 1
  simp [List.countP_cons]
theorem cntS_le (S : List (Int × Nat)) (r j : Nat) : cntS S r j ≤ S.length := List.countP_le_length
theorem cntS_rev (S : List (Int × Nat)) (r j : Nat) : cntS S.reverse r j = cntS S r j := List.countP_reverse

structure Ups (n : Nat) (m : List (List Nat)) (S : List (Int × Nat)) : Prop where
  g : goodM (n : Int) m = true
  c : ∀ r, r < n → ∀ j, j < n → atN (m.getD r []) j = cntS S r j

theorem good_len {n : Nat} {m : List (List Nat)} (h : goodM (n : Int) m = true) : m.length = n ∧ 1 ≤ n ∧ n ≤ 16 ∧ ∀ r, r < n → (m.getD r []).length = n := by
  obtain ⟨k, e, h1, h2, h3, h4⟩ := goodM_is h
  obtain rfl : n = k := by omega
  exact ⟨h3, h1, h2, fun r hr => by rw [List.getD, List.getElem?_eq_getElem (by omega)]; exact h4 _ (List.getElem_mem _)⟩
theorem zerosM_getD {n r : Nat} (h : r < n) : (zerosM n).getD r [] = List.replicate n 0 := by
  unfold zerosM
  rw [List.getD, List.getElem?_replicate, if_pos h]; rfl
theorem zerosM_good {n : Nat} (h1 : 1 ≤ n) (h2 : n ≤ 16) : goodM (n : Int) (zerosM n) = true :=
  goodM_of h1 h2 (by simp [zerosM]) fun r hr => by rw [(List.mem_replicate.1 hr).2]; simp
theorem Ups.zero {n : Nat} (h1 : 1 ≤ n) (h2 : n ≤ 16) : Ups n (zerosM n) [] :=
  ⟨zerosM_good h1 h2, fun r hr j hj => by
    rw [zerosM_getD hr, atN_of (by simpa using hj)]
    simp [cntS]⟩
theorem upM_getD {n p r to : Nat} {m : List (List Nat)} (g : goodM (n : Int) m = true) (hp : p < n) : (upM (n : Int) m (p : Int) to).getD r [] = if r = p then incL (m.getD p []) to n else m.getD r [] := by
  have hl := (good_len g).1
  rw [upM_yes g hp, List.getD, List.getElem?_set]
  by_cases e : p = r
  · subst e
    rw [if_pos rfl, if_pos (by omega), if_pos rfl]; rfl
  · rw [if_neg e, if_neg (fun h => e h.symm)]; rfl
theorem upM_good {n to : Nat} {i : Int} {m : List (List Nat)} (g : goodM (n : Int) m = true) : goodM (n : Int) (upM (n : Int) m i to) = true := by
  by_cases h : 0 ≤ i ∧ i < n
  · obtain ⟨p, rfl⟩ : ∃ p : Nat, i = p := ⟨i.toNat, by omega⟩
    obtain ⟨h1, h2, h3, h4⟩ := good_len g
    refine goodM_of h2 h3 (by rw [upM_len, h1]) fun r hr => ?_
    obtain ⟨k, hk, rfl⟩ := List.getElem_of_mem hr
    have e := upM_getD (r := k) (to := to) g (show p < n by omega)
    rw [List.getD, List.getElem?_eq_getElem hk, Option.getD_some] at e
    rw [e]
    rw [upM_len, h1] at hk
    split
    · rw [incL_length, h4 p (by omega)]
    · exact h4 k hk
  · rw [upM_no (fun h' => h ⟨h'.2.1, h'.2.2⟩)]
    exact g
theorem Ups.more {n to : Nat} {i : Int} {m : List (List Nat)} {S : List (Int × Nat)} (h : Ups n m S) (hl : S.length ≤ 1000) : Ups n (upM (n : Int) m i to) (S ++ [(i, to)]) := by
  refine ⟨upM_good h.g, fun r hr j hj => ?_⟩
  rw [cntS_more]
  have hc := h.c r hr j hj
  have hle := cntS_le S r j
  unfold hitS
  by_cases hi : 0 ≤ i ∧ i < n
  · obtain ⟨p, rfl⟩ : ∃ p : Nat, i = p := ⟨i.toNat, by omega⟩
    rw [upM_getD h.g (by omega)]
    by_cases e : r = p
    · subst e
      rw [if_pos rfl, incL_at, if_pos (by rw [(good_len h.g).2.2.2 r hr]; exact hj), hc, decide_eq_true rfl, Bool.true_and]
      congr 1
      by_cases hb : hasN to (j : Int) = true
      · rw [if_pos ⟨hj, hb, by omega⟩, if_pos hb]
      · rw [if_neg (fun h' => hb h'.2.1), if_neg hb]
    · rw [if_neg e, hc, decide_eq_false (by simp only; omega), Bool.false_and, if_neg (by simp)]; rfl
  · rw [upM_no (fun h' => hi ⟨h'.2.1, h'.2.2⟩), hc, decide_eq_false (by simp only; omega), Bool.false_and, if_neg (by simp)]; rfl

/-- Is it counted there? -/
def upB (n : Nat) (i : Int) (to j : Nat) : Bool := hasN to (j : Int) && decide (0 ≤ i) && decide (i < n)
theorem atM_up {n to j : Nat} {i : Int} {m : List (List Nat)} {S : List (Int × Nat)} (h : Ups n m S) (hl : S.length ≤ 1000) (hj : j < n) : atM (upM (n : Int) m i to) i (j : Int) = atM m i (j : Int) + if upB n i to j = true then 1 else 0 := by
  have h2 := h.more (i := i) (to := to) hl
  unfold atM upB
  by_cases hi : 0 ≤ i ∧ i < n
  · obtain ⟨p, rfl⟩ : ∃ p : Nat, i = p := ⟨i.toNat, by omega⟩
    rw [if_pos hi.1, if_pos hi.1, atZ_nat, atZ_nat, Int.toNat_natCast, h2.c p (by omega) j hj, h.c p (by omega) j hj, cntS_more, decide_eq_true hi.1, decide_eq_true hi.2, Bool.and_true, Bool.and_true]
    congr 1
    unfold hitS
    rw [decide_eq_true rfl, Bool.true_and]
  · rw [upM_no (fun h' => hi ⟨h'.2.1, h'.2.2⟩)]
    rw [if_neg (c := (hasN to (j : Int) && decide (0 ≤ i) && decide (i < n)) = true) (fun h' => by simp at h'; omega)]; rfl
theorem colM_at {n j : Nat} {m : List (List Nat)} (g : goodM (n : Int) m = true) (hj : j < n) (r : Nat) : atN (colM (n : Int) m (j : Int)) r = if r < n then atN (m.getD r []) j else 0 := by
  have hl := (good_len g).1
  unfold colM
  rw [if_pos ⟨g, by omega, by omega⟩, Int.toNat_natCast]
  by_cases h : r < n
  · rw [if_pos h, atN_of (by rw [List.length_map]; omega), List.getElem_map, List.getD, List.getElem?_eq_getElem (by omega)]; rfl
  · rw [if_neg h, atN_out (by rw [List.length_map]; omega)]
theorem colM_len {n j : Nat} {m : List (List Nat)} (g : goodM (n : Int) m = true) (hj : j < n) : (colM (n : Int) m (j : Int)).length = n := by
  unfold colM
  rw [if_pos ⟨g, by omega, by omega⟩, List.length_map, (good_len g).1]
theorem col_cmp {n to j : Nat} {i : Int} {m : List (List Nat)} {S : List (Int × Nat)} (h : Ups n m S) (hl : S.length ≤ 1000) (hj : j < n) : cmpZ (colM (n : Int) m (j : Int)) (colM (n : Int) (upM (n : Int) m i to) (j : Int)) = if upB n i to j = true then -1 else 0 := by
  have h2 := h.more (i := i) (to := to) hl
  have step : ∀ r, r < n → atN (colM (n : Int) (upM (n : Int) m i to) (j : Int)) r = atN (colM (n : Int) m (j : Int)) r + if hitS r j (i, to) = true then 1 else 0 := fun r hr => by
    rw [colM_at h2.g hj, colM_at h.g hj, if_pos hr, if_pos hr, h2.c r hr j hj, h.c r hr j hj, cntS_more]
  have out : ∀ r, ¬ r < n → atN (colM (n : Int) (upM (n : Int) m i to) (j : Int)) r = atN (colM (n : Int) m (j : Int)) r := fun r hr => by
    rw [colM_at h2.g hj, colM_at h.g hj, if_neg hr, if_neg hr]
  by_cases hb : upB n i to j = true
  · rw [if_pos hb]
    unfold upB at hb
    simp only [Bool.and_eq_true, decide_eq_true_eq] at hb
    obtain ⟨⟨hb1, hb2⟩, hb3⟩ := hb
    obtain ⟨p, rfl⟩ : ∃ p : Nat, i = p := ⟨i.toNat, by omega⟩
    refine cmpZ_lt (i := p) (fun r => ?_) ?_
    · by_cases hr : r < n
      · rw [step r hr]; omega
      · rw [out r hr]; exact Nat.le_refl _
    · rw [step p (by omega), if_pos (by unfold hitS; rw [decide_eq_true rfl, Bool.true_and]; exact hb1)]; omega
  · rw [if_neg hb]
    refine cmpZ_alike fun r => ?_
    by_cases hr : r < n
    · rw [step r hr, if_neg (fun h' => hb ?_)]; rfl
      unfold hitS at h'
      unfold upB
      simp only [Bool.and_eq_true, decide_eq_true_eq] at h' ⊢
      exact ⟨⟨h'.2, by omega⟩, by omega⟩
    · rw [out r hr]
theorem Ups.within {n : Nat} {m o : List (List Nat)} {S S' : List (Int × Nat)} (h : Ups n m S) (h' : Ups n o S') (he : ∀ r j, cntS S r j = cntS S' r j) : wiM (n : Int) m (n : Int) o = true := by
  unfold wiM bothM
  rw [h.g, h'.g, decide_eq_true rfl, Bool.true_and, Bool.true_and, Bool.true_and, List.all_eq_true]
  intro r hr
  obtain ⟨h1, -, -, h4⟩ := good_len h.g
  have hr' : r < n := by rw [← h1]; exact List.mem_range.1 hr
  refine wiB_iff.2 fun j => ?_
  by_cases hj : j < n
  · rw [h.c r hr' j hj, h'.c r hr' j hj, he]; exact Nat.le_refl _
  · rw [atN_out (by rw [h4 r hr']; omega)]; exact Nat.zero_le _
theorem Ups.at_le {n : Nat} {m : List (List Nat)} {S : List (Int × Nat)} (h : Ups n m S) (i : Int) {j : Nat} (hj : j < n) : atM m i (j : Int) ≤ S.length := by
  unfold atM
  split
  · rw [atZ_nat]
    by_cases hr : i.toNat < n
    · rw [h.c _ hr j hj]; exact cntS_le ..
    · rw [List.getD, List.getElem?_eq_none (by rw [(good_len h.g).1]; omega)]
      simp [atN]
  · exact Nat.zero_le _

end Go.Proofs.Ytfiamomadicbpaa
