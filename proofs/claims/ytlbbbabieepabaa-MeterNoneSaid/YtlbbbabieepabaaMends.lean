/-
  The least and the greatest of a row.
-/
import Derived.Test.YtlbbbabieepabaaMscal
import Derived.Lib.Hide
namespace Go.Proofs.Ytlbbbabieepabaa
open Go.RowKit

def minGo : List Nat → Nat → Nat
  | [], m => m
  | x :: r, m => if nanB x then nanW else minGo r (if decide (cmpN x m < 0) then x else m)
def maxGo : List Nat → Nat → Nat
  | [], m => m
  | x :: r, m => if nanB x then nanW else maxGo r (if decide (0 < cmpN x m) then x else m)
def minN (xs : List Nat) : Nat := minGo xs 9218868437227405312
def maxN (xs : List Nat) : Nat := maxGo xs 18442240474082181120

/-- A slice value holds the words xs. -/
structure Floats (w : World) (b off : Nat) (xs : List Nat) : Prop where
  lt : ∀ x ∈ xs, x < 18446744073709551616
  cell : ∀ i (h : i < xs.length), w.cell? ⟨b, off + i, none⟩ = some (.float .f64 xs[i])

theorem minGo_step (xs : List Nat) (k m : Nat) (h : k < xs.length) : minGo (xs.drop k) m = if nanB xs[k] then nanW else minGo (xs.drop (k + 1)) (if decide (cmpN xs[k] m < 0) then xs[k] else m) := by
  rw [List.drop_eq_getElem_cons h]; rfl
theorem maxGo_step (xs : List Nat) (k m : Nat) (h : k < xs.length) : maxGo (xs.drop k) m = if nanB xs[k] then nanW else maxGo (xs.drop (k + 1)) (if decide (0 < cmpN xs[k] m) then xs[k] else m) := by
  rw [List.drop_eq_getElem_cons h]; rfl

set_option maxHeartbeats 1000000 in
theorem min_any (xs : List Nat) (b off cap : Nat) (w : World) (hx : Floats w b off xs) (hn : xs.length ≤ 100) :
    Calls Try.prog 34 #[.slice (some ⟨b, off, none⟩) xs.length cap] w fun e w' => e = .returned (.float .f64 (minN xs)) ∧ w = w' := by
  obtain ⟨hlt, hcell⟩ := hx
  have HL := Lib.hid hlt
  have HC := Lib.hid hcell
  clear hlt hcell
  go_enter Try.func34, Try.ntmps34
  go_wp2_with (go_at_call 13; refine (inf_pos _).mono ?_; rintro e w' ⟨rfl, rfl⟩)
  go_loop [3, 9] (fun m i => ∃ k y : Nat, k ≤ xs.length ∧ y < 18446744073709551616 ∧ i = .int .i64 k ∧ m = .float .f64 y ∧ minGo (xs.drop k) y = minN xs) (fun _ i => xs.length - (intOf i).toNat)
  case atStart => exact ⟨0, _, Nat.zero_le _, by decide, rfl, rfl, rfl⟩
  case round =>
    obtain ⟨k, y, hk, hy, rfl, rfl, hr⟩ := hrel
    by_cases hlt : k < xs.length
    · have S := minGo_step xs k y hlt
      rw [S] at hr
      have hb := HL.out xs[k] (List.getElem_mem hlt)
      have hc := HC.out k hlt
      clear S
      generalize hq : xs[k] = q at *
      clear hq
      cases hnan : nanB q
      · have c0 := cls_zero q
        rw [hnan] at c0
        rw [hnan, if_neg (by simp)] at hr
        cases hd : decide (cmpN q y < 0)
        all_goals
          rw [hd] at hr
          have HR := Lib.hid hr
          clear hr hnan
          go_wp2_with (first | (go_at_call 46; refine (class_any q _ hb).mono ?_; rintro e w' ⟨rfl, rfl⟩) | (go_at_call 47; refine (cmp_any q y _ hb hy).mono ?_; rintro e w' ⟨rfl, rfl⟩))
          go_round
          case rel => exact ⟨k + 1, _, by omega, by assumption, by go_num, rfl, HR.out⟩
          case measure => simp [intOf]; omega
      · have c0 := cls_zero q
        rw [hnan] at c0
        rw [hnan, if_pos rfl] at hr
        have HR := Lib.hid hr
        clear hr hnan
        go_wp2_with (first | (go_at_call 46; refine (class_any q _ hb).mono ?_; rintro e w' ⟨rfl, rfl⟩) | (go_at_call 12; refine (nan_any _).mono ?_; rintro e w' ⟨rfl, rfl⟩))
        go_ret
        exact ⟨ret_float HR.out, rfl⟩
    · have HR : Hid (y = minN xs) := by rw [List.drop_of_length_le (by omega)] at hr; exact hr
      clear hr
      go_wp2
      go_ret
      exact ⟨ret_float HR.out, rfl⟩

set_option maxHeartbeats 1000000 in
theorem max_any (xs : List Nat) (b off cap : Nat) (w : World) (hx : Floats w b off xs) (hn : xs.length ≤ 100) :
    Calls Try.prog 35 #[.slice (some ⟨b, off, none⟩) xs.length cap] w fun e w' => e = .returned (.float .f64 (maxN xs)) ∧ w = w' := by
  obtain ⟨hlt, hcell⟩ := hx
  have HL := Lib.hid hlt
  have HC := Lib.hid hcell
  clear hlt hcell
  go_enter Try.func35, Try.ntmps35
  go_wp2_with (go_at_call 13; refine (inf_neg _).mono ?_; rintro e w' ⟨rfl, rfl⟩)
  go_loop [3, 9] (fun m i => ∃ k y : Nat, k ≤ xs.length ∧ y < 18446744073709551616 ∧ i = .int .i64 k ∧ m = .float .f64 y ∧ maxGo (xs.drop k) y = maxN xs) (fun _ i => xs.length - (intOf i).toNat)
  case atStart => exact ⟨0, _, Nat.zero_le _, by decide, rfl, rfl, rfl⟩
  case round =>
    obtain ⟨k, y, hk, hy, rfl, rfl, hr⟩ := hrel
    by_cases hlt : k < xs.length
    · have S := maxGo_step xs k y hlt
      rw [S] at hr
      have hb := HL.out xs[k] (List.getElem_mem hlt)
      have hc := HC.out k hlt
      clear S
      generalize hq : xs[k] = q at *
      clear hq
      cases hnan : nanB q
      · have c0 := cls_zero q
        rw [hnan] at c0
        rw [hnan, if_neg (by simp)] at hr
        cases hd : decide (0 < cmpN q y)
        all_goals
          rw [hd] at hr
          have HR := Lib.hid hr
          clear hr hnan
          go_wp2_with (first | (go_at_call 46; refine (class_any q _ hb).mono ?_; rintro e w' ⟨rfl, rfl⟩) | (go_at_call 47; refine (cmp_any q y _ hb hy).mono ?_; rintro e w' ⟨rfl, rfl⟩))
          go_round
          case rel => exact ⟨k + 1, _, by omega, by assumption, by go_num, rfl, HR.out⟩
          case measure => simp [intOf]; omega
      · have c0 := cls_zero q
        rw [hnan] at c0
        rw [hnan, if_pos rfl] at hr
        have HR := Lib.hid hr
        clear hr hnan
        go_wp2_with (first | (go_at_call 46; refine (class_any q _ hb).mono ?_; rintro e w' ⟨rfl, rfl⟩) | (go_at_call 12; refine (nan_any _).mono ?_; rintro e w' ⟨rfl, rfl⟩))
        go_ret
        exact ⟨ret_float HR.out, rfl⟩
    · have HR : Hid (y = maxN xs) := by rw [List.drop_of_length_le (by omega)] at hr; exact hr
      clear hr
      go_wp2
      go_ret
      exact ⟨ret_float HR.out, rfl⟩


set_option maxHeartbeats 1000000 in
theorem min_none (a : Option Addr) (cap : Nat) (w : World) :
    Calls Try.prog 34 #[.slice a 0 cap] w fun e w' => e = .returned (.float .f64 (minN [])) ∧ w = w' := by
  go_enter Try.func34, Try.ntmps34
  go_wp2_with (go_at_call 13; refine (inf_pos _).mono ?_; rintro e w' ⟨rfl, rfl⟩)
  refine wp_loop_rounds 1 ?_
  rw [rounds_succ]
  go_wp2
  go_ret
  exact ⟨rfl, rfl⟩

set_option maxHeartbeats 1000000 in
theorem max_none (a : Option Addr) (cap : Nat) (w : World) :
    Calls Try.prog 35 #[.slice a 0 cap] w fun e w' => e = .returned (.float .f64 (maxN [])) ∧ w = w' := by
  go_enter Try.func35, Try.ntmps35
  go_wp2_with (go_at_call 13; refine (inf_neg _).mono ?_; rintro e w' ⟨rfl, rfl⟩)
  refine wp_loop_rounds 1 ?_
  rw [rounds_succ]
  go_wp2
  go_ret
  exact ⟨rfl, rfl⟩

theorem cmp_neg (a b : Nat) : decide (cmpN a b < 0) = decide (keyN a < keyN b) := by
  unfold cmpN
  rcases Nat.lt_trichotomy (keyN a) (keyN b) with h | h | h
  · rw [if_pos h]; simp [h]
  · rw [if_neg (by omega), if_neg (by omega)]; simp [h]
  · rw [if_neg (by omega), if_pos h]; simp; omega
theorem cmp_pos (a b : Nat) : decide (0 < cmpN a b) = decide (keyN b < keyN a) := by
  unfold cmpN
  rcases Nat.lt_trichotomy (keyN a) (keyN b) with h | h | h
  · rw [if_pos h]; simp; omega
  · rw [if_neg (by omega), if_neg (by omega)]; simp [h]
  · rw [if_neg (by omega), if_pos h]; simp; omega

theorem minGo_nan : ∀ (xs : List Nat) (m : Nat), (∃ x ∈ xs, nanB x = true) → minGo xs m = nanW
  | [], _, h => by simp at h
  | x :: r, m, h => by
    unfold minGo
    by_cases hx : nanB x = true
    · rw [if_pos hx]
    · rw [if_neg hx]
      apply minGo_nan
      obtain ⟨y, hy, hn⟩ := h
      rcases List.mem_cons.1 hy with rfl | hy
      · contradiction
      · exact ⟨y, hy, hn⟩
theorem maxGo_nan : ∀ (xs : List Nat) (m : Nat), (∃ x ∈ xs, nanB x = true) → maxGo xs m = nanW
  | [], _, h => by simp at h
  | x :: r, m, h => by
    unfold maxGo
    by_cases hx : nanB x = true
    · rw [if_pos hx]
    · rw [if_neg hx]
      apply maxGo_nan
      obtain ⟨y, hy, hn⟩ := h
      rcases List.mem_cons.1 hy with rfl | hy
      · contradiction
      · exact ⟨y, hy, hn⟩
theorem minGo_ok : ∀ (xs : List Nat) (m : Nat), (∀ x ∈ xs, nanB x = false) → keyN (minGo xs m) ≤ keyN m ∧ (∀ x ∈ xs, keyN (minGo xs m) ≤ keyN x) ∧ (minGo xs m = m ∨ minGo xs m ∈ xs)
  | [], m, _ => by simp [minGo]
  | x :: r, m, h => by
    have hx : nanB x = false := h x (by simp)
    have e : minGo (x :: r) m = minGo r (if decide (cmpN x m < 0) then x else m) := by simp [minGo, hx]
    rw [e]
    obtain ⟨h1, h2, h3⟩ := minGo_ok r (if decide (cmpN x m < 0) then x else m) (fun y hy => h y (by simp [hy]))
    rw [cmp_neg] at h1 h2 h3 ⊢
    by_cases hl : keyN x < keyN m
    · simp only [hl, decide_true, if_true] at h1 h2 h3 ⊢
      exact ⟨by omega, fun y hy => (List.mem_cons.1 hy).elim (fun e => e ▸ h1) (h2 y), Or.inr (h3.elim (fun e => by rw [e]; simp) (fun q => by simp [q]))⟩
    · simp only [hl, decide_false, if_false, Bool.false_eq_true] at h1 h2 h3 ⊢
      exact ⟨h1, fun y hy => (List.mem_cons.1 hy).elim (fun e => e ▸ by omega) (h2 y), h3.elim Or.inl (fun q => Or.inr (by simp [q]))⟩
theorem maxGo_ok : ∀ (xs : List Nat) (m : Nat), (∀ x ∈ xs, nanB x = false) → keyN m ≤ keyN (maxGo xs m) ∧ (∀ x ∈ xs, keyN x ≤ keyN (maxGo xs m)) ∧ (maxGo xs m = m ∨ maxGo xs m ∈ xs)
  | [], m, _ => by simp [maxGo]
  | x :: r, m, h => by
    have hx : nanB x = false := h x (by simp)
    have e : maxGo (x :: r) m = maxGo r (if decide (0 < cmpN x m) then x else m) := by simp [maxGo, hx]
    rw [e]
    obtain ⟨h1, h2, h3⟩ := maxGo_ok r (if decide (0 < cmpN x m) then x else m) (fun y hy => h y (by simp [hy]))
    rw [cmp_pos] at h1 h2 h3 ⊢
    by_cases hl : keyN m < keyN x
    · simp only [hl, decide_true, if_true] at h1 h2 h3 ⊢
      exact ⟨by omega, fun y hy => (List.mem_cons.1 hy).elim (fun e => e ▸ h1) (h2 y), Or.inr (h3.elim (fun e => by rw [e]; simp) (fun q => by simp [q]))⟩
    · simp only [hl, decide_false, if_false, Bool.false_eq_true] at h1 h2 h3 ⊢
      exact ⟨h1, fun y hy => (List.mem_cons.1 hy).elim (fun e => e ▸ by omega) (h2 y), h3.elim Or.inl (fun q => Or.inr (by simp [q]))⟩

theorem key_span (b : Nat) (h : b < 18446744073709551616) (hn : nanB b = false) : keyN 18442240474082181120 ≤ keyN b ∧ keyN b ≤ keyN 9218868437227405312 := by
  have e1 : keyN 18442240474082181120 = 4503599627370495 := by decide +kernel
  have e2 : keyN 9218868437227405312 = 18442240474082181120 := by decide +kernel
  rw [e1, e2]
  have h2 : Fl.rung b ≤ 9218868437227405312 := by
    unfold nanB Fl.isNan at hn
    have := of_decide_eq_false hn
    omega
  unfold keyN sgnB
  unfold Fl.rung at h2
  rw [hn]
  by_cases h1 : 9223372036854775808 ≤ b <;> simp only [h1, decide_true, decide_false, if_true, if_false, Bool.false_eq_true] <;> omega

theorem min_lt (xs : List Nat) (hl : ∀ x ∈ xs, x < 18446744073709551616) : minN xs < 18446744073709551616 := by
  have go : ∀ (ys : List Nat) (m : Nat), (∀ x ∈ ys, x < 18446744073709551616) → m < 18446744073709551616 → minGo ys m < 18446744073709551616 := by
    intro ys
    induction ys with
    | nil => intro m _ h; exact h
    | cons x r ih =>
      intro m h hm
      unfold minGo
      split
      · decide
      · apply ih _ (fun y hy => h y (by simp [hy]))
        split
        · exact h x (by simp)
        · exact hm
  exact go xs _ hl (by decide)
theorem max_lt (xs : List Nat) (hl : ∀ x ∈ xs, x < 18446744073709551616) : maxN xs < 18446744073709551616 := by
  have go : ∀ (ys : List Nat) (m : Nat), (∀ x ∈ ys, x < 18446744073709551616) → m < 18446744073709551616 → maxGo ys m < 18446744073709551616 := by
    intro ys
    induction ys with
    | nil => intro m _ h; exact h
    | cons x r ih =>
      intro m h hm
      unfold maxGo
      split
      · decide
      · apply ih _ (fun y hy => h y (by simp [hy]))
        split
        · exact h x (by simp)
        · exact hm
  exact go xs _ hl (by decide)

end Go.Proofs.Ytlbbbabieepabaa
