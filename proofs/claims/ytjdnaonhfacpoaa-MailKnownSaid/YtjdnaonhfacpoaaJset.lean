/-
  Floats that are one; sets: has, all, in.
-/
import Derived.Test.YtjdnaonhfacpoaaPof
namespace Go.Proofs.Ytjdnaonhfacpoaa
open Go.RowKit

set_option maxHeartbeats 400000 in
theorem cmp_any (a b : Nat) (w : World) (ha : a < 18446744073709551616) (hb : b < 18446744073709551616) :
    Calls Try.prog 72 #[.float .f64 a, .float .f64 b] w fun e w' => e = .returned (.int .i64 (cmpN a b)) ∧ w = w' := by
  rcases Nat.lt_trichotomy (keyN a) (keyN b) with h | h | h
  · have H : cmpN a b = -1 := by unfold cmpN; rw [if_pos h]
    rw [H]
    go_enter Try.func72, Try.ntmps72
    go_wp2_with (first | (go_at_call 51; (with_reducible refine (key_any a _ ha).mono ?_); rintro e w' ⟨rfl, rfl⟩) | (go_at_call 51; (with_reducible refine (key_any b _ hb).mono ?_); rintro e w' ⟨rfl, rfl⟩))
    go_ret
    exact ⟨rfl, rfl⟩
  · have H : cmpN a b = 0 := by unfold cmpN; rw [if_neg (by omega), if_neg (by omega)]
    rw [H]
    have h1 : ¬ keyN a < keyN b := by omega
    have h2 : ¬ keyN b < keyN a := by omega
    go_enter Try.func72, Try.ntmps72
    go_wp2_with (first | (go_at_call 51; (with_reducible refine (key_any a _ ha).mono ?_); rintro e w' ⟨rfl, rfl⟩) | (go_at_call 51; (with_reducible refine (key_any b _ hb).mono ?_); rintro e w' ⟨rfl, rfl⟩))
    go_ret
    exact ⟨rfl, rfl⟩
  · have H : cmpN a b = 1 := by unfold cmpN; rw [if_neg (by omega), if_pos h]
    rw [H]
    have h1 : ¬ keyN a < keyN b := by omega
    go_enter Try.func72, Try.ntmps72
    go_wp2_with (first | (go_at_call 51; (with_reducible refine (key_any a _ ha).mono ?_); rintro e w' ⟨rfl, rfl⟩) | (go_at_call 51; (with_reducible refine (key_any b _ hb).mono ?_); rintro e w' ⟨rfl, rfl⟩))
    go_ret
    exact ⟨rfl, rfl⟩

set_option maxHeartbeats 400000 in
theorem same_any (a b : Nat) (w : World) (ha : a < 18446744073709551616) (hb : b < 18446744073709551616) :
    Calls Try.prog 65 #[.float .f64 a, .float .f64 b] w fun e w' => e = .returned (.bool (sameN a b)) ∧ w = w' := by
  go_enter Try.func65, Try.ntmps65
  go_wp2_with (go_at_call 72; refine (cmp_any a b _ ha hb).mono ?_; rintro e w' ⟨rfl, rfl⟩)
  go_ret
  exact ⟨ret_bool (cmp_zero a b), rfl⟩

theorem same_is {a b : Nat} {r : Bool} (w : World) (ha : a < 18446744073709551616) (hb : b < 18446744073709551616) (h : sameN a b = r) :
    Calls Try.prog 65 #[.float .f64 a, .float .f64 b] w fun e w' => e = .returned (.bool r) ∧ w = w' := by
  subst h; exact same_any a b w ha hb

/-! Sets. -/
theorem ne_word (d : Nat) : ((d : Int) != 0) = decide (d ≠ 0) := by by_cases h : d = 0 <;> simp [h]
theorem below_alloc {w w' : World} (h : Below w.heap.size w w') (o : Obj) : Below w.heap.size w (w'.alloc o) := h.alloc h.size o
theorem drew_below (w : World) : Below w.heap.size w w.drew := ⟨rfl, rfl, rfl, Nat.le_refl _, fun _ _ => rfl⟩

theorem and_pow (s p : Nat) : s &&& 2 ^ p = if s.testBit p then 2 ^ p else 0 := by
  refine Nat.eq_of_testBit_eq fun i => ?_
  rw [Nat.testBit_and, Nat.testBit_two_pow]
  by_cases h : p = i
  · subst h
    cases hb : s.testBit p <;> simp
  · cases hb : s.testBit p
    · simp [h]
    · rw [if_pos rfl, Nat.testBit_two_pow]
      simp [h]
theorem and_pow_ne (s p : Nat) : (s &&& 2 ^ p ≠ 0) = (s.testBit p = true) := by
  rw [and_pow]
  have : 0 < 2 ^ p := Nat.pow_pos (by decide)
  cases hb : s.testBit p
  · simp
  · simp

set_option maxRecDepth 20000 in
set_option maxHeartbeats 2000000 in
theorem has_any (s p : Nat) (W : World) (hs : s < 18446744073709551616) (hp : p < 64) :
    Calls Try.prog 46 #[.int .u64 (s : Nat), .int .i64 (p : Nat)] W fun e w' => e = .returned (.bool (s.testBit p)) ∧ Below W.heap.size W w' := by
  have e1 := u64_and_nat s (2 ^ p) hs (pow_lt hp)
  have R := Lib.hid (and_pow_ne s p)
  have S := Lib.hid (sl_lit lenV 64 W [p] #[.int .i64 (p : Nat)] 3 (0, 0) 1 rfl rfl (by simpa using hp) (by unfold maxLen; omega))
  have O := Lib.hid (show ofL [p] = 2 ^ p by simp [ofL])
  clear hp
  go_enter Try.func46, Try.ntmps46
  go_wp2_with fail
  refine (dof_any [p] _ 1 1 (2 ^ p) _ S.out rfl O.out).mono ?_
  rintro e w' ⟨rfl, rfl⟩
  generalize s &&& 2 ^ p = d at *
  generalize 2 ^ p = g at *
  have R2 : ((d : Int) != 0) = s.testBit p := by rw [ne_word]; simp only [R.out, Bool.decide_eq_true]
  go_wp2_with fail
  go_ret
  exact ⟨by rw [← R2]; rfl, below_alloc (Below.refl _ _) _⟩

theorem has_is {s p : Nat} {z : Int} {r : Bool} {W : World} (hs : s < 18446744073709551616) (hz : (p : Int) = z) (hp : p < 64) (h : s.testBit p = r) :
    Calls Try.prog 46 #[.int .u64 (s : Nat), .int .i64 z] W fun e w' => e = .returned (.bool r) ∧ Below W.heap.size W w' := by
  subst h hz; exact has_any s p W hs hp

set_option maxRecDepth 20000 in
set_option maxHeartbeats 2000000 in
theorem all16 (W : World) : Calls Try.prog 63 #[.int .i64 16] W fun e w' => e = .returned (.int .u64 65535) ∧ W = w' := by
  go_enter Try.func63, Try.ntmps63
  have e : IntKind.u64.wrap (IntKind.u64.wrap (2 ^ 16) - 1) = 65535 := by decide
  go_wp2_with fail
  go_ret
  exact ⟨rfl, rfl⟩

set_option maxHeartbeats 2000000 in
theorem procs_any (W : World) : Calls Try.prog 45 #[] W fun e w' => e = .returned (.int .u64 65535) ∧ W = w' := by
  go_enter Try.func45, Try.ntmps45
  go_wp2_with fail
  refine (all16 _).mono ?_
  rintro e w' ⟨rfl, rfl⟩
  go_wp2_with fail
  go_ret
  exact ⟨rfl, rfl⟩

theorem two_cast (k : Nat) : (2 : Int) ^ k = ((2 ^ k : Nat) : Int) := by simp
theorem bit_at {s p : Nat} (hs : s < 18446744073709551616) : (bits .and .u64 ((s : Int) / 2 ^ p) 1 == 1) = s.testBit p := by
  rw [two_cast, ← Int.natCast_ediv, Nat.testBit_eq_decide_div_mod_eq]
  have hd : s / 2 ^ p < 18446744073709551616 := Nat.lt_of_le_of_lt (Nat.div_le_self _ _) hs
  generalize s / 2 ^ p = d at *
  have e := u64_and_nat d 1 hd (by decide)
  rw [show ((1 : Nat) : Int) = 1 from rfl, Nat.and_one_is_mod] at e
  rw [e]
  by_cases h : d % 2 = 1
  · simp [h]
  · have : d % 2 = 0 := by omega
    simp [this]

set_option maxRecDepth 20000 in
set_option maxHeartbeats 2000000 in
theorem in_any (s p : Nat) (W : World) (hs : s < 18446744073709551616) (hp : p < 64) :
    Calls Try.prog 42 #[.int .u64 (s : Nat), .int .i64 (p : Nat)] W fun e w' => e = .returned (.bool (s.testBit p)) ∧ W = w' := by
  have e := Lib.hid (bit_at (p := p) hs)
  go_enter Try.func42, Try.ntmps42
  go_wp2_with fail
  go_ret
  exact ⟨by rw [← e.out]; rfl, rfl⟩

theorem in_is {s p : Nat} {z : Int} {r : Bool} {W : World} (hs : s < 18446744073709551616) (hz : (p : Int) = z) (hp : p < 64) (h : s.testBit p = r) :
    Calls Try.prog 42 #[.int .u64 (s : Nat), .int .i64 z] W fun e w' => e = .returned (.bool r) ∧ W = w' := by
  subst h hz; exact in_any s p W hs hp

end Go.Proofs.Ytjdnaonhfacpoaa
