/-
  The closed statement: what the chapter says of single numbers, keys and texts.
-/
import Derived.Test.YtfpfgimgnmhnaaaDoorPar2
import Derived.Test.YtfpfgimgnmhnaaaDoorLaws3
namespace Go.Proofs.YtfpfgimgnmhnaaaDoor
open Go.RowKit

theorem parse_to (s : ByteArray) (o : Option Nat) (h : parO s.toList = o) (w : World) (ht : Tab w) (hy : Syn w) :
    Calls Tryd.prog 15 #[.string s] w fun e w' => e = .returned (.tuple #[.float .f64 (o.getD 0), .bool o.isSome]) ∧ Below w.heap.size w w' :=
  (parse_any s w ht hy).mono fun e w' ⟨he, hb⟩ => ⟨by unfold Pout at he; rw [h] at he; exact he, hb⟩

theorem show_nan (b : Nat) (h : nanB b = true) (hb : b < 18446744073709551616) (w : World) (ht : Tab w) :
    Calls Tryd.prog 21 #[.float .f64 b] w fun e w' => e = .returned (.string ⟨#[110, 97, 110]⟩) ∧ Below w.heap.size w w' :=
  (show_any b w ht hb).mono fun e w' ⟨he, hb⟩ => ⟨he.trans (ret_str (by unfold showL; rw [h]; rfl)), hb⟩

theorem class_to (b : Nat) (c : Int) (h : cls b = c) (hb : b < 18446744073709551616) (w : World) :
    Calls Tryd.prog 16 #[.float .f64 b] w fun e w' => e = .returned (.int .i64 c) ∧ w = w' :=
  h ▸ class_any b w hb
theorem key_to (b k : Nat) (h : keyN b = k) (hb : b < 18446744073709551616) (w : World) :
    Calls Tryd.prog 19 #[.float .f64 b] w fun e w' => e = .returned (.int .u64 (k : Int)) ∧ w = w' :=
  h ▸ key_any b w hb
theorem of_to (n f : Nat) (b : Bool) (h1 : ofF n = f) (h2 : ofB n = b) (hn : n < 18446744073709551616) (w : World) :
    Calls Tryd.prog 14 #[.int .u64 n] w fun e w' => e = .returned (.tuple #[.float .f64 f, .bool b]) ∧ w = w' :=
  h1 ▸ h2 ▸ of_any n w hn
theorem copy_to (a b c : Nat) (h : copyN a b = c) (ha : a < 18446744073709551616) (hb : b < 18446744073709551616) (w : World) :
    Calls Tryd.prog 17 #[.float .f64 a, .float .f64 b] w fun e w' => e = .returned (.float .f64 c) ∧ w = w' :=
  h ▸ copysign_any a b w ha hb
theorem same_to (a b : Nat) (r : Bool) (h : sameN a b = r) (ha : a < 18446744073709551616) (hb : b < 18446744073709551616) (w : World) :
    Calls Tryd.prog 18 #[.float .f64 a, .float .f64 b] w fun e w' => e = .returned (.bool r) ∧ w = w' :=
  h ▸ same_any a b w ha hb
theorem cmp_lit (a b : Nat) (r : Int) (h : cmpN a b = r) (ha : a < 18446744073709551616) (hb : b < 18446744073709551616) (w : World) :
    Calls Tryd.prog 20 #[.float .f64 a, .float .f64 b] w fun e w' => e = .returned (.int .i64 r) ∧ w = w' :=
  h ▸ cmp_any a b w ha hb
theorem nan_to (w : World) : Calls Tryd.prog 11 #[] w fun e w' => e = .returned (.float .f64 9221120237041090561) ∧ w = w' := nan_any w

theorem pair_floats (w : World) (a b : Nat) (ha : a < 18446744073709551616) (hb : b < 18446744073709551616) (fr : Nat × Nat) : Floats (w.alloc (.cells #[.float .f64 a, .float .f64 b] 23 fr)) w.heap.size 0 [a, b] :=
  ⟨by intro x hx; simp at hx; rcases hx with rfl | rfl <;> assumption, fun i hi => by
    rw [World.cell?_alloc_mark]
    rcases i with _ | _ | i
    · rfl
    · rfl
    · simp at hi; omega⟩
theorem min_pair (a b m : Nat) (h : minN [a, b] = m) (ha : a < 18446744073709551616) (hb : b < 18446744073709551616) (fr : Nat × Nat) (cap n : Nat) (w : World) (hn : n = w.heap.size) :
    Calls Tryd.prog 22 #[.slice (some ⟨n, 0, none⟩) 2 cap] (w.alloc (.cells #[.float .f64 a, .float .f64 b] 23 fr)) fun e w' => e = .returned (.float .f64 m) ∧ (w.alloc (.cells #[.float .f64 a, .float .f64 b] 23 fr)) = w' :=
  hn ▸ h ▸ min_any [a, b] w.heap.size 0 cap _ (pair_floats w a b ha hb fr) (by simp)
theorem max_pair (a b m : Nat) (h : maxN [a, b] = m) (ha : a < 18446744073709551616) (hb : b < 18446744073709551616) (fr : Nat × Nat) (cap n : Nat) (w : World) (hn : n = w.heap.size) :
    Calls Tryd.prog 23 #[.slice (some ⟨n, 0, none⟩) 2 cap] (w.alloc (.cells #[.float .f64 a, .float .f64 b] 23 fr)) fun e w' => e = .returned (.float .f64 m) ∧ (w.alloc (.cells #[.float .f64 a, .float .f64 b] 23 fr)) = w' :=
  hn ▸ h ▸ max_any [a, b] w.heap.size 0 cap _ (pair_floats w a b ha hb fr) (by simp)

set_option maxRecDepth 100000 in
set_option maxHeartbeats 8000000 in
theorem law_FloKnown (w : World) (ht : Tab w) (hy : Syn w) :
    Calls Tryd.prog 3 #[] w fun e w' => e = .returned (.bool true) ∧ Below w.heap.size w w' := by
  have hn := f64frombits_run
  have hg := negf_run
  have hz : (9218868437227405312 ^^^ 9223372036854775808 : Nat) = 18442240474082181120 := by decide
  go_enter Tryd.func3, Tryd.ntmps3
  go_wp2_with fail
  refine (awake_any _ ht).mono ?_
  rintro e w1 ⟨rfl, hb1⟩
  go_wp2_with fail
  refine (nan_to _).mono ?_
  rintro e w' ⟨rfl, rfl⟩
  go_wp2_with fail
  refine (inf_pos _).mono ?_
  rintro e w' ⟨rfl, rfl⟩
  go_wp2_with fail
  refine (of_to 18446744073709551615 9221120237041090561 true (by decide +kernel) (by decide +kernel) (by decide) _).mono ?_
  rintro e w' ⟨rfl, rfl⟩
  go_wp2_with fail
  refine (of_to 0 0 false (by decide +kernel) (by decide +kernel) (by decide) _).mono ?_
  rintro e w' ⟨rfl, rfl⟩
  go_wp2_with fail
  refine (parse_to _ (some 18442240474082181120) (by decide +kernel) _ (ht.below hb1) (hy.below hb1)).mono ?_
  rintro e w2 ⟨rfl, hb2⟩
  have hb2 := hb1.trans (hb2.mono hb1.size)
  go_wp2_with fail
  refine (parse_to _ none (by decide +kernel) _ (ht.below hb2) (hy.below hb2)).mono ?_
  rintro e w3 ⟨rfl, hb3⟩
  have hb3 := hb2.trans (hb3.mono hb2.size)
  go_wp2_with fail
  refine (parse_to _ none (by decide +kernel) _ (ht.below hb3) (hy.below hb3)).mono ?_
  rintro e w4 ⟨rfl, hb4⟩
  have hb4 := hb3.trans (hb4.mono hb3.size)
  go_wp2_with fail
  refine (parse_to _ none (by decide +kernel) _ (ht.below hb4) (hy.below hb4)).mono ?_
  rintro e w5 ⟨rfl, hb5⟩
  have hb5 := hb4.trans (hb5.mono hb4.size)
  go_wp2_with fail
  refine (parse_to _ (some 9223372036854775808) (by decide +kernel) _ (ht.below hb5) (hy.below hb5)).mono ?_
  rintro e w6 ⟨rfl, hb6⟩
  have hb6 := hb5.trans (hb6.mono hb5.size)
  clear hb1 hb2 hb3 hb4 hb5
  go_wp2_with fail
  refine (class_to 9221120237041090561 (0) (by decide +kernel) (by decide) _).mono ?_
  rintro e w' ⟨rfl, rfl⟩
  go_wp2_with fail
  refine (class_to 18442240474082181125 (0) (by decide +kernel) (by decide) _).mono ?_
  rintro e w' ⟨rfl, rfl⟩
  go_wp2_with fail
  refine (class_to 18442240474082181120 (1) (by decide +kernel) (by decide) _).mono ?_
  rintro e w' ⟨rfl, rfl⟩
  go_wp2_with fail
  refine (class_to 13830554455654793216 (2) (by decide +kernel) (by decide) _).mono ?_
  rintro e w' ⟨rfl, rfl⟩
  go_wp2_with fail
  refine (copy_to 0 13830554455654793216 9223372036854775808 (by decide +kernel) (by decide) (by decide) _).mono ?_
  rintro e w' ⟨rfl, rfl⟩
  go_wp2_with fail
  refine (class_to 9223372036854775808 (3) (by decide +kernel) (by decide) _).mono ?_
  rintro e w' ⟨rfl, rfl⟩
  go_wp2_with fail
  refine (class_to 0 (4) (by decide +kernel) (by decide) _).mono ?_
  rintro e w' ⟨rfl, rfl⟩
  go_wp2_with fail
  refine (class_to 9218868437227405312 (6) (by decide +kernel) (by decide) _).mono ?_
  rintro e w' ⟨rfl, rfl⟩
  go_wp2_with fail
  refine (class_to 1 (5) (by decide +kernel) (by decide) _).mono ?_
  rintro e w' ⟨rfl, rfl⟩
  go_wp2_with fail
  refine (same_to 9221120237041090561 18442240474082181125 true (by decide +kernel) (by decide) (by decide) _).mono ?_
  rintro e w' ⟨rfl, rfl⟩
  go_wp2_with fail
  refine (key_to 18442240474082181125 18446744073709551615 (by decide +kernel) (by decide) _).mono ?_
  rintro e w' ⟨rfl, rfl⟩
  go_wp2_with fail
  refine (cmp_lit 9221120237041090561 9218868437227405312 1 (by decide +kernel) (by decide) (by decide) _).mono ?_
  rintro e w' ⟨rfl, rfl⟩
  go_wp2_with fail
  refine (class_to 9221120237041090561 (0) (by decide +kernel) (by decide) _).mono ?_
  rintro e w' ⟨rfl, rfl⟩
  go_wp2_with fail
  refine (class_to 18442240474082181120 (1) (by decide +kernel) (by decide) _).mono ?_
  rintro e w' ⟨rfl, rfl⟩
  go_wp2_with fail
  refine (class_to 9223372036854775808 (3) (by decide +kernel) (by decide) _).mono ?_
  rintro e w' ⟨rfl, rfl⟩
  go_wp2_with fail
  refine (show_nan _ (by decide +kernel) (by decide) _ (ht.below hb6)).mono ?_
  rintro e w7 ⟨rfl, hb7⟩
  have hb7 := hb6.trans (hb7.mono hb6.size)
  clear hb6
  go_wp2_with fail
  refine (min_none _ _ _).mono ?_
  rintro e w' ⟨rfl, rfl⟩
  go_wp2_with fail
  refine (class_to (minN []) (6) (by decide +kernel) (by decide) _).mono ?_
  rintro e w' ⟨rfl, rfl⟩
  go_wp2_with fail
  refine (max_none _ _ _).mono ?_
  rintro e w' ⟨rfl, rfl⟩
  go_wp2_with fail
  refine (class_to (maxN []) (1) (by decide +kernel) (by decide) _).mono ?_
  rintro e w' ⟨rfl, rfl⟩
  go_wp2_with fail
  refine (min_pair 4607182418800017408 9221120237041090561 9221120237041090561 (by decide +kernel) (by decide) (by decide) _ _ _ _ (by simp)).mono ?_
  rintro e w' ⟨rfl, rfl⟩
  go_wp2_with fail
  refine (class_to 9221120237041090561 (0) (by decide +kernel) (by decide) _).mono ?_
  rintro e w' ⟨rfl, rfl⟩
  go_wp2_with fail
  refine (copy_to 0 13830554455654793216 9223372036854775808 (by decide +kernel) (by decide) (by decide) _).mono ?_
  rintro e w' ⟨rfl, rfl⟩
  go_wp2_with fail
  refine (max_pair 0 9223372036854775808 0 (by decide +kernel) (by decide) (by decide) _ _ _ _ (by simp)).mono ?_
  rintro e w' ⟨rfl, rfl⟩
  go_wp2_with fail
  refine (class_to 0 (4) (by decide +kernel) (by decide) _).mono ?_
  rintro e w' ⟨rfl, rfl⟩
  go_wp2_with fail
  refine (copy_to 0 13830554455654793216 9223372036854775808 (by decide +kernel) (by decide) (by decide) _).mono ?_
  rintro e w' ⟨rfl, rfl⟩
  go_wp2_with fail
  refine (min_pair 0 9223372036854775808 9223372036854775808 (by decide +kernel) (by decide) (by decide) _ _ _ _ (by simp)).mono ?_
  rintro e w' ⟨rfl, rfl⟩
  go_wp2_with fail
  refine (class_to 9223372036854775808 (3) (by decide +kernel) (by decide) _).mono ?_
  rintro e w' ⟨rfl, rfl⟩
  go_wp2_with fail
  refine (key_to 0 9223372036854775808 (by decide +kernel) (by decide) _).mono ?_
  rintro e w' ⟨rfl, rfl⟩
  go_wp2_with fail
  refine (copy_to 0 13830554455654793216 9223372036854775808 (by decide +kernel) (by decide) (by decide) _).mono ?_
  rintro e w' ⟨rfl, rfl⟩
  go_wp2_with fail
  refine (key_to 9223372036854775808 9223372036854775807 (by decide +kernel) (by decide) _).mono ?_
  rintro e w' ⟨rfl, rfl⟩
  go_wp2
  go_ret
  exact ⟨rfl, (((hb7.alloc hb7.size _).alloc (by have := hb7.size; simp; omega) _).alloc (by have := hb7.size; simp; omega) _)⟩

end Go.Proofs.YtfpfgimgnmhnaaaDoor
