import Derived.Test.YtopnagjbdjicaaaMag
import Derived.Test.YtopnagjbdjicaaaMad
import Derived.Laws.Bits128

/-
  How many are in a set.
-/
namespace Go.Proofs.Ytopnagjbdjicaaa
open Go.RowKit

theorem and_word {a : Nat} (m : Nat) (h : a < 18446744073709551616) (hm : m < 18446744073709551616) : ∃ c : Nat, bits .and .u64 (a : Int) (m : Int) = (c : Int) ∧ c = a &&& m ∧ c ≤ m := ⟨a &&& m, u64_and_nat a m h hm, rfl, Nat.and_le_right⟩
theorem sum_ones {a b : Nat} (h : a + b < 18446744073709551616) : IntKind.u64.wrap ((a : Int) + (b : Int)) = ((a + b : Nat) : Int) := by
  rw [IntKind.wrap_u64]; omega
theorem div_cast (a b : Nat) : (a : Int) / (b : Int) = ((a / b : Nat) : Int) := (Int.natCast_ediv a b).symm

/-- All steps of the library's count. -/
structure Ones (x : Nat) (a1 a2 x1 a3 a4 x2 y x3 a b c : Nat) : Prop where
  e1 : bits .and .u64 ((x : Int) / 2) 6148914691236517205 = (a1 : Int)
  e2 : bits .and .u64 (x : Int) 6148914691236517205 = (a2 : Int)
  e3 : IntKind.u64.wrap ((a1 : Int) + (a2 : Int)) = (x1 : Int)
  e4 : bits .and .u64 ((x1 : Int) / 4) 3689348814741910323 = (a3 : Int)
  e5 : bits .and .u64 (x1 : Int) 3689348814741910323 = (a4 : Int)
  e6 : IntKind.u64.wrap ((a3 : Int) + (a4 : Int)) = (x2 : Int)
  e7 : IntKind.u64.wrap ((x2 : Int) / 16 + (x2 : Int)) = (y : Int)
  e8 : bits .and .u64 (y : Int) 1085102592571150095 = (x3 : Int)
  e9 : IntKind.u64.wrap ((x3 : Int) + (x3 : Int) / 256) = (a : Int)
  e10 : IntKind.u64.wrap ((a : Int) + (a : Int) / 65536) = (b : Int)
  e11 : IntKind.u64.wrap ((b : Int) + (b : Int) / 4294967296) = (c : Int)
  e12 : c % 128 = cntN x
  e13 : c < 9223372036854775808

theorem ones_of {x : Nat} (hx : x < 18446744073709551616) : ∃ a1 a2 x1 a3 a4 x2 y x3 a b c, Ones x a1 a2 x1 a3 a4 x2 y x3 a b c := by
  obtain ⟨hp, hs⟩ := pop_word hx
  obtain ⟨a, b, c, h1, h2, h3, l1, l2, l3, hc, lx⟩ := fold_sum x
  rw [← hp] at h1 lx
  unfold fou4 two2 one1 at h1 lx
  rw [rep_85, rep_51, rep_15] at h1 lx
  rw [hs] at hc
  obtain ⟨a1, g1, q1, m1⟩ := and_word (a := x / 2) 6148914691236517205 (by omega) (by decide)
  obtain ⟨a2, g2, q2, m2⟩ := and_word (a := x) 6148914691236517205 hx (by decide)
  rw [← q1, ← q2] at h1 lx
  obtain ⟨a3, g3, q3, m3⟩ := and_word (a := (a1 + a2) / 4) 3689348814741910323 (by omega) (by decide)
  obtain ⟨a4, g4, q4, m4⟩ := and_word (a := a1 + a2) 3689348814741910323 (by omega) (by decide)
  rw [← q3, ← q4] at h1 lx
  obtain ⟨x3, g5, q5, m5⟩ := and_word (a := (a3 + a4) / 16 + (a3 + a4)) 1085102592571150095 (by omega) (by decide)
  rw [← q5] at h1 lx
  refine ⟨a1, a2, a1 + a2, a3, a4, a3 + a4, (a3 + a4) / 16 + (a3 + a4), x3, a, b, c, ?_⟩
  exact {
    e1 := by rw [← g1]; rfl
    e2 := g2
    e3 := sum_ones (by omega)
    e4 := by rw [← g3]; rfl
    e5 := g4
    e6 := sum_ones (by omega)
    e7 := by have := sum_ones (a := (a3 + a4) / 16) (b := a3 + a4) (by omega); rw [← this]; rfl
    e8 := g5
    e9 := by have := sum_ones (a := x3) (b := x3 / 256) (by omega); rw [← h1, ← this]; rfl
    e10 := by have := sum_ones (a := a) (b := a / 65536) (by omega); rw [← h2, ← this]; rfl
    e11 := by have := sum_ones (a := b) (b := b / 4294967296) (by omega); rw [← h3, ← this]; rfl
    e12 := hc
    e13 := l3 }

set_option maxRecDepth 20000 in
set_option maxHeartbeats 2000000 in
theorem ones_any (x : Nat) (W : World) (hx : x < 18446744073709551616) :
    Calls Try.prog 64 #[.int .u64 (x : Nat)] W fun e w' => e = .returned (.int .i64 (cntN x : Nat)) ∧ W = w' := by
  obtain ⟨a1, a2, x1, a3, a4, x2, y, x3, a, b, c, O⟩ := ones_of hx
  have e1 := O.e1
  have e2 := O.e2
  have e3 := O.e3
  have e4 := O.e4
  have e5 := O.e5
  have e6 := O.e6
  have e7 := O.e7
  have e8 := O.e8
  have e9 := O.e9
  have e10 := O.e10
  have e11 := O.e11
  have E := Lib.hid O
  clear O
  go_enter Try.func64, Try.ntmps64
  have g1 : wrap64 (c : Int) = (c : Int) := by have := E.out.e13; unfold wrap64; omega
  have g2 := i64_and127 (c : Int)
  rw [show (c : Int) % 128 = ((cntN x : Nat) : Int) by rw [← E.out.e12]; rfl] at g2
  go_wp2_with fail
  go_ret
  exact ⟨rfl, rfl⟩

theorem cntN_le (s : Nat) : cntN s ≤ 64 := toN_len s 64

set_option maxRecDepth 20000 in
set_option maxHeartbeats 2000000 in
theorem count_any (x : Nat) (W : World) (hx : x < 18446744073709551616) :
    Calls Try.prog 37 #[.int .u64 (x : Nat)] W fun e w' => e = .returned (.int .i64 (cntN x : Nat)) ∧ W = w' := by
  go_enter Try.func37, Try.ntmps37
  go_wp2_with fail
  refine (ones_any x W hx).mono ?_
  rintro e w' ⟨rfl, rfl⟩
  go_wp2_with fail
  go_ret
  exact ⟨rfl, rfl⟩

end Go.Proofs.Ytopnagjbdjicaaa
