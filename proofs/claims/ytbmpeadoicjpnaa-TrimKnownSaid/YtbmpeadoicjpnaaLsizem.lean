import Derived.Test.YtbmpeadoicjpnaaLnumm
import Derived.Lib.Hide

/-
  How many bytes a number takes: the walks.
-/
namespace Go.Proofs.Ytbmpeadoicjpnaa
open Go.RowKit

def tailN (m : Nat) : Nat := if m = 0 then 0 else szN m

theorem tail_step {m : Nat} (h : 0 < m) : tailN m = tailN (m / 128) + 1 := by
  unfold tailN
  rw [if_neg (by omega)]
  by_cases h1 : m < 128
  · rw [szN_lo h1, if_pos (by omega)]
  · rw [szN_hi h1, if_neg (by omega)]
theorem tail_head (n : Nat) : szN n = tailN (n / 128) + 1 := by
  by_cases h : n < 128
  · rw [szN_lo h]; unfold tailN; rw [if_pos (by omega)]
  · rw [szN_hi h]; unfold tailN; rw [if_neg (by omega)]

set_option maxHeartbeats 1000000 in
theorem size_any (n : Nat) (w : World) (hn : n < 18446744073709551616) : Calls Try.prog 88 #[.int .u64 (n : Nat)] w fun e w' => e = .returned (.int .i64 (szN n : Nat)) ∧ w = w' := by
  have h10 := Lib.hid (szN_word hn)
  go_enter Try.func88, Try.ntmps88
  go_wp2_with fail
  go_loop [0, 3] (fun v c => ∃ m s : Nat, m < 18446744073709551616 ∧ v = .int .u64 (m : Nat) ∧ c = .int .i64 (s : Nat) ∧ Hid (szN n = tailN m + s)) (fun v _ => (intOf v).toNat)
  case atStart => exact ⟨n / 128, 1, by omega, by go_num, rfl, tail_head n⟩
  case round =>
    obtain ⟨m, s, hm, rfl, rfl, hs⟩ := hrel
    have hs10 : s ≤ 10 := by have := hs.out; have := h10.out; omega
    by_cases h0 : 0 < m
    · have R := Lib.hid (show szN n = tailN (m / 128) + (s + 1) by rw [hs.out, tail_step h0]; omega)
      go_wp2_with fail
      go_round
      case rel => exact ⟨m / 128, s + 1, by omega, by go_num, by go_num, R⟩
      case measure => simp [intOf]; omega
    · have R := Lib.hid (show szN n = s by rw [hs.out]; unfold tailN; rw [if_pos (by omega)]; omega)
      go_wp2_with fail
      go_ret
      exact ⟨by rw [R.out]; rfl, rfl⟩

def shortN (n k : Nat) : Nat × Nat := if k = szN n then (n, k) else (0, 0)

set_option maxHeartbeats 1000000 in
theorem short_any (n k : Nat) (w : World) (hn : n < 18446744073709551616) (_ : k ≤ 20) : Calls Try.prog 87 #[.int .u64 (n : Nat), .int .i64 (k : Nat)] w fun e w' => e = .returned (.tuple #[.int .u64 ((shortN n k).1 : Nat), .int .i64 ((shortN n k).2 : Nat)]) ∧ w = w' := by
  by_cases h : k = szN n
  · have e : shortN n k = (n, k) := by unfold shortN; rw [if_pos h]
    rw [e]
    have d : ((k : Int) != (szN n : Nat)) = false := by rw [h]; simp
    clear e h
    go_enter Try.func87, Try.ntmps87
    go_wp2_with (go_at_call 88; refine (size_any n _ hn).mono ?_; rintro e w' ⟨rfl, rfl⟩)
    go_ret2
    exact ⟨rfl, rfl⟩
  · have e : shortN n k = (0, 0) := by unfold shortN; rw [if_neg h]
    rw [e]
    have d : ((k : Int) != (szN n : Nat)) = true := by simp; omega
    clear e h
    go_enter Try.func87, Try.ntmps87
    go_wp2_with (go_at_call 88; refine (size_any n _ hn).mono ?_; rintro e w' ⟨rfl, rfl⟩)
    go_ret2
    exact ⟨rfl, rfl⟩

end Go.Proofs.Ytbmpeadoicjpnaa
