import Derived.Test.YtopnagjbdjicaaaMag
import Derived.Deep.QuietTactic
import Derived.BigQuiet

/-
  The document's own sets; alike lists.
-/
namespace Go.Proofs.Ytopnagjbdjicaaa
open Go.RowKit

theorem bit_at {s : Nat} {p : Int} (hs : s < 18446744073709551616) (h1 : 0 ≤ p) (h2 : p ≤ 63) : (bits .and .u64 ((s : Int) / 2 ^ p.toNat) 1 == 1) = hasN s p := by
  unfold hasN
  rw [decide_eq_true (by omega), Bool.true_and, two_cast, ← Int.natCast_ediv, Nat.testBit_eq_decide_div_mod_eq]
  have hd : s / 2 ^ p.toNat < 18446744073709551616 := Nat.lt_of_le_of_lt (Nat.div_le_self _ _) hs
  generalize s / 2 ^ p.toNat = d at *
  have e := u64_and_nat d 1 hd (by decide)
  rw [show ((1 : Nat) : Int) = 1 from rfl, nat_mask1] at e
  rw [e]
  by_cases h : d % 2 = 1
  · simp [h]
  · have : d % 2 = 0 := by omega
    simp [this]
theorem allN_succ {k : Nat} (h : k < 64) : allN ((k + 1 : Nat) : Int) = allN (k : Int) ||| bitN (k : Int) := by
  refine Nat.eq_of_testBit_eq fun i => ?_
  rw [Nat.testBit_or, all_test, all_test, bit_test, ← Bool.decide_or]
  apply decide_eq_decide.2
  omega
theorem allN_over {k : Nat} {n : Int} (h : ((k : Int) ≤ n ∨ k = 0)) (h2 : ¬ ((k : Int) < n ∧ k < 64)) (hk : k ≤ 64) : allN (k : Int) = allN n := by
  refine Nat.eq_of_testBit_eq fun i => ?_
  rw [all_test, all_test]
  apply decide_eq_decide.2
  omega
theorem shl_lo {p : Int} (h : 0 ≤ p) (h2 : p ≤ 63) : IntKind.u64.wrap (2 ^ p.toNat) = ((bitN p : Nat) : Int) := by
  have e := shl_bit h
  rwa [show min p.toNat 64 = p.toNat by omega] at e
theorem shl_nat {k : Nat} (h : k < 64) : IntKind.u64.wrap (2 ^ k) = ((bitN (k : Int) : Nat) : Int) := shl_lo (p := (k : Int)) (by omega) (by omega)

set_option maxRecDepth 20000 in
set_option maxHeartbeats 2000000 in
theorem in_any (s : Nat) (p : Int) (W : World) (hs : s < 18446744073709551616) (hp : IntOk p) :
    Calls Try.prog 75 #[.int .u64 (s : Nat), .int .i64 p] W fun e w' => e = .returned (.bool (hasN s p)) ∧ W = w' := by
  unfold IntOk at hp
  go_enter Try.func75, Try.ntmps75
  rcases (show p < 0 ∨ (0 ≤ p ∧ p ≤ 63) ∨ 63 < p by omega) with h | ⟨h1, h2⟩ | h
  · have e := Lib.hid (show hasN s p = false by unfold hasN; rw [decide_eq_false (by omega)]; rfl)
    go_wp2_with fail
    go_ret
    exact ⟨by rw [e.out]; rfl, rfl⟩
  · have e := Lib.hid (bit_at hs h1 h2)
    go_wp2_with fail
    go_ret
    exact ⟨by rw [← e.out]; rfl, rfl⟩
  · have e := Lib.hid (show hasN s p = false by unfold hasN; rw [decide_eq_false (by omega)]; rfl)
    go_wp2_with fail
    go_ret
    exact ⟨by rw [e.out]; rfl, rfl⟩
set_option maxRecDepth 20000 in
set_option maxHeartbeats 2000000 in
theorem rallOf_any (n : Int) (W : World) (_ : IntOk n) :
    Calls Try.prog 53 #[.int .i64 n] W fun e w' => e = .returned (.int .u64 (allN n : Nat)) ∧ W = w' := by
  go_enter Try.func53, Try.ntmps53
  go_wp2_with fail
  go_loop [3, 4] (fun s i => ∃ (k : Nat) (c : Nat), k ≤ 64 ∧ s = .int .u64 (c : Nat) ∧ i = .int .i64 (k : Nat) ∧ Hid (c = allN (k : Int)) ∧ ((k : Int) ≤ n ∨ k = 0)) (fun _ i => 64 - (intOf i).toNat)
  case atStart => exact ⟨0, 0, by omega, rfl, rfl, rfl, by omega⟩
  case round =>
    obtain ⟨k, c, hk, rfl, rfl, hc, hkn⟩ := hrel
    by_cases hlt : (k : Int) < n ∧ k < 64
    · have hcl : c < 18446744073709551616 := by rw [hc.out]; exact allN_lt _
      have e1 := shl_nat hlt.2
      have e2 := or_bit (k : Int) hcl
      have R := Lib.hid (show c ||| bitN (k : Int) = allN ((k + 1 : Nat) : Int) by rw [allN_succ hlt.2, ← hc.out])
      generalize c ||| bitN (k : Int) = d at *
      generalize bitN (k : Int) = g at *
      go_wp2_with fail
      go_round
      case rel => exact ⟨k + 1, d, by omega, rfl, by go_num, R, by omega⟩
      case measure => simp only [intOf]; omega
    · have R := Lib.hid (show c = allN n by rw [hc.out]; exact allN_over hkn hlt hk)
      go_wp2_with fail
      all_goals go_ret
      all_goals exact ⟨by rw [← R.out]; rfl, rfl⟩

end Go.Proofs.Ytopnagjbdjicaaa
