/-
  The document's own sets; alike lists.
-/
import Derived.Test.YtfiamomadicbpaaDof
import Derived.Deep.QuietTactic
import Derived.BigQuiet
namespace Go.Proofs.Ytfiamomadicbpaa
open Go.RowKit

theorem bit_at {s : Nat} {p : Int} (hs : s < 18446744073709551616) (h1 : 0 ≤ p) (h2 : p ≤ 63) : (bits .and .u64 ((s : Int) / 2 ^ p.toNat) 1 == 1) = hasN s p := by
  unfold hasN
  rw [decide_eq_true (by omega), Bool.true_and, two_cast, ← Int.natCast_ediv, Nat.testBit_eq_decide_div_mod_eq]
  have hd : s / 2 ^ p.toNat < 18446744073709551616 := Nat.lt_of_le_of_lt (Nat.div_le_self _ _) hs
  generalize s / 2 ^ p.toNat = d at *
  have e := u64_and_nat d 1 hd (by decide)
  rw [show ((1 : Nat) : Int) = 1 from rfl, nat_mask1] at e
  rw [e]
  by_cases h : d % 2 = 1
  · simp [h]
  · have : d % 2 = 0 := by omega
    simp [this]
theorem allN_succ {k : Nat} (h : k < 64) : allN ((k + 1 : Nat) : Int) = allN (k : Int) ||| bitN (k : Int) := by
  refine Nat.eq_of_testBit_eq fun i => ?_
  rw [Nat.testBit_or, all_test, all_test, bit_test, ← Bool.decide_or]
  apply decide_eq_decide.2
  omega
theorem allN_over {k : Nat} {n : Int} (h : ((k : Int) ≤ n ∨ k = 0)) (h2 : ¬ ((k : Int) < n ∧ k < 64)) (hk : k ≤ 64) : allN (k : Int) = allN n := by
  refine Nat.eq_of_testBit_eq fun i => ?_
  rw [all_test, all_test]
  apply decide_eq_decide.2
  omega
theorem shl_lo {p : Int} (h : 0 ≤ p) (h2 : p ≤ 63) : IntKind.u64.wrap (2 ^ p.toNat) = ((bitN p : Nat) : Int) := by
  have e := shl_bit h
  rwa [show min p.toNat 64 = p.toNat by omega] at e
theorem shl_nat {k : Nat} (h : k < 64) : IntKind.u64.wrap (2 ^ k) = ((bitN (k : Int) : Nat) : Int) := shl_lo (p := (k : Int)) (by omega) (by omega)

set_option maxRecDepth 20000 in
set_option maxHeartbeats 2000000 in
theorem in_any (s : Nat) (p : Int) (W : World) (hs : s < 18446744073709551616) (hp : IntOk p) :
    Calls Try.prog 40 #[.int .u64 (s : Nat), .int .i64 p] W fun e w' => e = .returned (.bool (hasN s p)) ∧ W = w' := by
  unfold IntOk at hp
  go_enter Try.func40, Try.ntmps40
  rcases (show p < 0 ∨ (0 ≤ p ∧ p ≤ 63) ∨ 63 < p by omega) with h | ⟨h1, h2⟩ | h
  · have e := Lib.hid (show hasN s p = false by unfold hasN; rw [decide_eq_false (by omega)]; rfl)
    go_wp2_with fail
    go_ret
    exact ⟨by rw [e.out]; rfl, rfl⟩
  · have e := Lib.hid (bit_at hs h1 h2)
    go_wp2_with fail
    go_ret
    exact ⟨by rw [← e.out]; rfl, rfl⟩
  · have e := Lib.hid (show hasN s p = false by unfold hasN; rw [decide_eq_false (by omega)]; rfl)
    go_wp2_with fail
    go_ret
    exact ⟨by rw [e.out]; rfl, rfl⟩

end Go.Proofs.Ytfiamomadicbpaa
