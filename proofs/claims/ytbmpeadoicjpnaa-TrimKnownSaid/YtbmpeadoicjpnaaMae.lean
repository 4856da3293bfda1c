/-
  Texts of this claim, put together.
-/
import Derived.Test.YtbmpeadoicjpnaaMaa
import Derived.Test.YtbmpeadoicjpnaaDnumm
import Derived.Test.YtbmpeadoicjpnaaMac
import Derived.Deep.AppendLies
import Derived.Laws.AppendOwnNone
import Derived.Laws.BytesArg
import Derived.OwnWalk
import Derived.OneCell

/-
  Ints, as values of one cell.
-/
namespace Go.Proofs.Ytbmpeadoicjpnaa
open Go.RowKit

def iV (x : Int) : Value := .int .i64 x

end Go.Proofs.Ytbmpeadoicjpnaa

/-
  Sets out of lists, and who is in.
-/
namespace Go.Proofs.Ytbmpeadoicjpnaa
open Go.RowKit

def IntOk (p : Int) : Prop := -9223372036854775808 ≤ p ∧ p ≤ 9223372036854775807

theorem two_cast (k : Nat) : ((2 : Int) ^ k) = ((2 ^ k : Nat) : Int) := by simp
theorem shl_bit {p : Int} (h : 0 ≤ p) : IntKind.u64.wrap (2 ^ min p.toNat 64) = ((bitN p : Nat) : Int) := by
  rw [IntKind.wrap_u64, two_cast]
  by_cases h1 : p < 64
  · have hw : 2 ^ p.toNat < 18446744073709551616 := pow_word (by omega)
    rw [show min p.toNat 64 = p.toNat by omega]
    unfold bitN
    rw [if_pos ⟨h, h1⟩]
    generalize 2 ^ p.toNat = G at *
    omega
  · rw [show min p.toNat 64 = 64 by omega, bitN_out (by omega)]
    decide
theorem or_bit {c : Nat} (p : Int) (h : c < 18446744073709551616) : bits .or .u64 (c : Int) (bitN p : Int) = ((c ||| bitN p : Nat) : Int) := u64_or_nat c _ h (bitN_lt p)

set_option maxRecDepth 20000 in
set_option maxHeartbeats 2000000 in
theorem of_any (xs : List Int) (ao : Option Addr) (cap : Nat) (W : World) (hs : SlV W ao cap (xs.map iV)) (hx : ∀ x ∈ xs, IntOk x) :
    Calls Try.prog 28 #[.slice ao xs.length cap] W fun e w' => e = .returned (.int .u64 (ofN xs : Nat)) ∧ W = w' := by
  have hfit := hs.fit
  have hmax := hs.max
  unfold maxLen at hmax
  rw [List.length_map] at hfit
  have S := Lib.hid hs
  have X := Lib.hid hx
  clear hs hx
  go_enter Try.func28, Try.ntmps28
  go_wp2_with fail
  go_loop [3, 8] (fun s i => ∃ (k : Nat) (c : Nat), k ≤ xs.length ∧ s = .int .u64 (c : Nat) ∧ i = .int .i64 (k : Nat) ∧ Hid (c = ofN (xs.take k))) (fun _ i => xs.length - (intOf i).toNat)
  case atStart => exact ⟨0, 0, Nat.zero_le _, rfl, rfl, rfl⟩
  case round =>
    obtain ⟨k, c, hk, rfl, rfl, hc⟩ := hrel
    by_cases hlt : k < xs.length
    · obtain ⟨b, off, rfl, hbW, hcx⟩ := S.out.at k hlt
      have hr := X.out xs[k] (List.getElem_mem hlt)
      have k1 : W.cell? ⟨b, off + k, none⟩ = some (.int .i64 xs[k]) := hcx
      clear hcx
      have S1 := Lib.hid (ofN_take hlt)
      have hcl : c < 18446744073709551616 := by rw [hc.out]; exact ofN_lt _
      generalize xs[k] = p at *
      unfold IntOk at hr
      by_cases h0 : 0 ≤ p
      · have e1 := shl_bit h0
        have e2 := or_bit p hcl
        have R := Lib.hid (show c ||| bitN p = ofN (xs.take (k + 1)) by rw [S1.out, ← hc.out])
        generalize c ||| bitN p = d at *
        generalize bitN p = g at *
        go_wp2_with fail
        go_round
        case rel => exact ⟨k + 1, d, by omega, rfl, by go_num, R⟩
        case measure => simp only [intOf]; omega
      · go_wp2_with fail
        go_round
        case rel => exact ⟨k + 1, c, by omega, rfl, by go_num, Lib.hid (by rw [S1.out, bitN_out (by omega), Nat.or_zero]; exact hc.out)⟩
        case measure => simp only [intOf]; omega
    · have R : c = ofN xs := by rw [hc.out, List.take_of_length_le (by omega)]
      go_wp2_with fail
      go_ret
      exact ⟨rfl, rfl⟩

theorem of_end {xs : List Int} {ao : Option Addr} {cap len : Nat} {W : World} (hs : SlV W ao cap (xs.map iV)) (hx : ∀ x ∈ xs, IntOk x) (hl : xs.length = len) {s : Nat} (h : ofN xs = s) :
    Calls Try.prog 28 #[.slice ao len cap] W fun e w' => e = .returned (.int .u64 (s : Nat)) ∧ W = w' := by
  subst hl h
  exact of_any xs ao cap W hs hx

/-- The set of one, as the program makes it where it asks. -/
theorem of_one (p : Int) (W : World) (hp : IntOk p) :
    Calls Try.prog 28 #[.slice (some ⟨W.heap.size, 0, none⟩) 1 1] (W.alloc (.cells #[.int .i64 p] 3)) fun e w' => e = .returned (.int .u64 (bitN p : Nat)) ∧ W.alloc (.cells #[.int .i64 p] 3) = w' :=
  of_end (xs := [p]) (slv_lit W [iV p] _ _ 1 rfl rfl (by unfold maxLen; omega)) (by simpa using hp) rfl (by simp [ofN])
theorem ne_word (d : Nat) : ((d : Int) != 0) = decide (d ≠ 0) := by by_cases h : d = 0 <;> simp [h]
theorem eq_word (d : Nat) : ((d : Int) == 0) = decide (d = 0) := by by_cases h : d = 0 <;> simp [h]

set_option maxRecDepth 20000 in
set_option maxHeartbeats 2000000 in
theorem has_any (s : Nat) (p : Int) (W : World) (hs : s < 18446744073709551616) (hp : IntOk p) :
    Calls Try.prog 29 #[.int .u64 (s : Nat), .int .i64 p] W fun e w' => e = .returned (.bool (hasN s p)) ∧ Below W.heap.size W w' := by
  have e1 := u64_and_nat s (bitN p) hs (bitN_lt p)
  have R := Lib.hid (and_bit_ne s p)
  have HP := Lib.hid hp
  clear hp
  go_enter Try.func29, Try.ntmps29
  go_wp2_with fail
  refine (of_one p W HP.out).mono ?_
  rintro e w' ⟨rfl, rfl⟩
  generalize s &&& bitN p = d at *
  generalize bitN p = g at *
  have R2 : ((d : Int) != 0) = hasN s p := by rw [ne_word]; simp only [R.out, Bool.decide_eq_true]
  go_wp2_with fail
  go_ret
  exact ⟨by rw [← R2]; rfl, below_alloc (Below.refl _ _) _⟩
theorem or_neg_nat (a b : Nat) (ha : a < 18446744073709551616) (hb : b < 18446744073709551616) : bits .andNot .u64 (a : Int) (b : Int) = ((a &&& (18446744073709551615 - b) : Nat) : Int) := u64_andNot_nat a b ha hb

set_option maxRecDepth 20000 in
set_option maxHeartbeats 2000000 in
theorem within_any (s t : Nat) (W : World) (hs : s < 18446744073709551616) (ht : t < 18446744073709551616) :
    Calls Try.prog 30 #[.int .u64 (s : Nat), .int .u64 (t : Nat)] W fun e w' => e = .returned (.bool (decide (s &&& (18446744073709551615 - t) = 0))) ∧ W = w' := by
  have e1 := or_neg_nat s t hs ht
  generalize s &&& (18446744073709551615 - t) = d at *
  go_enter Try.func30, Try.ntmps30
  go_wp2_with fail
  go_ret
  exact ⟨by rw [← eq_word]; rfl, rfl⟩
/-! All of the first ones. -/
def allN (n : Int) : Nat := ofN ((List.range (min n.toNat 64)).map fun (x : Nat) => (x : Int))
theorem all_test (n : Int) (i : Nat) : (allN n).testBit i = decide ((i : Int) < n ∧ i < 64) := by
  unfold allN
  rw [of_test]
  apply decide_eq_decide.2
  constructor
  · rintro ⟨h, hi⟩
    obtain ⟨x, hx, e⟩ := List.mem_map.1 h
    have := List.mem_range.1 hx
    omega
  · rintro ⟨h, hi⟩
    exact ⟨List.mem_map.2 ⟨i, List.mem_range.2 (by omega), rfl⟩, hi⟩
theorem allN_lt (n : Int) : allN n < 18446744073709551616 := ofN_lt _
theorem all_pow {k : Nat} (h : k ≤ 64) : allN (k : Int) = 2 ^ k - 1 := by
  refine Nat.eq_of_testBit_eq fun i => ?_
  rw [all_test, Nat.testBit_two_pow_sub_one]
  apply decide_eq_decide.2
  omega
theorem all_held (n : Int) : allN n = allN (min (max n 0) 64) := by
  refine Nat.eq_of_testBit_eq fun i => ?_
  rw [all_test, all_test]
  apply decide_eq_decide.2
  omega
theorem all_val {k : Nat} (h : k ≤ 64) : IntKind.u64.wrap (IntKind.u64.wrap (2 ^ k) - 1) = ((allN (k : Int) : Nat) : Int) := by
  rw [all_pow h, IntKind.wrap_u64, IntKind.wrap_u64, two_cast]
  by_cases h1 : k < 64
  · have hw : 2 ^ k < 18446744073709551616 := pow_word h1
    have hp : 0 < 2 ^ k := Nat.pow_pos (by decide)
    generalize 2 ^ k = G at *
    omega
  · obtain rfl : k = 64 := by omega
    decide
theorem all_low {n : Int} (h : n < 0) : IntKind.u64.wrap (IntKind.u64.wrap 1 - 1) = ((allN n : Nat) : Int) := by
  rw [all_held n, show min (max n 0) 64 = ((0 : Nat) : Int) by omega, ← all_val (by decide)]; rfl
theorem all_mid {n : Int} (h : 0 ≤ n) (h2 : n ≤ 64) : IntKind.u64.wrap (IntKind.u64.wrap (2 ^ n.toNat) - 1) = ((allN n : Nat) : Int) := by
  have := all_val (k := n.toNat) (by omega)
  rw [this, show ((n.toNat : Nat) : Int) = n by omega]
theorem all_high {n : Int} (h2 : 64 < n) : IntKind.u64.wrap (IntKind.u64.wrap 18446744073709551616 - 1) = ((allN n : Nat) : Int) := by
  rw [all_held n, show min (max n 0) 64 = ((64 : Nat) : Int) by omega, ← all_val (by decide)]; rfl

set_option maxRecDepth 20000 in
set_option maxHeartbeats 2000000 in
theorem all_any (n : Int) (W : World) (hn : IntOk n) :
    Calls Try.prog 73 #[.int .i64 n] W fun e w' => e = .returned (.int .u64 (allN n : Nat)) ∧ W = w' := by
  have hn' := hn
  unfold IntOk at hn'
  go_enter Try.func73, Try.ntmps73
  rcases (show n < 0 ∨ (0 ≤ n ∧ n ≤ 64) ∨ 64 < n by omega) with h | ⟨h1, h2⟩ | h
  · have e := all_low h
    go_wp2_with fail
    go_ret
    exact ⟨by rw [← e]; rfl, rfl⟩
  · have e := all_mid h1 h2
    go_wp2_with fail
    go_ret
    exact ⟨by rw [← e]; rfl, rfl⟩
  · have e := all_high h
    go_wp2_with fail
    go_ret
    exact ⟨by rw [← e]; rfl, rfl⟩
end Go.Proofs.Ytbmpeadoicjpnaa
