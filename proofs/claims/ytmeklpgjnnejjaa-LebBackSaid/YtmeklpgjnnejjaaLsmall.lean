/-
  Seven bits more, one byte more; a number that is cut short is none: the walks of the statements.
-/
import Derived.Test.YtmeklpgjnnejjaaLwhole
namespace Go.Proofs.Ytmeklpgjnnejjaa
open Go.RowKit

theorem or_five (n : Nat) (h : n < 144115188075855872) : bits .or .u64 ((n : Int) * 128) 5 = ((n * 128 + 5 : Nat) : Int) := by
  have e := u64_or_nat (n * 128) 5 (by omega) (by decide)
  rw [show ((n * 128 : Nat) : Int) = (n : Int) * 128 by simp, show ((5 : Nat) : Int) = 5 from rfl] at e
  rw [e, nat_join 7 (n * 128) 5 (by omega) (by decide)]

theorem put_nil (n : Nat) (W : World) (hn : n < 18446744073709551616) : Calls Try.prog 9 #[.slice none 0 0, .int .u64 (n : Nat)] W fun e w' =>
    ∃ a cap, e = .returned (.slice a (szN n) cap) ∧ SlAt bV 256 w' a cap (lebL n) ∧ Below W.heap.size W w' := by
  have h := put_any [] none 0 n W (SlAt.none _ _ _) hn (by simp)
  rw [List.nil_append] at h
  exact h

set_option maxRecDepth 20000 in
set_option maxHeartbeats 2000000 in
theorem law_LebSizes (n : Nat) (W : World) (hn : n < 18446744073709551616) : Calls Try.prog 6 #[.int .u64 (n : Nat)] W (LebOk W) := by
  have h1 := szN_pos n
  have h10 := szN_word hn
  go_enter Try.func6, Try.ntmps6
  go_wp2_with fail
  refine (awake_any W).mono ?_
  rintro e w0 ⟨rfl, hb0⟩
  have B0 := Lib.hid hb0
  clear hb0
  by_cases hbig : 144115188075855872 ≤ n
  · have h9 : 9 ≤ szN n := szN_gt 8 n (Nat.le_trans (by decide) hbig)
    go_wp2_with fail
    refine (size_any n _ hn).mono ?_
    rintro e w' ⟨rfl, rfl⟩
    go_wp2_with fail
    refine (put_nil n _ hn).mono ?_
    rintro e w1 ⟨a, cap, rfl, _, hb1⟩
    have B1 := Lib.hid (B0.out.trans (hb1.mono B0.out.size))
    clear hb1
    have hd : (144115188075855872 : Int) ≤ (n : Int) := by omega
    go_wp2_with fail
    go_ret
    exact ⟨by rw [show decide ((9 : Int) ≤ (szN n : Nat)) = true by simp; omega]; rfl, B1.out⟩
  · have hlow : n < 144115188075855872 := by omega
    have hor := or_five n hlow
    obtain ⟨M, hM⟩ : ∃ M, M = n * 128 + 5 := ⟨_, rfl⟩
    rw [← hM] at hor
    have hMw : M < 18446744073709551616 := by omega
    have R := Lib.hid (show ¬ n = 0 → szN M = szN n + 1 by
      intro h0
      rw [hM, szN_hi (by omega), show (n * 128 + 5) / 128 = n by omega])
    clear hM hbig
    by_cases h0 : n < 1
    · have d : ((n : Int) == 0) = true := by simp; omega
      cases d3 : (((szN M : Nat) : Int) == ((szN n : Nat) : Int) + 1)
      all_goals
        go_wp2_with fail
        refine (size_any n _ hn).mono ?_
        rintro e w' ⟨rfl, rfl⟩
        go_wp2_with fail
        refine (put_nil n _ hn).mono ?_
        rintro e w1 ⟨a, cap, rfl, _, hb1⟩
        have B1 := Lib.hid (B0.out.trans (hb1.mono B0.out.size))
        clear hb1
        have hd : decide ((144115188075855872 : Int) ≤ (n : Int)) = false := by simp; omega
        go_wp2_with (go_at_call 12; refine (size_any M _ hMw).mono ?_; rintro e w' ⟨rfl, rfl⟩)
        go_ret
        exact ⟨rfl, B1.out⟩
    · have d3 : (((szN M : Nat) : Int) == ((szN n : Nat) : Int) + 1) = true := by rw [R.out (by omega)]; simp
      go_wp2_with fail
      refine (size_any n _ hn).mono ?_
      rintro e w' ⟨rfl, rfl⟩
      go_wp2_with fail
      refine (put_nil n _ hn).mono ?_
      rintro e w1 ⟨a, cap, rfl, _, hb1⟩
      have B1 := Lib.hid (B0.out.trans (hb1.mono B0.out.size))
      clear hb1
      have hd : decide ((144115188075855872 : Int) ≤ (n : Int)) = false := by simp; omega
      go_wp2_with (go_at_call 12; refine (size_any M _ hMw).mono ?_; rintro e w' ⟨rfl, rfl⟩)
      go_ret
      exact ⟨rfl, B1.out⟩

theorem get_cut {n k : Nat} {a : Option Addr} {cap : Nat} {W : World} (hs : SlAt bV 256 W a cap (lebL n)) (hk : k < szN n) :
    Calls Try.prog 10 #[.slice a k cap] W fun e w' => e = .returned (.tuple #[.int .u64 0, .int .i64 0]) ∧ W = w' := by
  have h := get_at (hs.take k) (getN_cut hk)
  rw [List.length_take, show min k (lebL n).length = k from Nat.min_eq_left (Nat.le_of_lt hk)] at h
  exact h

set_option maxRecDepth 20000 in
set_option maxHeartbeats 2000000 in
theorem law_LebCuts (n : Nat) (at_ : Int) (W : World) (hn : n < 18446744073709551616) (ht : -9223372036854775808 ≤ at_ ∧ at_ ≤ 9223372036854775807) : Calls Try.prog 7 #[.int .u64 (n : Nat), .int .i64 at_] W (LebOk W) := by
  have h1 := szN_pos n
  have h10 := szN_word hn
  go_enter Try.func7, Try.ntmps7
  go_wp2_with fail
  refine (awake_any W).mono ?_
  rintro e w0 ⟨rfl, hb0⟩
  have B0 := Lib.hid hb0
  clear hb0
  go_wp2_with fail
  refine (put_nil n _ hn).mono ?_
  rintro e w1 ⟨a, cap, rfl, hS, hb1⟩
  have B1 := Lib.hid (B0.out.trans (hb1.mono B0.out.size))
  have hfit : szN n ≤ cap := hS.fit
  have hmax := hS.max
  unfold maxLen at hmax
  have HS := Lib.hid hS
  clear hb1 hS
  by_cases hneg : at_ < 0
  · go_wp2_with fail
    go_ret
    exact ⟨rfl, B1.out⟩
  · obtain ⟨k, rfl⟩ : ∃ k : Nat, at_ = (k : Int) := ⟨at_.toNat, by omega⟩
    by_cases hk : k < szN n
    · go_wp2_with (go_at_call 10; refine (get_cut HS.out hk).mono ?_; rintro e w' ⟨rfl, rfl⟩)
      go_ret
      exact ⟨rfl, B1.out⟩
    · go_wp2_with fail
      go_ret
      exact ⟨rfl, B1.out⟩

end Go.Proofs.Ytmeklpgjnnejjaa
