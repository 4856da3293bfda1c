/-
  The document's own sets; alike lists.
-/
import Derived.Test.YtlfahnijnlapdaaDoorDof
import Derived.Deep.QuietTactic
import Derived.BigQuiet
namespace Go.Proofs.YtlfahnijnlapdaaDoor
open Go.RowKit

theorem bit_at {s : Nat} {p : Int} (hs : s < 18446744073709551616) (h1 : 0 ≤ p) (h2 : p ≤ 63) : (bits .and .u64 ((s : Int) / 2 ^ p.toNat) 1 == 1) = hasN s p := by
  unfold hasN
  rw [decide_eq_true (by omega), Bool.true_and, two_cast, ← Int.natCast_ediv, Nat.testBit_eq_decide_div_mod_eq]
  have hd : s / 2 ^ p.toNat < 18446744073709551616 := Nat.lt_of_le_of_lt (Nat.div_le_self _ _) hs
  generalize s / 2 ^ p.toNat = d at *
  have e := u64_and_nat d 1 hd (by decide)
  rw [show ((1 : Nat) : Int) = 1 from rfl, nat_mask1] at e
  rw [e]
  by_cases h : d % 2 = 1
  · simp [h]
  · have : d % 2 = 0 := by omega
    simp [this]
theorem allN_succ {k : Nat} (h : k < 64) : allN ((k + 1 : Nat) : Int) = allN (k : Int) ||| bitN (k : Int) := by
  refine Nat.eq_of_testBit_eq fun i => ?_
  rw [Nat.testBit_or, all_test, all_test, bit_test, ← Bool.decide_or]
  apply decide_eq_decide.2
  omega
theorem allN_over {k : Nat} {n : Int} (h : ((k : Int) ≤ n ∨ k = 0)) (h2 : ¬ ((k : Int) < n ∧ k < 64)) (hk : k ≤ 64) : allN (k : Int) = allN n := by
  refine Nat.eq_of_testBit_eq fun i => ?_
  rw [all_test, all_test]
  apply decide_eq_decide.2
  omega
theorem shl_lo {p : Int} (h : 0 ≤ p) (h2 : p ≤ 63) : IntKind.u64.wrap (2 ^ p.toNat) = ((bitN p : Nat) : Int) := by
  have e := shl_bit h
  rwa [show min p.toNat 64 = p.toNat by omega] at e
theorem shl_nat {k : Nat} (h : k < 64) : IntKind.u64.wrap (2 ^ k) = ((bitN (k : Int) : Nat) : Int) := shl_lo (p := (k : Int)) (by omega) (by omega)

set_option maxRecDepth 20000 in
set_option maxHeartbeats 2000000 in
theorem in_any (s : Nat) (p : Int) (W : World) (hs : s < 18446744073709551616) (hp : IntOk p) :
    Calls Tryd.prog 20 #[.int .u64 (s : Nat), .int .i64 p] W fun e w' => e = .returned (.bool (hasN s p)) ∧ W = w' := by
  unfold IntOk at hp
  go_enter Tryd.func20, Tryd.ntmps20
  rcases (show p < 0 ∨ (0 ≤ p ∧ p ≤ 63) ∨ 63 < p by omega) with h | ⟨h1, h2⟩ | h
  · have e := Lib.hid (show hasN s p = false by unfold hasN; rw [decide_eq_false (by omega)]; rfl)
    go_wp2_with fail
    go_ret
    exact ⟨by rw [e.out]; rfl, rfl⟩
  · have e := Lib.hid (bit_at hs h1 h2)
    go_wp2_with fail
    go_ret
    exact ⟨by rw [← e.out]; rfl, rfl⟩
  · have e := Lib.hid (show hasN s p = false by unfold hasN; rw [decide_eq_false (by omega)]; rfl)
    go_wp2_with fail
    go_ret
    exact ⟨by rw [e.out]; rfl, rfl⟩

set_option maxRecDepth 20000 in
set_option maxHeartbeats 2000000 in
theorem rallOf_any (n : Int) (W : World) (_ : IntOk n) :
    Calls Tryd.prog 19 #[.int .i64 n] W fun e w' => e = .returned (.int .u64 (allN n : Nat)) ∧ W = w' := by
  go_enter Tryd.func19, Tryd.ntmps19
  go_wp2_with fail
  go_loop [3, 4] (fun s i => ∃ (k : Nat) (c : Nat), k ≤ 64 ∧ s = .int .u64 (c : Nat) ∧ i = .int .i64 (k : Nat) ∧ Hid (c = allN (k : Int)) ∧ ((k : Int) ≤ n ∨ k = 0)) (fun _ i => 64 - (intOf i).toNat)
  case atStart => exact ⟨0, 0, by omega, rfl, rfl, rfl, by omega⟩
  case round =>
    obtain ⟨k, c, hk, rfl, rfl, hc, hkn⟩ := hrel
    by_cases hlt : (k : Int) < n ∧ k < 64
    · have hcl : c < 18446744073709551616 := by rw [hc.out]; exact allN_lt _
      have e1 := shl_nat hlt.2
      have e2 := or_bit (k : Int) hcl
      have R := Lib.hid (show c ||| bitN (k : Int) = allN ((k + 1 : Nat) : Int) by rw [allN_succ hlt.2, ← hc.out])
      generalize c ||| bitN (k : Int) = d at *
      generalize bitN (k : Int) = g at *
      go_wp2_with fail
      go_round
      case rel => exact ⟨k + 1, d, by omega, rfl, by go_num, R, by omega⟩
      case measure => simp only [intOf]; omega
    · have R := Lib.hid (show c = allN n by rw [hc.out]; exact allN_over hkn hlt hk)
      go_wp2_with fail
      all_goals go_ret
      all_goals exact ⟨by rw [← R.out]; rfl, rfl⟩

set_option maxRecDepth 20000 in
set_option maxHeartbeats 2000000 in
theorem rsetOf_any (xs : List Int) (ao : Option Addr) (cap : Nat) (W : World) (hs : SlV W ao cap (xs.map iV)) (hx : ∀ x ∈ xs, IntOk x) :
    Calls Tryd.prog 18 #[.slice ao xs.length cap] W fun e w' => e = .returned (.int .u64 (ofN xs : Nat)) ∧ W = w' := by
  have hfit := hs.fit
  have hmax := hs.max
  unfold maxLen at hmax
  rw [List.length_map] at hfit
  have S := Lib.hid hs
  have X := Lib.hid hx
  clear hs hx
  go_enter Tryd.func18, Tryd.ntmps18
  go_wp2_with fail
  go_loop [3, 4] (fun s i => ∃ (k : Nat) (c : Nat), k ≤ xs.length ∧ s = .int .u64 (c : Nat) ∧ i = .int .i64 (k : Nat) ∧ Hid (c = ofN (xs.take k))) (fun _ i => xs.length - (intOf i).toNat)
  case atStart => exact ⟨0, 0, Nat.zero_le _, rfl, rfl, rfl⟩
  case round =>
    obtain ⟨k, c, hk, rfl, rfl, hc⟩ := hrel
    by_cases hlt : k < xs.length
    · obtain ⟨b, off, rfl, hbW, hcx⟩ := S.out.at k hlt
      have hr := X.out xs[k] (List.getElem_mem hlt)
      have k1 : W.cell? ⟨b, off + k, none⟩ = some (.int .i64 xs[k]) := hcx
      clear hcx
      have S1 := Lib.hid (ofN_take hlt)
      have hcl : c < 18446744073709551616 := by rw [hc.out]; exact ofN_lt _
      generalize xs[k] = p at *
      unfold IntOk at hr
      rcases (show p < 0 ∨ (0 ≤ p ∧ p ≤ 63) ∨ 63 < p by omega) with h | ⟨h1, h2⟩ | h
      · go_wp2_with fail
        go_round
        case rel => exact ⟨k + 1, c, by omega, rfl, by go_num, Lib.hid (by rw [S1.out, bitN_out (by omega), Nat.or_zero]; exact hc.out)⟩
        case measure => simp only [intOf]; omega
      · have e1 := shl_lo h1 h2
        have e2 := or_bit p hcl
        have R := Lib.hid (show c ||| bitN p = ofN (xs.take (k + 1)) by rw [S1.out, ← hc.out])
        generalize c ||| bitN p = d at *
        generalize bitN p = g at *
        go_wp2_with fail
        go_round
        case rel => exact ⟨k + 1, d, by omega, rfl, by go_num, R⟩
        case measure => simp only [intOf]; omega
      · go_wp2_with fail
        go_round
        case rel => exact ⟨k + 1, c, by omega, rfl, by go_num, Lib.hid (by rw [S1.out, bitN_out (by omega), Nat.or_zero]; exact hc.out)⟩
        case measure => simp only [intOf]; omega
    · have R : c = ofN xs := by rw [hc.out, List.take_of_length_le (by omega)]
      go_wp2_with fail
      go_ret
      exact ⟨rfl, rfl⟩

theorem take_more {xs ys : List Int} {k : Nat} (h : xs.take k = ys.take k) (hx : k < xs.length) (hy : k < ys.length) (e : xs[k] = ys[k]) : xs.take (k + 1) = ys.take (k + 1) := by
  rw [List.take_succ_eq_append_getElem hx, List.take_succ_eq_append_getElem hy, h, e]
theorem take_less {xs ys : List Int} {k : Nat} (hx : k < xs.length) (hy : k < ys.length) (e : ¬ xs[k] = ys[k]) : ¬ xs = ys := by
  rintro rfl
  exact e rfl

set_option maxRecDepth 20000 in
set_option maxHeartbeats 2000000 in
theorem ints_any (xs ys : List Int) (ao bo : Option Addr) (ca cb : Nat) (W : World) (ha : SlV W ao ca (xs.map iV)) (hb : SlV W bo cb (ys.map iV)) :
    Calls Tryd.prog 21 #[.slice ao xs.length ca, .slice bo ys.length cb] W fun e w' => e = .returned (.bool (decide (xs = ys))) ∧ ∃ q, w' = W.drewN q := by
  have hfa := ha.fit
  have hma := ha.max
  have hfb := hb.fit
  have hmb := hb.max
  unfold maxLen at hma hmb
  rw [List.length_map] at hfa hfb
  have A := Lib.hid ha
  have B := Lib.hid hb
  clear ha hb
  go_enter Tryd.func21, Tryd.ntmps21
  by_cases hl : xs.length = ys.length
  · go_wp2_with fail
    go_loopw [5] (fun i wr => ∃ (k q : Nat), k ≤ xs.length ∧ i = .int .i64 (k : Nat) ∧ wr = W.drewN q ∧ Hid (xs.take k = ys.take k)) (fun i _ => xs.length - (intOf i).toNat)
    case atStart => exact ⟨0, 0, Nat.zero_le _, rfl, rfl, rfl⟩
    case round =>
      obtain ⟨k, q, hk, rfl, rfl, hc⟩ := hrel
      by_cases hlt : k < xs.length
      · obtain ⟨b, off, rfl, hbW, hcx⟩ := A.out.at k hlt
        obtain ⟨b2, off2, rfl, hbW2, hcy⟩ := B.out.at k (by omega)
        have k1 : (W.drewN q).cell? ⟨b, off + k, none⟩ = some (.int .i64 xs[k]) := hcx
        have k2 : (W.drewN q).cell? ⟨b2, off2 + k, none⟩ = some (.int .i64 ys[k]) := hcy
        clear hcx hcy
        have hQ := Lib.hid (fun n => (show ∃ q', (W.drewN q).drewN n = W.drewN q' from ⟨q + n, by rw [World.drewN_drewN]⟩))
        have H1 := Lib.hid (fun (h : xs[k] = ys[k]) => take_more hc.out hlt (by omega) h)
        have H2 := Lib.hid (fun (h : ¬ xs[k] = ys[k]) => take_less hlt (by omega) h)
        generalize xs[k] = x at *
        generalize ys[k] = y at *
        generalize W.drewN q = ww at *
        have ib : (k : Int) < (xs.length : Int) := by omega
        have ib2 : (k : Int) < (ys.length : Int) := by omega
        cases d : (x != y)
        · have R := Lib.hid (H1.out (by simpa using d))
          go_wp2_with fail
          go_quiet (fail)
          go_wp2_with fail
          go_roundw
          case rel => exact (hQ.out _).elim fun q' e => ⟨k + 1, q', by omega, by go_num, e, R⟩
          case measure => simp only [intOf]; omega
        · have R := Lib.hid (H2.out (by simpa using d))
          go_wp2_with fail
          go_quiet (fail)
          go_wp2_with fail
          go_ret
          exact ⟨by rw [decide_eq_false R.out]; rfl, hQ.out _⟩
      · have R := Lib.hid (show xs = ys by have h := hc.out; rwa [List.take_of_length_le (by omega), List.take_of_length_le (by omega)] at h)
        go_wp2_with fail
        go_ret
        exact ⟨by rw [decide_eq_true R.out]; rfl, _, rfl⟩
  · have R := Lib.hid (show ¬ xs = ys by rintro rfl; exact hl rfl)
    go_wp2_with fail
    go_ret
    exact ⟨by rw [decide_eq_false R.out]; rfl, 0, rfl⟩

end Go.Proofs.YtlfahnijnlapdaaDoor
