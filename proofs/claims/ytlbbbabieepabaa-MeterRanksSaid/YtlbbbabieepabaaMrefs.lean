/-
  The document's own answers (the reference package), one contract each: numbers, keys, order.
-/
import Derived.Test.YtlbbbabieepabaaMone
namespace Go.Proofs.Ytlbbbabieepabaa
open Go.RowKit

theorem and_mag (b : Nat) (h : b < 18446744073709551616) : bits .and .u64 (b : Int) 9223372036854775807 = ((Fl.rung b : Nat) : Int) := by
  have e := u64_and_nat b 9223372036854775807 h (by omega)
  rw [show ((9223372036854775807 : Nat) : Int) = 9223372036854775807 from rfl] at e
  rw [e, show (9223372036854775807 : Nat) = 2 ^ 63 - 1 from by decide, Nat.and_two_pow_sub_one_eq_mod]; rfl

theorem shr_sign (b : Nat) (h : b < 18446744073709551616) : ((b : Int) / 9223372036854775808 == 1) = sgnB b := by
  unfold sgnB; rw [Bool.eq_iff_iff]; simp; omega
theorem shr_sign0 (b : Nat) (h : b < 18446744073709551616) : ((b : Int) / 9223372036854775808 == 0) = !sgnB b := by
  unfold sgnB; rw [Bool.eq_iff_iff]; simp; omega

theorem cls_ref (b : Nat) (h : b < 18446744073709551616) : cls b = if decide (9218868437227405312 < Fl.rung b) then 0 else if decide (Fl.rung b = 9218868437227405312) then (if sgnB b then 1 else 6) else if decide (Fl.rung b = 0) then (if sgnB b then 3 else 4) else if sgnB b then 2 else 5 := by
  unfold cls nanB infNB infPB ltzB gtzB sgnB Fl.isNan Fl.rung
  by_cases h1 : 9218868437227405312 < b % 9223372036854775808
  · simp [h1]
  · simp only [h1, decide_false, Bool.false_eq_true, if_false, not_false_eq_true, true_and]
    by_cases h2 : b % 9223372036854775808 = 9218868437227405312
    · simp only [h2, decide_true, if_true]
      by_cases h3 : 9223372036854775808 ≤ b
      · rw [if_pos (by simp; omega), if_pos (by simp; omega)]
      · rw [if_neg (by simp; omega), if_pos (by simp; omega), if_neg (by simp; omega)]
    · simp only [h2, decide_false, Bool.false_eq_true, if_false]
      rw [if_neg (by simp; omega), if_neg (by simp; omega)]
      by_cases h4 : b % 9223372036854775808 = 0
      · simp only [h4, decide_true, if_true]
        rw [if_neg (by simp; omega), if_neg (by simp; omega)]
      · simp only [h4, decide_false, Bool.false_eq_true, if_false]
        by_cases h3 : 9223372036854775808 ≤ b
        · rw [if_pos (by simp; omega), if_pos (by simp; omega)]
        · rw [if_neg (by simp; omega), if_pos (by simp; omega), if_neg (by simp; omega)]

set_option maxHeartbeats 1000000 in
theorem rclass_any (b : Nat) (w : World) (h : b < 18446744073709551616) :
    Calls Try.prog 15 #[.float .f64 b] w fun e w' => e = .returned (.int .i64 (cls b)) ∧ w = w' := by
  have C := Lib.hid (cls_ref b h)
  have hm := f64bits_run
  have ha := and_mag b h
  have hs := shr_sign b h
  have t1 : decide ((9218868437227405312 : Int) < (Fl.rung b : Int)) = decide (9218868437227405312 < Fl.rung b) := by congr 1; rw [eq_iff_iff]; omega
  have t2 : ((Fl.rung b : Int) == 9218868437227405312) = decide (Fl.rung b = 9218868437227405312) := by rw [Bool.eq_iff_iff]; simp; omega
  have t3 : ((Fl.rung b : Int) == 0) = decide (Fl.rung b = 0) := by rw [Bool.eq_iff_iff]; simp
  generalize hb1 : decide (9218868437227405312 < Fl.rung b) = b1 at *
  generalize hb2 : decide (Fl.rung b = 9218868437227405312) = b2 at *
  generalize hb3 : decide (Fl.rung b = 0) = b3 at *
  generalize hb4 : sgnB b = b4 at *
  clear hb1 hb2 hb3 hb4
  generalize Fl.rung b = r at *
  cases b1 <;> cases b2 <;> cases b3 <;> cases b4
  all_goals
    go_enter Try.func15, Try.ntmps15
    go_wp2
    go_ret
    exact ⟨ret_int (by rw [C.out]; rfl), rfl⟩

set_option maxHeartbeats 1000000 in
theorem rkey_any (b : Nat) (w : World) (h : b < 18446744073709551616) :
    Calls Try.prog 45 #[.float .f64 b] w fun e w' => e = .returned (.int .u64 (keyN b)) ∧ w = w' := by
  have hc := cls_zero b
  have hn := f64bits_run
  have ha := shr_sign0 b h
  cases h1 : nanB b
  · cases h2 : sgnB b
    all_goals
      rw [h1] at hc
      rw [h2] at ha
      go_enter Try.func45, Try.ntmps45
      go_wp2_with (go_at_call 15; refine (rclass_any b _ h).mono ?_; rintro e w' ⟨rfl, rfl⟩)
      go_ret
    · exact ⟨ret_int (by show bits .or .u64 _ _ = _; rw [or_sign b ((sgnB_no b).1 h2)]; simp [keyN, h1, h2]), rfl⟩
    · exact ⟨ret_int (by show bits .xor .u64 _ _ = _; rw [not_word b (by assumption)]; simp [keyN, h1, h2]), rfl⟩
  · rw [h1] at hc
    go_enter Try.func45, Try.ntmps45
    go_wp2_with (go_at_call 15; refine (rclass_any b _ h).mono ?_; rintro e w' ⟨rfl, rfl⟩)
    go_ret
    exact ⟨ret_int (by simp [keyN, h1]), rfl⟩

set_option maxHeartbeats 400000 in
theorem rcmp_any (a b : Nat) (w : World) (ha : a < 18446744073709551616) (hb : b < 18446744073709551616) :
    Calls Try.prog 32 #[.float .f64 a, .float .f64 b] w fun e w' => e = .returned (.int .i64 (cmpN a b)) ∧ w = w' := by
  have F : Hid (cmpN a b = if decide (keyN a < keyN b) then -1 else if decide (keyN b < keyN a) then 1 else 0) := by unfold Hid cmpN; simp
  cases h1 : decide (keyN a < keyN b) <;> cases h2 : decide (keyN b < keyN a)
  all_goals
    rw [h1, h2] at F
    go_enter Try.func32, Try.ntmps32
    go_wp2_with (first | (go_at_call 45; (with_reducible refine (rkey_any a _ ha).mono ?_); rintro e w' ⟨rfl, rfl⟩) | (go_at_call 45; (with_reducible refine (rkey_any b _ hb).mono ?_); rintro e w' ⟨rfl, rfl⟩))
    go_ret
    exact ⟨ret_int (by rw [F.out]; rfl), rfl⟩

def sameN (a b : Nat) : Bool := decide (keyN a = keyN b)
theorem cmp_zero' (a b : Nat) : (cmpN a b == 0) = sameN a b := cmp_zero a b

set_option maxHeartbeats 400000 in
theorem rsame_any (a b : Nat) (w : World) (ha : a < 18446744073709551616) (hb : b < 18446744073709551616) :
    Calls Try.prog 25 #[.float .f64 a, .float .f64 b] w fun e w' => e = .returned (.bool (sameN a b)) ∧ w = w' := by
  go_enter Try.func25, Try.ntmps25
  go_wp2_with (go_at_call 32; refine (rcmp_any a b _ ha hb).mono ?_; rintro e w' ⟨rfl, rfl⟩)
  go_ret
  exact ⟨ret_bool (cmp_zero' a b), rfl⟩

theorem way_min (a b : Nat) : (cmpN a b == -1) = decide (cmpN a b < 0) := by
  unfold cmpN
  split
  · simp
  · split <;> simp
theorem way_max (a b : Nat) : (cmpN a b == 1) = decide (0 < cmpN a b) := by
  unfold cmpN
  split
  · simp
  · split <;> simp

set_option maxHeartbeats 1000000 in
theorem best_min (xs : List Nat) (b off cap : Nat) (w : World) (hx : Floats w b off xs) (hn : xs.length ≤ 100) :
    Calls Try.prog 44 #[.slice (some ⟨b, off, none⟩) xs.length cap, .int .i64 (-1), .float .f64 9218868437227405312] w fun e w' => e = .returned (.float .f64 (minN xs)) ∧ w = w' := by
  obtain ⟨hlt, hcell⟩ := hx
  have HL := Lib.hid hlt
  have HC := Lib.hid hcell
  clear hlt hcell
  go_enter Try.func44, Try.ntmps44
  go_wp2
  go_loop [7, 8] (fun m i => ∃ k y : Nat, k ≤ xs.length ∧ y < 18446744073709551616 ∧ i = .int .i64 k ∧ m = .float .f64 y ∧ minGo (xs.drop k) y = minN xs) (fun _ i => xs.length - (intOf i).toNat)
  case atStart => exact ⟨0, _, Nat.zero_le _, by decide, rfl, rfl, rfl⟩
  case round =>
    obtain ⟨k, y, hk, hy, rfl, rfl, hr⟩ := hrel
    by_cases hlt : k < xs.length
    · have S := minGo_step xs k y hlt
      rw [S] at hr
      have hb := HL.out xs[k] (List.getElem_mem hlt)
      have hc := HC.out k hlt
      clear S
      generalize hq : xs[k] = q at *
      clear hq
      cases hnan : nanB q
      · have c0 := cls_zero q
        rw [hnan] at c0
        rw [hnan, if_neg (by simp)] at hr
        have hw := way_min q y
        cases hd : decide (cmpN q y < 0)
        all_goals
          rw [hd] at hr hw
          have HR := Lib.hid hr
          clear hr hnan
          go_wp2_with (first | (go_at_call 15; refine (rclass_any q _ hb).mono ?_; rintro e w' ⟨rfl, rfl⟩) | (go_at_call 32; refine (rcmp_any q y _ hb hy).mono ?_; rintro e w' ⟨rfl, rfl⟩))
          go_round
          case rel => exact ⟨k + 1, _, by omega, by assumption, by go_num, rfl, HR.out⟩
          case measure => simp [intOf]; omega
      · have c0 := cls_zero q
        rw [hnan] at c0
        rw [hnan, if_pos rfl] at hr
        have HR := Lib.hid hr
        clear hr hnan
        go_wp2_with (first | (go_at_call 15; refine (rclass_any q _ hb).mono ?_; rintro e w' ⟨rfl, rfl⟩) | (go_at_call 12; refine (nan_any _).mono ?_; rintro e w' ⟨rfl, rfl⟩))
        go_ret
        exact ⟨ret_float HR.out, rfl⟩
    · have HR : Hid (y = minN xs) := by rw [List.drop_of_length_le (by omega)] at hr; exact hr
      clear hr
      go_wp2
      go_ret
      exact ⟨ret_float HR.out, rfl⟩

set_option maxHeartbeats 1000000 in
theorem best_min0 (a : Option Addr) (cap : Nat) (w : World) :
    Calls Try.prog 44 #[.slice a 0 cap, .int .i64 (-1), .float .f64 9218868437227405312] w fun e w' => e = .returned (.float .f64 (minN [])) ∧ w = w' := by
  go_enter Try.func44, Try.ntmps44
  go_wp2
  refine wp_loop_rounds 1 ?_
  rw [rounds_succ]
  go_wp2
  go_ret
  exact ⟨rfl, rfl⟩

set_option maxHeartbeats 1000000 in
theorem rmin_any (v : Value) (xs : List Nat) (w : World) (hx : IsFloats w v xs) (hn : xs.length ≤ 100) :
    Calls Try.prog 28 #[v] w fun e w' => e = .returned (.float .f64 (minN xs)) ∧ w = w' := by
  rcases hx with ⟨a, cap, rfl, rfl⟩ | ⟨b, off, cap, rfl, hlt, hx⟩
  · go_enter Try.func28, Try.ntmps28
    go_wp2_with (first | (go_at_call 13; refine (inf_pos _).mono ?_; rintro e w' ⟨rfl, rfl⟩) | (go_at_call 44; refine (best_min0 a cap _).mono ?_; rintro e w' ⟨rfl, rfl⟩))
    go_ret
    exact ⟨rfl, rfl⟩
  · go_enter Try.func28, Try.ntmps28
    go_wp2_with (first | (go_at_call 13; refine (inf_pos _).mono ?_; rintro e w' ⟨rfl, rfl⟩) | (go_at_call 44; refine (best_min xs b off cap _ hx hn).mono ?_; rintro e w' ⟨rfl, rfl⟩))
    go_ret
    exact ⟨rfl, rfl⟩

set_option maxHeartbeats 1000000 in
theorem best_max (xs : List Nat) (b off cap : Nat) (w : World) (hx : Floats w b off xs) (hn : xs.length ≤ 100) :
    Calls Try.prog 44 #[.slice (some ⟨b, off, none⟩) xs.length cap, .int .i64 (1), .float .f64 18442240474082181120] w fun e w' => e = .returned (.float .f64 (maxN xs)) ∧ w = w' := by
  obtain ⟨hlt, hcell⟩ := hx
  have HL := Lib.hid hlt
  have HC := Lib.hid hcell
  clear hlt hcell
  go_enter Try.func44, Try.ntmps44
  go_wp2
  go_loop [7, 8] (fun m i => ∃ k y : Nat, k ≤ xs.length ∧ y < 18446744073709551616 ∧ i = .int .i64 k ∧ m = .float .f64 y ∧ maxGo (xs.drop k) y = maxN xs) (fun _ i => xs.length - (intOf i).toNat)
  case atStart => exact ⟨0, _, Nat.zero_le _, by decide, rfl, rfl, rfl⟩
  case round =>
    obtain ⟨k, y, hk, hy, rfl, rfl, hr⟩ := hrel
    by_cases hlt : k < xs.length
    · have S := maxGo_step xs k y hlt
      rw [S] at hr
      have hb := HL.out xs[k] (List.getElem_mem hlt)
      have hc := HC.out k hlt
      clear S
      generalize hq : xs[k] = q at *
      clear hq
      cases hnan : nanB q
      · have c0 := cls_zero q
        rw [hnan] at c0
        rw [hnan, if_neg (by simp)] at hr
        have hw := way_max q y
        cases hd : decide (0 < cmpN q y)
        all_goals
          rw [hd] at hr hw
          have HR := Lib.hid hr
          clear hr hnan
          go_wp2_with (first | (go_at_call 15; refine (rclass_any q _ hb).mono ?_; rintro e w' ⟨rfl, rfl⟩) | (go_at_call 32; refine (rcmp_any q y _ hb hy).mono ?_; rintro e w' ⟨rfl, rfl⟩))
          go_round
          case rel => exact ⟨k + 1, _, by omega, by assumption, by go_num, rfl, HR.out⟩
          case measure => simp [intOf]; omega
      · have c0 := cls_zero q
        rw [hnan] at c0
        rw [hnan, if_pos rfl] at hr
        have HR := Lib.hid hr
        clear hr hnan
        go_wp2_with (first | (go_at_call 15; refine (rclass_any q _ hb).mono ?_; rintro e w' ⟨rfl, rfl⟩) | (go_at_call 12; refine (nan_any _).mono ?_; rintro e w' ⟨rfl, rfl⟩))
        go_ret
        exact ⟨ret_float HR.out, rfl⟩
    · have HR : Hid (y = maxN xs) := by rw [List.drop_of_length_le (by omega)] at hr; exact hr
      clear hr
      go_wp2
      go_ret
      exact ⟨ret_float HR.out, rfl⟩

set_option maxHeartbeats 1000000 in
theorem best_max0 (a : Option Addr) (cap : Nat) (w : World) :
    Calls Try.prog 44 #[.slice a 0 cap, .int .i64 (1), .float .f64 18442240474082181120] w fun e w' => e = .returned (.float .f64 (maxN [])) ∧ w = w' := by
  go_enter Try.func44, Try.ntmps44
  go_wp2
  refine wp_loop_rounds 1 ?_
  rw [rounds_succ]
  go_wp2
  go_ret
  exact ⟨rfl, rfl⟩

set_option maxHeartbeats 1000000 in
theorem rmax_any (v : Value) (xs : List Nat) (w : World) (hx : IsFloats w v xs) (hn : xs.length ≤ 100) :
    Calls Try.prog 29 #[v] w fun e w' => e = .returned (.float .f64 (maxN xs)) ∧ w = w' := by
  rcases hx with ⟨a, cap, rfl, rfl⟩ | ⟨b, off, cap, rfl, hlt, hx⟩
  · go_enter Try.func29, Try.ntmps29
    go_wp2_with (first | (go_at_call 13; refine (inf_neg _).mono ?_; rintro e w' ⟨rfl, rfl⟩) | (go_at_call 44; refine (best_max0 a cap _).mono ?_; rintro e w' ⟨rfl, rfl⟩))
    go_ret
    exact ⟨rfl, rfl⟩
  · go_enter Try.func29, Try.ntmps29
    go_wp2_with (first | (go_at_call 13; refine (inf_neg _).mono ?_; rintro e w' ⟨rfl, rfl⟩) | (go_at_call 44; refine (best_max xs b off cap _ hx hn).mono ?_; rintro e w' ⟨rfl, rfl⟩))
    go_ret
    exact ⟨rfl, rfl⟩


theorem Floats.below {w w' : World} {b off : Nat} {xs : List Nat} (h : Floats w b off xs) (hb : Below w.heap.size w w') (hlt : b < w.heap.size) : Floats w' b off xs :=
  ⟨h.lt, fun i hi => by rw [hb.cell (p := ⟨b, off + i, none⟩) hlt]; exact h.cell i hi⟩

theorem IsFloats.below {w w' : World} {v : Value} {xs : List Nat} (h : IsFloats w v xs) (hb : Below w.heap.size w w') : IsFloats w' v xs := by
  rcases h with h | ⟨b, off, cap, e, hlt, hx⟩
  · exact Or.inl h
  · exact Or.inr ⟨b, off, cap, e, Nat.lt_of_lt_of_le hlt hb.size, hx.below hb hlt⟩

theorem IsFloats.slice {w : World} {v : Value} {xs : List Nat} (h : IsFloats w v xs) : ∃ a cap, v = .slice a xs.length cap := by
  rcases h with ⟨a, cap, rfl, rfl⟩ | ⟨b, off, cap, e, _, _⟩
  · exact ⟨a, cap, rfl⟩
  · exact ⟨_, cap, e⟩
theorem IsFloats.lt {w : World} {v : Value} {xs : List Nat} (h : IsFloats w v xs) : ∀ x ∈ xs, x < 18446744073709551616 := by
  rcases h with ⟨a, cap, _, rfl⟩ | ⟨b, off, cap, _, _, hx⟩
  · simp
  · exact hx.lt

end Go.Proofs.Ytlbbbabieepabaa
