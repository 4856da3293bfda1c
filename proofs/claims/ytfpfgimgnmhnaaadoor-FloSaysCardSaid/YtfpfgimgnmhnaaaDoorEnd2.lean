/-
  The reference's ends; and the whole statement of what the chapter says.
-/
import Derived.Test.YtfpfgimgnmhnaaaDoorRef3
import Derived.Test.YtfpfgimgnmhnaaaDoorLaws3
namespace Go.Proofs.YtfpfgimgnmhnaaaDoor
open Go.RowKit

theorem way_min (a b : Nat) : (cmpN a b == -1) = decide (cmpN a b < 0) := by
  unfold cmpN
  split
  · simp
  · split <;> simp
theorem way_max (a b : Nat) : (cmpN a b == 1) = decide (0 < cmpN a b) := by
  unfold cmpN
  split
  · simp
  · split <;> simp

set_option maxHeartbeats 1000000 in
theorem best_min (xs : List Nat) (b off cap : Nat) (w : World) (hx : Floats w b off xs) (hn : xs.length ≤ 40) :
    Calls Tryd.prog 40 #[.slice (some ⟨b, off, none⟩) xs.length cap, .int .i64 (-1), .float .f64 9218868437227405312] w fun e w' => e = .returned (.float .f64 (minN xs)) ∧ w = w' := by
  obtain ⟨hlt, hcell⟩ := hx
  have HL := Lib.hid hlt
  have HC := Lib.hid hcell
  clear hlt hcell
  go_enter Tryd.func40, Tryd.ntmps40
  go_wp2
  go_loop [7, 8] (fun m i => ∃ k y : Nat, k ≤ xs.length ∧ y < 18446744073709551616 ∧ i = .int .i64 k ∧ m = .float .f64 y ∧ minGo (xs.drop k) y = minN xs) (fun _ i => xs.length - (intOf i).toNat)
  case atStart => exact ⟨0, _, Nat.zero_le _, by decide, rfl, rfl, rfl⟩
  case round =>
    obtain ⟨k, y, hk, hy, rfl, rfl, hr⟩ := hrel
    by_cases hlt : k < xs.length
    · have S := minGo_step xs k y hlt
      rw [S] at hr
      have hb := HL.out xs[k] (List.getElem_mem hlt)
      have hc := HC.out k hlt
      clear S
      generalize hq : xs[k] = q at *
      clear hq
      cases hnan : nanB q
      · have c0 := cls_zero q
        rw [hnan] at c0
        rw [hnan, if_neg (by simp)] at hr
        have hw := way_min q y
        cases hd : decide (cmpN q y < 0)
        all_goals
          rw [hd] at hr hw
          have HR := Lib.hid hr
          clear hr hnan
          go_wp2_with (first | (go_at_call 26; refine (rclass_any q _ hb).mono ?_; rintro e w' ⟨rfl, rfl⟩) | (go_at_call 28; refine (rcmp_any q y _ hb hy).mono ?_; rintro e w' ⟨rfl, rfl⟩))
          go_round
          case rel => exact ⟨k + 1, _, by omega, by assumption, by go_num, rfl, HR.out⟩
          case measure => simp [intOf]; omega
      · have c0 := cls_zero q
        rw [hnan] at c0
        rw [hnan, if_pos rfl] at hr
        have HR := Lib.hid hr
        clear hr hnan
        go_wp2_with (first | (go_at_call 26; refine (rclass_any q _ hb).mono ?_; rintro e w' ⟨rfl, rfl⟩) | (go_at_call 11; refine (nan_any _).mono ?_; rintro e w' ⟨rfl, rfl⟩))
        go_ret
        exact ⟨ret_float HR.out, rfl⟩
    · have HR : Hid (y = minN xs) := by rw [List.drop_of_length_le (by omega)] at hr; exact hr
      clear hr
      go_wp2
      go_ret
      exact ⟨ret_float HR.out, rfl⟩

set_option maxHeartbeats 1000000 in
theorem best_min0 (a : Option Addr) (cap : Nat) (w : World) :
    Calls Tryd.prog 40 #[.slice a 0 cap, .int .i64 (-1), .float .f64 9218868437227405312] w fun e w' => e = .returned (.float .f64 (minN [])) ∧ w = w' := by
  go_enter Tryd.func40, Tryd.ntmps40
  go_wp2
  refine wp_loop_rounds 1 ?_
  rw [rounds_succ]
  go_wp2
  go_ret
  exact ⟨rfl, rfl⟩

set_option maxHeartbeats 1000000 in
theorem rmin_any (v : Value) (xs : List Nat) (w : World) (hx : IsFloats w v xs) (hn : xs.length ≤ 40) :
    Calls Tryd.prog 31 #[v] w fun e w' => e = .returned (.float .f64 (minN xs)) ∧ w = w' := by
  rcases hx with ⟨a, cap, rfl, rfl⟩ | ⟨b, off, cap, rfl, hlt, hx⟩
  · go_enter Tryd.func31, Tryd.ntmps31
    go_wp2_with (first | (go_at_call 12; refine (inf_pos _).mono ?_; rintro e w' ⟨rfl, rfl⟩) | (go_at_call 40; refine (best_min0 a cap _).mono ?_; rintro e w' ⟨rfl, rfl⟩))
    go_ret
    exact ⟨rfl, rfl⟩
  · go_enter Tryd.func31, Tryd.ntmps31
    go_wp2_with (first | (go_at_call 12; refine (inf_pos _).mono ?_; rintro e w' ⟨rfl, rfl⟩) | (go_at_call 40; refine (best_min xs b off cap _ hx hn).mono ?_; rintro e w' ⟨rfl, rfl⟩))
    go_ret
    exact ⟨rfl, rfl⟩

theorem fmin_any (v : Value) (xs : List Nat) (w : World) (hx : IsFloats w v xs) (hn : xs.length ≤ 40) :
    Calls Tryd.prog 22 #[v] w fun e w' => e = .returned (.float .f64 (minN xs)) ∧ w = w' := by
  rcases hx with ⟨a, cap, rfl, rfl⟩ | ⟨b, off, cap, rfl, hlt, hx⟩
  · exact min_none a cap w
  · exact min_any xs b off cap w hx hn

set_option maxHeartbeats 1000000 in
theorem best_max (xs : List Nat) (b off cap : Nat) (w : World) (hx : Floats w b off xs) (hn : xs.length ≤ 40) :
    Calls Tryd.prog 40 #[.slice (some ⟨b, off, none⟩) xs.length cap, .int .i64 (1), .float .f64 18442240474082181120] w fun e w' => e = .returned (.float .f64 (maxN xs)) ∧ w = w' := by
  obtain ⟨hlt, hcell⟩ := hx
  have HL := Lib.hid hlt
  have HC := Lib.hid hcell
  clear hlt hcell
  go_enter Tryd.func40, Tryd.ntmps40
  go_wp2
  go_loop [7, 8] (fun m i => ∃ k y : Nat, k ≤ xs.length ∧ y < 18446744073709551616 ∧ i = .int .i64 k ∧ m = .float .f64 y ∧ maxGo (xs.drop k) y = maxN xs) (fun _ i => xs.length - (intOf i).toNat)
  case atStart => exact ⟨0, _, Nat.zero_le _, by decide, rfl, rfl, rfl⟩
  case round =>
    obtain ⟨k, y, hk, hy, rfl, rfl, hr⟩ := hrel
    by_cases hlt : k < xs.length
    · have S := maxGo_step xs k y hlt
      rw [S] at hr
      have hb := HL.out xs[k] (List.getElem_mem hlt)
      have hc := HC.out k hlt
      clear S
      generalize hq : xs[k] = q at *
      clear hq
      cases hnan : nanB q
      · have c0 := cls_zero q
        rw [hnan] at c0
        rw [hnan, if_neg (by simp)] at hr
        have hw := way_max q y
        cases hd : decide (0 < cmpN q y)
        all_goals
          rw [hd] at hr hw
          have HR := Lib.hid hr
          clear hr hnan
          go_wp2_with (first | (go_at_call 26; refine (rclass_any q _ hb).mono ?_; rintro e w' ⟨rfl, rfl⟩) | (go_at_call 28; refine (rcmp_any q y _ hb hy).mono ?_; rintro e w' ⟨rfl, rfl⟩))
          go_round
          case rel => exact ⟨k + 1, _, by omega, by assumption, by go_num, rfl, HR.out⟩
          case measure => simp [intOf]; omega
      · have c0 := cls_zero q
        rw [hnan] at c0
        rw [hnan, if_pos rfl] at hr
        have HR := Lib.hid hr
        clear hr hnan
        go_wp2_with (first | (go_at_call 26; refine (rclass_any q _ hb).mono ?_; rintro e w' ⟨rfl, rfl⟩) | (go_at_call 11; refine (nan_any _).mono ?_; rintro e w' ⟨rfl, rfl⟩))
        go_ret
        exact ⟨ret_float HR.out, rfl⟩
    · have HR : Hid (y = maxN xs) := by rw [List.drop_of_length_le (by omega)] at hr; exact hr
      clear hr
      go_wp2
      go_ret
      exact ⟨ret_float HR.out, rfl⟩

set_option maxHeartbeats 1000000 in
theorem best_max0 (a : Option Addr) (cap : Nat) (w : World) :
    Calls Tryd.prog 40 #[.slice a 0 cap, .int .i64 (1), .float .f64 18442240474082181120] w fun e w' => e = .returned (.float .f64 (maxN [])) ∧ w = w' := by
  go_enter Tryd.func40, Tryd.ntmps40
  go_wp2
  refine wp_loop_rounds 1 ?_
  rw [rounds_succ]
  go_wp2
  go_ret
  exact ⟨rfl, rfl⟩

set_option maxHeartbeats 1000000 in
theorem rmax_any (v : Value) (xs : List Nat) (w : World) (hx : IsFloats w v xs) (hn : xs.length ≤ 40) :
    Calls Tryd.prog 32 #[v] w fun e w' => e = .returned (.float .f64 (maxN xs)) ∧ w = w' := by
  rcases hx with ⟨a, cap, rfl, rfl⟩ | ⟨b, off, cap, rfl, hlt, hx⟩
  · go_enter Tryd.func32, Tryd.ntmps32
    go_wp2_with (first | (go_at_call 12; refine (inf_neg _).mono ?_; rintro e w' ⟨rfl, rfl⟩) | (go_at_call 40; refine (best_max0 a cap _).mono ?_; rintro e w' ⟨rfl, rfl⟩))
    go_ret
    exact ⟨rfl, rfl⟩
  · go_enter Tryd.func32, Tryd.ntmps32
    go_wp2_with (first | (go_at_call 12; refine (inf_neg _).mono ?_; rintro e w' ⟨rfl, rfl⟩) | (go_at_call 40; refine (best_max xs b off cap _ hx hn).mono ?_; rintro e w' ⟨rfl, rfl⟩))
    go_ret
    exact ⟨rfl, rfl⟩

theorem fmax_any (v : Value) (xs : List Nat) (w : World) (hx : IsFloats w v xs) (hn : xs.length ≤ 40) :
    Calls Tryd.prog 23 #[v] w fun e w' => e = .returned (.float .f64 (maxN xs)) ∧ w = w' := by
  rcases hx with ⟨a, cap, rfl, rfl⟩ | ⟨b, off, cap, rfl, hlt, hx⟩
  · exact max_none a cap w
  · exact max_any xs b off cap w hx hn

theorem IsFloats.below {w w' : World} {v : Value} {xs : List Nat} (h : IsFloats w v xs) (hb : Below w.heap.size w w') : IsFloats w' v xs := by
  rcases h with h | ⟨b, off, cap, e, hlt, hx⟩
  · exact Or.inl h
  · exact Or.inr ⟨b, off, cap, e, Nat.lt_of_lt_of_le hlt hb.size, hx.below hb hlt⟩

theorem IsFloats.slice {w : World} {v : Value} {xs : List Nat} (h : IsFloats w v xs) : ∃ a cap, v = .slice a xs.length cap := by
  rcases h with ⟨a, cap, rfl, rfl⟩ | ⟨b, off, cap, e, _, _⟩
  · exact ⟨a, cap, rfl⟩
  · exact ⟨_, cap, e⟩
theorem IsFloats.lt {w : World} {v : Value} {xs : List Nat} (h : IsFloats w v xs) : ∀ x ∈ xs, x < 18446744073709551616 := by
  rcases h with ⟨a, cap, _, rfl⟩ | ⟨b, off, cap, _, _, hx⟩
  · simp
  · exact hx.lt

theorem rsame_refl (a : Nat) (w : World) (ha : a < 18446744073709551616) :
    Calls Tryd.prog 29 #[.float .f64 a, .float .f64 a] w fun e w' => e = .returned (.bool true) ∧ w = w' :=
  (rsame_any a a w ha ha).mono fun _ _ ⟨he, hw⟩ => ⟨he.trans (ret_bool (by unfold sameN; simp)), hw⟩

def parF (s : ByteArray) : Nat := (parO s.toList).getD 0
def parB (s : ByteArray) : Bool := (parO s.toList).isSome
theorem fparse (s : ByteArray) (w : World) (ht : Tab w) (hy : Syn w) :
    Calls Tryd.prog 15 #[.string s] w fun e w' => e = .returned (.tuple #[.float .f64 (parF s), .bool (parB s)]) ∧ Below w.heap.size w w' := parse_any s w ht hy
theorem rparse (s : ByteArray) (w : World) :
    Calls Tryd.prog 25 #[.string s] w fun e w' => e = .returned (.tuple #[.float .f64 (parF s), .bool (parB s)]) ∧ w = w' := rparse_any s w
theorem parF_lt (s : ByteArray) : parF s < 18446744073709551616 := by
  unfold parF parO
  split
  · decide
  · split
    · decide
    · split
      · decide
      · split
        · cases h : valP s.toList 0 with
          | none => show 0 < 18446744073709551616; decide
          | some u =>
            have hl := valP_16 _ u ‹_› h
            simp only
            split
            · exact hl
            · decide
        · decide

set_option maxHeartbeats 4000000 in
theorem says_long (a b key : Nat) (s : ByteArray) (A : Option Addr) (n cap : Nat) (w : World) (ht : Tab w) (h : 40 < s.size ∨ (s.size ≤ 40 ∧ 40 < n)) :
    Calls Tryd.prog 4 #[.float .f64 a, .float .f64 b, .int .u64 key, .string s, .slice A n cap] w fun e w' => e = .returned (.bool true) ∧ Below w.heap.size w w' := by
  rcases h with h | ⟨h, h'⟩
  all_goals
    go_enter Tryd.func4, Tryd.ntmps4
    go_wp2_with fail
    refine (awake_any _ ht).mono ?_
    rintro e w1 ⟨rfl, hb1⟩
    go_wp2
    go_ret
    exact ⟨rfl, hb1⟩

set_option maxRecDepth 100000 in
set_option maxHeartbeats 8000000 in
theorem says_some (a b key : Nat) (s : ByteArray) (A : Option Addr) (cap : Nat) (w : World) (ht : Tab w) (hy : Syn w) (ha : a < 18446744073709551616) (hb : b < 18446744073709551616) (hk : key < 18446744073709551616) (hs : s.size ≤ 40)
    (xs : List Nat) (hn : xs.length ≤ 40) (hx : IsFloats w (.slice A xs.length cap) xs) :
    Calls Tryd.prog 4 #[.float .f64 a, .float .f64 b, .int .u64 key, .string s, .slice A xs.length cap] w fun e w' => e = .returned (.bool true) ∧ Below w.heap.size w w' := by
  have hof := ofF_lt key hk
  have hpar := parF_lt s
  have hmn := min_lt xs hx.lt
  have hmx := max_lt xs hx.lt
  have HX := Lib.hid hx
  clear hx
  go_enter Tryd.func4, Tryd.ntmps4
  go_wp2_with fail
  refine (awake_any _ ht).mono ?_
  rintro e w1 ⟨rfl, hb1⟩
  go_wp2_with fail
  refine (of_any key _ hk).mono ?_
  rintro e w' ⟨rfl, rfl⟩
  go_wp2_with fail
  refine (rof_any key _ hk).mono ?_
  rintro e w' ⟨rfl, rfl⟩
  go_wp2_with fail
  refine (fparse s _ (ht.below hb1) (hy.below hb1)).mono ?_
  rintro e w2 ⟨rfl, hb2⟩
  have hb2 := hb1.trans (hb2.mono hb1.size)
  go_wp2_with fail
  refine (rparse s _).mono ?_
  rintro e w' ⟨rfl, rfl⟩
  go_wp2_with fail
  refine (class_any a _ ha).mono ?_
  rintro e w' ⟨rfl, rfl⟩
  go_wp2_with fail
  refine (rclass_any a _ ha).mono ?_
  rintro e w' ⟨rfl, rfl⟩
  go_wp2_with fail
  refine (key_any a _ ha).mono ?_
  rintro e w' ⟨rfl, rfl⟩
  go_wp2_with fail
  refine (rkey_any a _ ha).mono ?_
  rintro e w' ⟨rfl, rfl⟩
  go_wp2_with fail
  refine (cmp_any a b _ ha hb).mono ?_
  rintro e w' ⟨rfl, rfl⟩
  go_wp2_with fail
  refine (rcmp_any a b _ ha hb).mono ?_
  rintro e w' ⟨rfl, rfl⟩
  go_wp2_with fail
  refine (same_any a b _ ha hb).mono ?_
  rintro e w' ⟨rfl, rfl⟩
  go_wp2_with fail
  refine (rsame_any a b _ ha hb).mono ?_
  rintro e w' ⟨rfl, rfl⟩
  go_wp2_with fail
  refine (show_any a _ (ht.below hb2) ha).mono ?_
  rintro e w3 ⟨rfl, hb3⟩
  have hb3 := hb2.trans (hb3.mono hb2.size)
  go_wp2_with fail
  refine (rshow_any a _ ha).mono ?_
  rintro e w' ⟨rfl, rfl⟩
  go_wp2_with fail
  refine (rsame_refl _ _ hof).mono ?_
  rintro e w' ⟨rfl, rfl⟩
  go_wp2_with fail
  refine (rsame_refl _ _ hpar).mono ?_
  rintro e w' ⟨rfl, rfl⟩
  go_wp2_with fail
  refine (fmin_any _ xs _ (HX.out.below hb3) hn).mono ?_
  rintro e w' ⟨rfl, rfl⟩
  go_wp2_with fail
  refine (rmin_any _ xs _ (HX.out.below hb3) hn).mono ?_
  rintro e w' ⟨rfl, rfl⟩
  go_wp2_with fail
  refine (rsame_refl _ _ hmn).mono ?_
  rintro e w' ⟨rfl, rfl⟩
  go_wp2_with fail
  refine (fmax_any _ xs _ (HX.out.below hb3) hn).mono ?_
  rintro e w' ⟨rfl, rfl⟩
  go_wp2_with fail
  refine (rmax_any _ xs _ (HX.out.below hb3) hn).mono ?_
  rintro e w' ⟨rfl, rfl⟩
  go_wp2_with fail
  refine (rsame_refl _ _ hmx).mono ?_
  rintro e w' ⟨rfl, rfl⟩
  go_wp2
  go_ret
  exact ⟨rfl, hb3⟩

theorem law_FloSays (a b key : Nat) (s : ByteArray) (v : Value) (w : World) (ht : Tab w) (hy : Syn w) (ha : a < 18446744073709551616) (hb : b < 18446744073709551616) (hk : key < 18446744073709551616) (_hs : s.size ≤ maxLen) (xs : List Nat) (hx : IsFloats w v xs) :
    Calls Tryd.prog 4 #[.float .f64 a, .float .f64 b, .int .u64 key, .string s, v] w fun e w' => e = .returned (.bool true) ∧ Below w.heap.size w w' := by
  obtain ⟨A, cap, rfl⟩ := hx.slice
  by_cases h : s.size ≤ 40
  · by_cases h2 : xs.length ≤ 40
    · exact says_some a b key s A cap w ht hy ha hb hk h xs h2 hx
    · exact says_long a b key s A _ cap w ht (Or.inr ⟨h, by omega⟩)
  · exact says_long a b key s A _ cap w ht (Or.inl (by omega))

end Go.Proofs.YtfpfgimgnmhnaaaDoor
