/-
  The order's own statement and that of signs, walked.
-/
import Derived.Test.YtfpfgimgnmhnaaaDoorLaws
namespace Go.Proofs.YtfpfgimgnmhnaaaDoor
open Go.RowKit

def zerB (b : Nat) : Bool := decide (Fl.rung b = 0)

theorem nanB_no (b : Nat) (h : nanB b = false) : Fl.rung b ≤ 9218868437227405312 := by
  unfold nanB Fl.isNan at h
  have := of_decide_eq_false h
  omega

theorem ord_zero (b : Nat) (h : b < 18446744073709551616) (hn : nanB b = false) : (FloatKind.f64.format.order b 0 == some .eq) = zerB b := by
  show (Ieee.double.order b 0 == some .eq) = zerB b
  rw [Fl.order_eq b _ h (by omega)]
  have hm : ¬ Fl.isNan 0 := by decide
  have hv : Fl.sval 0 = 0 := by decide
  have hb : ¬ Fl.isNan b := of_decide_eq_false hn
  rw [hv, if_neg (by rintro (h | h) <;> contradiction)]
  unfold zerB Fl.cmpI Fl.sval
  by_cases h1 : 9223372036854775808 ≤ b
  · rw [if_pos h1]
    by_cases h2 : Fl.rung b = 0
    · rw [if_neg (by omega), if_pos (by omega)]; simp [h2]
    · rw [if_pos (by omega)]; simp [h2]
  · rw [if_neg h1]
    by_cases h2 : Fl.rung b = 0
    · rw [if_neg (by omega), if_pos (by omega)]; simp [h2]
    · rw [if_neg (by omega), if_neg (by omega)]; simp [h2]

theorem keyN_of (b : Nat) (hn : nanB b = false) : keyN b = if 9223372036854775808 ≤ b then 18446744073709551615 - b else b + 9223372036854775808 := by
  unfold keyN sgnB
  rw [hn]; simp

theorem sval_key (a b : Nat) (ha : a < 18446744073709551616) (hb : b < 18446744073709551616) (na : nanB a = false) (nb : nanB b = false) (hz : ¬ (zerB a = true ∧ zerB b = true)) :
    (Fl.sval a < Fl.sval b ↔ keyN a < keyN b) ∧ (Fl.sval a = Fl.sval b ↔ keyN a = keyN b) := by
  rw [keyN_of a na, keyN_of b nb]
  unfold zerB at hz
  simp only [decide_eq_true_eq] at hz
  unfold Fl.sval
  unfold Fl.rung at *
  by_cases h1 : 9223372036854775808 ≤ a <;> by_cases h2 : 9223372036854775808 ≤ b <;> simp only [h1, h2, if_true, if_false] <;> omega

theorem ord_lt (a b : Nat) (ha : a < 18446744073709551616) (hb : b < 18446744073709551616) (na : nanB a = false) (nb : nanB b = false) (hz : ¬ (zerB a = true ∧ zerB b = true)) :
    (FloatKind.f64.format.order a b == some .lt) = decide (keyN a < keyN b) ∧ (FloatKind.f64.format.order a b == some .gt) = decide (keyN b < keyN a) := by
  obtain ⟨h1, h2⟩ := sval_key a b ha hb na nb hz
  show (Ieee.double.order a b == some .lt) = _ ∧ (Ieee.double.order a b == some .gt) = _
  rw [Fl.order_eq a b ha hb, if_neg (by rintro (h | h); exact of_decide_eq_false na h; exact of_decide_eq_false nb h)]
  unfold Fl.cmpI
  rcases Nat.lt_trichotomy (keyN a) (keyN b) with h | h | h
  · rw [if_pos (h1.2 h)]; simp; omega
  · have e := h2.2 h
    rw [if_neg (by omega), if_pos e]; simp; omega
  · have n1 : ¬ Fl.sval a < Fl.sval b := fun q => by have := h1.1 q; omega
    have n2 : ¬ Fl.sval a = Fl.sval b := fun q => by have := h2.1 q; omega
    rw [if_neg n1, if_neg n2]; simp; omega

theorem cls_a (b : Nat) (h : nanB b = true) : (cls b == 0) = true := by rw [cls_zero, h]
theorem cls_b (b : Nat) (h : nanB b = false) : (cls b == 0) = false := by rw [cls_zero, h]

theorem cmp_refl (a : Nat) (w : World) (ha : a < 18446744073709551616) :
    Calls Tryd.prog 20 #[.float .f64 a, .float .f64 a] w fun e w' => e = .returned (.int .i64 0) ∧ w = w' := cmp_eq a a w ha ha rfl

/-- The last two tests, whichever way the first ones went: what is left to the walk is told by Bools. -/
def Tail (a b : Nat) : Prop :=
  ((cls a == 0) = true) ∨ ((cls a == 0) = false ∧ (cls b == 0) = true) ∨
  ((cls a == 0) = false ∧ (cls b == 0) = false ∧ (FloatKind.f64.format.order a 0 == some .eq) = true ∧ (FloatKind.f64.format.order b 0 == some .eq) = true) ∨
  ((cls a == 0) = false ∧ (cls b == 0) = false ∧ (FloatKind.f64.format.order a 0 == some .eq) = true ∧ (FloatKind.f64.format.order b 0 == some .eq) = false ∧ (FloatKind.f64.format.order a b == some .lt) = decide (keyN a < keyN b) ∧ (FloatKind.f64.format.order a b == some .gt) = decide (keyN b < keyN a)) ∨
  ((cls a == 0) = false ∧ (cls b == 0) = false ∧ (FloatKind.f64.format.order a 0 == some .eq) = false ∧ (FloatKind.f64.format.order a b == some .lt) = decide (keyN a < keyN b) ∧ (FloatKind.f64.format.order a b == some .gt) = decide (keyN b < keyN a))

theorem tail_any (a b : Nat) (ha : a < 18446744073709551616) (hb : b < 18446744073709551616) : Tail a b := by
  unfold Tail
  cases na : nanB a
  · cases nb : nanB b
    · rw [cls_b a na, cls_b b nb, ord_zero a ha na, ord_zero b hb nb]
      cases za : zerB a
      · have := ord_lt a b ha hb na nb (by simp [za])
        simp [this]
      · cases zb : zerB b
        · have := ord_lt a b ha hb na nb (by simp [zb])
          simp [this]
        · simp
    · rw [cls_b a na, cls_a b nb]; simp
  · rw [cls_a a na]; simp

theorem cmp_le (a b : Nat) (h : keyN a ≤ keyN b) : decide (cmpN a b ≤ 0) = true ∧ decide (0 < cmpN a b) = false := by
  unfold cmpN
  split
  · simp
  · rw [if_neg (by omega)]; simp
theorem cmp_no (a b : Nat) (h : keyN b < keyN a) : decide (cmpN a b ≤ 0) = false := by
  unfold cmpN
  rw [if_neg (by omega), if_pos h]; simp

/-- The three numbers' places: what the second test meets. -/
def Mid (a b c : Nat) : Prop := (decide (cmpN b c ≤ 0) = false) ∨ (decide (cmpN b c ≤ 0) = true ∧ decide (0 < cmpN a c) = false)
theorem mid_any (a b c : Nat) (h : keyN a ≤ keyN b) : Mid a b c := by
  by_cases h1 : keyN b ≤ keyN c
  · exact Or.inr ⟨(cmp_le b c h1).1, (cmp_le a c (by omega)).2⟩
  · exact Or.inl (cmp_no b c (by omega))

set_option maxRecDepth 100000 in
set_option maxHeartbeats 8000000 in
theorem law_FloOrder (a b c : Nat) (w : World) (ht : Tab w) (ha : a < 18446744073709551616) (hb : b < 18446744073709551616) (hc : c < 18446744073709551616) :
    Calls Tryd.prog 5 #[.float .f64 a, .float .f64 b, .float .f64 c] w fun e w' => e = .returned (.bool true) ∧ Below w.heap.size w w' := by
  have T := tail_any a b ha hb
  unfold Tail at T
  rcases Nat.lt_trichotomy (keyN a) (keyN b) with h | h | h
  · rw [show decide (keyN a < keyN b) = true by simp; omega, show decide (keyN b < keyN a) = false by simp; omega] at T
    have M := mid_any a b c (by omega)
    unfold Mid at M
    have C1 := Lib.hid fun w => cmp_lt a b w ha hb (by omega)
    have C2 := Lib.hid fun w => cmp_gt b a w hb ha (by omega)
    have S := Lib.hid fun w => same_no a b w ha hb (by omega)
    clear h
    rcases T with t1 | ⟨t1, t2⟩ | ⟨t1, t2, t3, t4⟩ | ⟨t1, t2, t3, t4, t5, t6⟩ | ⟨t1, t2, t3, t5, t6⟩ <;> rcases M with m1 | ⟨m1, m2⟩
    all_goals
      go_enter Tryd.func5, Tryd.ntmps5
      go_wp2_with fail
      refine (awake_any _ ht).mono ?_
      rintro e w' ⟨rfl, hbl⟩
      go_wp2_with fail
      refine (C1.out _).mono ?_
      rintro e w' ⟨rfl, rfl⟩
      go_wp2_with fail
      refine (C2.out _).mono ?_
      rintro e w' ⟨rfl, rfl⟩
      go_wp2_with fail
      refine (cmp_refl a _ ha).mono ?_
      rintro e w' ⟨rfl, rfl⟩
      go_wp2_with fail
      refine (S.out _).mono ?_
      rintro e w' ⟨rfl, rfl⟩
      go_wp2_with fail
      refine (cmp_any b c _ hb hc).mono ?_
      rintro e w' ⟨rfl, rfl⟩
      go_wp2_with (first | (go_at_call 20; (with_reducible refine (cmp_any a c _ ha hc).mono ?_); rintro e w' ⟨rfl, rfl⟩) | (go_at_call 16; (with_reducible refine (class_any a _ ha).mono ?_); rintro e w' ⟨rfl, rfl⟩) | (go_at_call 16; (with_reducible refine (class_any b _ hb).mono ?_); rintro e w' ⟨rfl, rfl⟩))
      go_ret
      exact ⟨rfl, hbl⟩
  · rw [show decide (keyN a < keyN b) = false by simp; omega, show decide (keyN b < keyN a) = false by simp; omega] at T
    have M := mid_any a b c (by omega)
    unfold Mid at M
    have C1 := Lib.hid fun w => cmp_eq a b w ha hb (by omega)
    have C2 := Lib.hid fun w => cmp_eq b a w hb ha (by omega)
    have S := Lib.hid fun w => same_yes a b w ha hb (by omega)
    clear h
    rcases T with t1 | ⟨t1, t2⟩ | ⟨t1, t2, t3, t4⟩ | ⟨t1, t2, t3, t4, t5, t6⟩ | ⟨t1, t2, t3, t5, t6⟩ <;> rcases M with m1 | ⟨m1, m2⟩
    all_goals
      go_enter Tryd.func5, Tryd.ntmps5
      go_wp2_with fail
      refine (awake_any _ ht).mono ?_
      rintro e w' ⟨rfl, hbl⟩
      go_wp2_with fail
      refine (C1.out _).mono ?_
      rintro e w' ⟨rfl, rfl⟩
      go_wp2_with fail
      refine (C2.out _).mono ?_
      rintro e w' ⟨rfl, rfl⟩
      go_wp2_with fail
      refine (cmp_refl a _ ha).mono ?_
      rintro e w' ⟨rfl, rfl⟩
      go_wp2_with fail
      refine (S.out _).mono ?_
      rintro e w' ⟨rfl, rfl⟩
      go_wp2_with fail
      refine (cmp_any b c _ hb hc).mono ?_
      rintro e w' ⟨rfl, rfl⟩
      go_wp2_with (first | (go_at_call 20; (with_reducible refine (cmp_any a c _ ha hc).mono ?_); rintro e w' ⟨rfl, rfl⟩) | (go_at_call 16; (with_reducible refine (class_any a _ ha).mono ?_); rintro e w' ⟨rfl, rfl⟩) | (go_at_call 16; (with_reducible refine (class_any b _ hb).mono ?_); rintro e w' ⟨rfl, rfl⟩))
      go_ret
      exact ⟨rfl, hbl⟩
  · rw [show decide (keyN a < keyN b) = false by simp; omega, show decide (keyN b < keyN a) = true by simp; omega] at T
    have C1 := Lib.hid fun w => cmp_gt a b w ha hb (by omega)
    have C2 := Lib.hid fun w => cmp_lt b a w hb ha (by omega)
    have S := Lib.hid fun w => same_no a b w ha hb (by omega)
    clear h
    rcases T with t1 | ⟨t1, t2⟩ | ⟨t1, t2, t3, t4⟩ | ⟨t1, t2, t3, t4, t5, t6⟩ | ⟨t1, t2, t3, t5, t6⟩
    all_goals
      go_enter Tryd.func5, Tryd.ntmps5
      go_wp2_with fail
      refine (awake_any _ ht).mono ?_
      rintro e w' ⟨rfl, hbl⟩
      go_wp2_with fail
      refine (C1.out _).mono ?_
      rintro e w' ⟨rfl, rfl⟩
      go_wp2_with fail
      refine (C2.out _).mono ?_
      rintro e w' ⟨rfl, rfl⟩
      go_wp2_with fail
      refine (cmp_refl a _ ha).mono ?_
      rintro e w' ⟨rfl, rfl⟩
      go_wp2_with fail
      refine (S.out _).mono ?_
      rintro e w' ⟨rfl, rfl⟩
      go_wp2_with (first | (go_at_call 20; (with_reducible refine (cmp_any a c _ ha hc).mono ?_); rintro e w' ⟨rfl, rfl⟩) | (go_at_call 16; (with_reducible refine (class_any a _ ha).mono ?_); rintro e w' ⟨rfl, rfl⟩) | (go_at_call 16; (with_reducible refine (class_any b _ hb).mono ?_); rintro e w' ⟨rfl, rfl⟩))
      go_ret
      exact ⟨rfl, hbl⟩

def m1W : Nat := 13830554455654793216

theorem key_nan (a b : Nat) (ha : a < 18446744073709551616) (hb : b < 18446744073709551616) (h : nanB a = true ∨ nanB b = true) : sameN a b = (cls a == cls b) := by
  have key (x : Nat) (hx : x < 18446744073709551616) (hn : nanB x = false) : keyN x ≠ 18446744073709551615 := by
    have := nanB_no x hn
    rw [keyN_of x hn]
    unfold Fl.rung at this
    split <;> omega
  have kn (x : Nat) (hn : nanB x = true) : keyN x = 18446744073709551615 := by unfold keyN; rw [hn]; simp
  have cz (x : Nat) (hn : nanB x = true) : cls x = 0 := by unfold cls; rw [hn]; simp
  have cn (x : Nat) (hn : nanB x = false) : cls x ≠ 0 := by have h := cls_b x hn; simpa using h
  unfold sameN
  cases na : nanB a <;> cases nb : nanB b
  · rcases h with h | h
    · rw [na] at h; cases h
    · rw [nb] at h; cases h
  · rw [kn b nb, cz b nb]; simp [key a ha na, cn a na]
  · rw [kn a na, cz a na]; have h1 := key b hb nb; have h2 := cn b nb; rw [Bool.eq_iff_iff]; simp only [decide_eq_true_eq, beq_iff_eq]; exact ⟨fun e => absurd e.symm h1, fun e => absurd e.symm h2⟩
  · rw [kn a na, kn b nb, cz a na, cz b nb]; simp

theorem copy_m1 (a : Nat) (h : sgnB a = false) : copyN a m1W = a + 9223372036854775808 := by
  have := (sgnB_no a).1 h
  unfold copyN
  rw [show sgnB m1W = true by decide, if_pos rfl, Nat.mod_eq_of_lt this]

theorem copy_lt (a b : Nat) : copyN a b < 18446744073709551616 := by
  unfold copyN; split <;> omega

theorem cls_turn (a : Nat) (hn : nanB a = false) (hs : sgnB a = false) : cls a + cls (copyN a m1W) = 7 := by
  rw [copy_m1 a hs]
  have h1 := (sgnB_no a).1 hs
  have h2 := nanB_no a hn
  have n2 : nanB (a + 9223372036854775808) = false := by
    unfold nanB Fl.isNan Fl.rung; unfold Fl.rung at h2; exact decide_eq_false (by omega)
  unfold cls
  rw [hn, n2]
  unfold Fl.rung at h2
  unfold infNB infPB ltzB gtzB sgnB
  have i1 : ¬ Fl.isNan a := of_decide_eq_false hn
  have i2 : ¬ Fl.isNan (a + 9223372036854775808) := of_decide_eq_false n2
  simp only [Bool.false_eq_true, if_false, i1, i2, not_false_eq_true, true_and, decide_eq_true_eq]
  by_cases e1 : a = 9218868437227405312
  · subst e1; decide
  · by_cases e2 : a = 0
    · subst e2; decide
    · rw [if_neg (by omega), if_neg (by omega), if_neg (by omega), if_pos (by omega), if_neg (by omega), if_neg (by omega), if_pos (by omega)]; rfl

theorem cmp_turn (a b : Nat) (ha : nanB a = false) (hb : nanB b = false) (sa : sgnB a = false) (sb : sgnB b = false) : cmpN (copyN b m1W) (copyN a m1W) = cmpN a b := by
  have h1 := (sgnB_no a).1 sa
  have h2 := (sgnB_no b).1 sb
  have n (x : Nat) (h : x < 9223372036854775808) (hn : nanB x = false) : nanB (x + 9223372036854775808) = false := by
    have h2 := nanB_no x hn
    unfold nanB Fl.isNan Fl.rung; unfold Fl.rung at h2; exact decide_eq_false (by omega)
  rw [copy_m1 a sa, copy_m1 b sb]
  unfold cmpN
  rw [keyN_of a ha, keyN_of b hb, keyN_of _ (n a h1 ha), keyN_of _ (n b h2 hb)]
  rw [if_neg (show ¬ 9223372036854775808 ≤ a by omega), if_neg (show ¬ 9223372036854775808 ≤ b by omega), if_pos (show 9223372036854775808 ≤ a + 9223372036854775808 by omega), if_pos (show 9223372036854775808 ≤ b + 9223372036854775808 by omega)]
  rcases Nat.lt_trichotomy a b with h | h | h
  · rw [if_pos (by omega), if_pos (by omega)]
  · rw [if_neg (by omega), if_neg (by omega), if_neg (by omega), if_neg (by omega)]
  · rw [if_neg (by omega), if_pos (by omega), if_neg (by omega), if_pos (by omega)]

theorem copy_any (a : Nat) (w : World) (ha : a < 18446744073709551616) :
    Calls Tryd.prog 17 #[.float .f64 a, .float .f64 13830554455654793216] w fun e w' => e = .returned (.float .f64 (copyN a m1W)) ∧ w = w' := copysign_any a m1W w ha (by decide)

theorem cmp_to (a b : Nat) (z : Int) (hz : cmpN a b = z) (w : World) (ha : a < 18446744073709551616) (hb : b < 18446744073709551616) :
    Calls Tryd.prog 20 #[.float .f64 a, .float .f64 b] w fun e w' => e = .returned (.int .i64 z) ∧ w = w' :=
  hz ▸ cmp_any a b w ha hb

set_option maxRecDepth 100000 in
set_option maxHeartbeats 8000000 in
theorem law_FloSigns (a b : Nat) (w : World) (ht : Tab w) (ha : a < 18446744073709551616) (hb : b < 18446744073709551616) :
    Calls Tryd.prog 8 #[.float .f64 a, .float .f64 b] w fun e w' => e = .returned (.bool true) ∧ Below w.heap.size w w' := by
  have xa := copy_lt a m1W
  have xb := copy_lt b m1W
  cases na : nanB a
  · have ca := cls_b a na
    cases nb : nanB b
    · have cb := cls_b b nb
      cases sa : sgnB a
      · have E := cls_turn a na sa
        have hE : ((wrap64 (cls a + cls (copyN a m1W))) != 7) = false := by rw [E]; unfold wrap64; decide
        clear E
        cases sb : sgnB b
        · have C2 := Lib.hid fun w => cmp_to (copyN b m1W) (copyN a m1W) _ (cmp_turn a b na nb sa sb) w xb xa
          clear na nb
          go_enter Tryd.func8, Tryd.ntmps8
          go_wp2_with fail
          refine (awake_any _ ht).mono ?_
          rintro e w' ⟨rfl, hbl⟩
          go_wp2_with (first | (go_at_call 16; (with_reducible refine (class_any a _ ha).mono ?_); rintro e w' ⟨rfl, rfl⟩) | (go_at_call 16; (with_reducible refine (class_any b _ hb).mono ?_); rintro e w' ⟨rfl, rfl⟩) | (go_at_call 16; (with_reducible refine (class_any (copyN a m1W) _ xa).mono ?_); rintro e w' ⟨rfl, rfl⟩) | (go_at_call 17; (with_reducible refine (copy_any a _ ha).mono ?_); rintro e w' ⟨rfl, rfl⟩) | (go_at_call 17; (with_reducible refine (copy_any b _ hb).mono ?_); rintro e w' ⟨rfl, rfl⟩) | (go_at_call 33; (with_reducible refine (signbit_any a _ ha).mono ?_); rintro e w' ⟨rfl, rfl⟩) | (go_at_call 33; (with_reducible refine (signbit_any b _ hb).mono ?_); rintro e w' ⟨rfl, rfl⟩) | (go_at_call 20; (with_reducible refine (cmp_any a b _ ha hb).mono ?_); rintro e w' ⟨rfl, rfl⟩) | (go_at_call 20; (with_reducible refine (C2.out _).mono ?_); rintro e w' ⟨rfl, rfl⟩))
          go_ret
          exact ⟨rfl, hbl⟩
        · clear na nb
          go_enter Tryd.func8, Tryd.ntmps8
          go_wp2_with fail
          refine (awake_any _ ht).mono ?_
          rintro e w' ⟨rfl, hbl⟩
          go_wp2_with (first | (go_at_call 16; (with_reducible refine (class_any a _ ha).mono ?_); rintro e w' ⟨rfl, rfl⟩) | (go_at_call 16; (with_reducible refine (class_any b _ hb).mono ?_); rintro e w' ⟨rfl, rfl⟩) | (go_at_call 16; (with_reducible refine (class_any (copyN a m1W) _ xa).mono ?_); rintro e w' ⟨rfl, rfl⟩) | (go_at_call 17; (with_reducible refine (copy_any a _ ha).mono ?_); rintro e w' ⟨rfl, rfl⟩) | (go_at_call 17; (with_reducible refine (copy_any b _ hb).mono ?_); rintro e w' ⟨rfl, rfl⟩) | (go_at_call 33; (with_reducible refine (signbit_any a _ ha).mono ?_); rintro e w' ⟨rfl, rfl⟩) | (go_at_call 33; (with_reducible refine (signbit_any b _ hb).mono ?_); rintro e w' ⟨rfl, rfl⟩) | (go_at_call 20; (with_reducible refine (cmp_any a b _ ha hb).mono ?_); rintro e w' ⟨rfl, rfl⟩))
          go_ret
          exact ⟨rfl, hbl⟩
      · clear na nb
        go_enter Tryd.func8, Tryd.ntmps8
        go_wp2_with fail
        refine (awake_any _ ht).mono ?_
        rintro e w' ⟨rfl, hbl⟩
        go_wp2_with (first | (go_at_call 16; (with_reducible refine (class_any a _ ha).mono ?_); rintro e w' ⟨rfl, rfl⟩) | (go_at_call 16; (with_reducible refine (class_any b _ hb).mono ?_); rintro e w' ⟨rfl, rfl⟩) | (go_at_call 16; (with_reducible refine (class_any (copyN a m1W) _ xa).mono ?_); rintro e w' ⟨rfl, rfl⟩) | (go_at_call 17; (with_reducible refine (copy_any a _ ha).mono ?_); rintro e w' ⟨rfl, rfl⟩) | (go_at_call 17; (with_reducible refine (copy_any b _ hb).mono ?_); rintro e w' ⟨rfl, rfl⟩) | (go_at_call 33; (with_reducible refine (signbit_any a _ ha).mono ?_); rintro e w' ⟨rfl, rfl⟩) | (go_at_call 33; (with_reducible refine (signbit_any b _ hb).mono ?_); rintro e w' ⟨rfl, rfl⟩) | (go_at_call 20; (with_reducible refine (cmp_any a b _ ha hb).mono ?_); rintro e w' ⟨rfl, rfl⟩))
        go_ret
        exact ⟨rfl, hbl⟩
    · have cb := cls_a b nb
      have S := key_nan a b ha hb (Or.inr nb)
      have S2 : (sameN a b == (cls a == cls b)) = true := by rw [S]; simp
      clear na nb S
      go_enter Tryd.func8, Tryd.ntmps8
      go_wp2_with fail
      refine (awake_any _ ht).mono ?_
      rintro e w' ⟨rfl, hbl⟩
      go_wp2_with (first | (go_at_call 16; (with_reducible refine (class_any a _ ha).mono ?_); rintro e w' ⟨rfl, rfl⟩) | (go_at_call 16; (with_reducible refine (class_any b _ hb).mono ?_); rintro e w' ⟨rfl, rfl⟩) | (go_at_call 16; (with_reducible refine (class_any (copyN a m1W) _ xa).mono ?_); rintro e w' ⟨rfl, rfl⟩) | (go_at_call 17; (with_reducible refine (copy_any a _ ha).mono ?_); rintro e w' ⟨rfl, rfl⟩) | (go_at_call 17; (with_reducible refine (copy_any b _ hb).mono ?_); rintro e w' ⟨rfl, rfl⟩) | (go_at_call 33; (with_reducible refine (signbit_any a _ ha).mono ?_); rintro e w' ⟨rfl, rfl⟩) | (go_at_call 33; (with_reducible refine (signbit_any b _ hb).mono ?_); rintro e w' ⟨rfl, rfl⟩) | (go_at_call 20; (with_reducible refine (cmp_any a b _ ha hb).mono ?_); rintro e w' ⟨rfl, rfl⟩) | (go_at_call 18; (with_reducible refine (same_any a b _ ha hb).mono ?_); rintro e w' ⟨rfl, rfl⟩))
      go_ret
      exact ⟨rfl, hbl⟩
  · have ca := cls_a a na
    have S := key_nan a b ha hb (Or.inl na)
    have S2 : (sameN a b == (cls a == cls b)) = true := by rw [S]; simp
    clear na S
    go_enter Tryd.func8, Tryd.ntmps8
    go_wp2_with fail
    refine (awake_any _ ht).mono ?_
    rintro e w' ⟨rfl, hbl⟩
    go_wp2_with (first | (go_at_call 16; (with_reducible refine (class_any a _ ha).mono ?_); rintro e w' ⟨rfl, rfl⟩) | (go_at_call 16; (with_reducible refine (class_any b _ hb).mono ?_); rintro e w' ⟨rfl, rfl⟩) | (go_at_call 16; (with_reducible refine (class_any (copyN a m1W) _ xa).mono ?_); rintro e w' ⟨rfl, rfl⟩) | (go_at_call 17; (with_reducible refine (copy_any a _ ha).mono ?_); rintro e w' ⟨rfl, rfl⟩) | (go_at_call 17; (with_reducible refine (copy_any b _ hb).mono ?_); rintro e w' ⟨rfl, rfl⟩) | (go_at_call 33; (with_reducible refine (signbit_any a _ ha).mono ?_); rintro e w' ⟨rfl, rfl⟩) | (go_at_call 33; (with_reducible refine (signbit_any b _ hb).mono ?_); rintro e w' ⟨rfl, rfl⟩) | (go_at_call 20; (with_reducible refine (cmp_any a b _ ha hb).mono ?_); rintro e w' ⟨rfl, rfl⟩) | (go_at_call 18; (with_reducible refine (same_any a b _ ha hb).mono ?_); rintro e w' ⟨rfl, rfl⟩))
    go_ret
    exact ⟨rfl, hbl⟩

end Go.Proofs.YtfpfgimgnmhnaaaDoor
