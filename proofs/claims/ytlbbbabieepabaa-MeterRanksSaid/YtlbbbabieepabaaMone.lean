/-
  One number again and again: the walk of the statement.
-/
import Derived.Test.YtlbbbabieepabaaMnone
import Derived.Test.YtlbbbabieepabaaMsm
namespace Go.Proofs.Ytlbbbabieepabaa
open Go.RowKit

theorem mg_grain (r : Nat) : 2 ^ ((Fl.mg r).log2 - 52) ∣ Fl.mg r := by
  by_cases h1 : r < 4503599627370496
  · have e : Fl.mg r = r := by unfold Fl.mg; rw [if_pos h1]
    rw [e]
    have : r.log2 - 52 = 0 := by
      by_cases hr : r = 0
      · subst hr; simp
      · have : r.log2 < 52 := by rw [Nat.log2_lt hr]; exact h1
        omega
    rw [this]; exact Nat.one_dvd r
  · have e : Fl.mg r = (4503599627370496 + r % 4503599627370496) * 2 ^ (r / 4503599627370496 - 1) := by unfold Fl.mg; rw [if_neg h1]
    have hf : (4503599627370496 + r % 4503599627370496) ≠ 0 := by omega
    have hl : (4503599627370496 + r % 4503599627370496).log2 < 53 := by
      rw [Nat.log2_lt hf]
      have e : (2 : Nat) ^ 53 = 9007199254740992 := by decide
      rw [e]; omega
    rw [e, Fl.log2_scale _ _ hf]
    exact Nat.dvd_trans (Nat.pow_dvd_pow 2 (by omega)) (Nat.dvd_mul_left _ _)

def oneF : Nat := 4607182418800017408
theorem one_of : floatOfInt .f64 ((1 : Nat) : Int) = oneF := by decide +kernel
theorem one_mg : Fl.mg (Fl.rung oneF) = 2 ^ 1074 := by decide +kernel
theorem one_log : (Fl.mg (Fl.rung oneF)).log2 = 1074 := by decide +kernel
theorem one_fin : Fl.fin oneF := show Fl.rung oneF < 9218868437227405312 by decide +kernel
theorem one_neg : Fl.neg oneF = false := by decide +kernel
theorem one_pos : Fl.mg (Fl.rung oneF) ≠ 0 := by decide +kernel

/-- A number divided by one is that number. -/
theorem quo_one (a : Nat) (ha : a < 18446744073709551616) (fa : Fl.fin a) : Fl.sval (quoN a oneF) = Fl.sval a := by
  have hw := Fl.word_self a ha
  by_cases h0 : Fl.rung a = 0
  · have : floatBits .quo .f64 a oneF = _ := Fl.div_zero a oneF ha (by decide) one_fin h0 one_pos
    unfold quoN opN
    rw [this, one_neg, Bool.xor_false]
    show Fl.sval (Ieee.double.word _ _) = _
    rw [← h0, hw]
  · have hp := mg_pos (Nat.pos_of_ne_zero h0)
    obtain ⟨R, h1, hR, h2⟩ := Fl.div_spec 1074 rfl a oneF ha (by decide) fa one_fin (by omega) one_pos
    have h3 := h2 (Fl.rung a) (Nat.le_of_lt fa) (by
      rw [one_log]
      exact Nat.dvd_trans (Nat.pow_dvd_pow 2 (by omega)) (mg_grain _))
    rw [one_mg] at h3
    have hR2 : R = Fl.rung a := Nat.le_antisymm (h3.1 (Nat.le_refl _)) (h3.2 (Nat.le_refl _))
    have : floatBits .quo .f64 a oneF = _ := h1
    unfold quoN opN
    rw [this, one_neg, Bool.xor_false, hR2]
    show Fl.sval (Ieee.double.word _ _) = _
    rw [hw]

theorem order_same {a b : Nat} (ha : a < 18446744073709551616) (hb : b < 18446744073709551616) (na : nanB a = false) (nb : nanB b = false) (h : Fl.sval a = Fl.sval b) : (FloatKind.f64.format.order a b == some .eq) = true := by
  show (Ieee.double.order a b == some .eq) = true
  rw [Fl.order_eq a b ha hb, if_neg (by
    unfold nanB at na nb
    rintro (h | h)
    · exact of_decide_eq_false na h
    · exact of_decide_eq_false nb h), h]
  unfold Fl.cmpI
  simp

theorem reps_nums {x : Nat} (hx : nanB x = false) (m : Nat) : numsL (List.replicate m x) = List.replicate m x := by
  unfold numsL; rw [List.filter_replicate, if_pos (by simp [hx])]
theorem reps_fin {x : Nat} (hx : finB x = true) (m : Nat) : finL (List.replicate m x) = List.replicate m x := by
  unfold finL; rw [List.filter_replicate, if_pos hx]

theorem reps_min {x : Nat} (hx : nanB x = false) (hlt : x < 18446744073709551616) : ∀ (m : Nat), minN (List.replicate (m + 1) x) = x := by
  intro m
  have hno : ∀ y ∈ List.replicate (m + 1) x, nanB y = false := fun y hy => by rw [(List.mem_replicate.1 hy).2]; exact hx
  have hl : ∀ y ∈ List.replicate (m + 1) x, y < 18446744073709551616 := fun y hy => by rw [(List.mem_replicate.1 hy).2]; exact hlt
  obtain ⟨h1, h2, h3⟩ := minGo_ok _ 9218868437227405312 hno
  rcases h3 with h3 | h3
  · have := h2 x (by simp)
    have k := (key_span x hlt hx).2
    rw [h3] at this
    unfold minN
    rw [h3]
    exact key_inj (by decide) hlt (by decide +kernel) hx (by omega)
  · exact (List.mem_replicate.1 h3).2
theorem reps_max {x : Nat} (hx : nanB x = false) (hlt : x < 18446744073709551616) : ∀ (m : Nat), maxN (List.replicate (m + 1) x) = x := by
  intro m
  have hno : ∀ y ∈ List.replicate (m + 1) x, nanB y = false := fun y hy => by rw [(List.mem_replicate.1 hy).2]; exact hx
  obtain ⟨h1, h2, h3⟩ := maxGo_ok _ 18442240474082181120 hno
  rcases h3 with h3 | h3
  · have := h2 x (by simp)
    have k := (key_span x hlt hx).1
    rw [h3] at this
    unfold maxN
    rw [h3]
    exact key_inj (by decide) hlt (by decide +kernel) hx (by omega)
  · exact (List.mem_replicate.1 h3).2

theorem reps_smooth {x : Nat} (hf : finB x = true) (hlt : x < 18446744073709551616) (m : Nat) : smoothN (List.replicate (m + 1) x) < 18446744073709551616 ∧ Fl.sval (smoothN (List.replicate (m + 1) x)) = Fl.sval x ∧ nanB (smoothN (List.replicate (m + 1) x)) = false := by
  have ff := (fin_iff x).1 hf
  obtain ⟨h1, h2, h3⟩ := smooth_between x x ff ff 0 (by omega) (by simp) (List.replicate m x) x hlt (Int.le_refl _) (Int.le_refl _) (fun y hy => by
    rw [(List.mem_replicate.1 hy).2]; exact ⟨hlt, Int.le_refl _, Int.le_refl _⟩)
  have e : smoothN (List.replicate (m + 1) x) = (List.replicate m x).foldl smoothS x := by rw [List.replicate_succ]; rfl
  rw [e]
  exact ⟨h1, by omega, (nan_iff _).2 (Nat.le_of_lt (fin_of_sval ff ff h2 h3))⟩

theorem reps_rank (x m : Nat) : rankN (List.replicate m x) x = 0 := by
  unfold rankN; rw [List.countP_eq_zero]
  intro y hy
  rw [(List.mem_replicate.1 hy).2]; simp

theorem reps_mean {x : Nat} (hf : finB x = true) (hlt : x < 18446744073709551616) : meanN [x] < 18446744073709551616 ∧ Fl.sval (meanN [x]) = Fl.sval x ∧ nanB (meanN [x]) = false := by
  have ff := (fin_iff x).1 hf
  have f0 : Fl.fin 0 := show Fl.rung 0 < 9218868437227405312 by decide
  have hs := plus_fin (a := 0) (b := x) (by decide) hlt f0 ff
  have z : Fl.smg 0 = 0 := by decide
  rw [z, Int.zero_add] at hs
  have hv : Fl.sval (plusN 0 x) = Fl.sval x := by rw [hs, Fl.sumW_sval]; exact Fl.rdI_smg x (Nat.le_of_lt ff)
  have hl : plusN 0 x < 18446744073709551616 := by rw [hs]; exact Fl.sumW_lt _ _ _
  have hfp : Fl.fin (plusN 0 x) := fin_of_sval ff ff (by omega) (by omega)
  have e : meanN [x] = quoN (plusN 0 x) oneF := by unfold meanN; rw [if_neg (by simp)]; show quoN (sumN [x]) (floatOfInt .f64 ((1 : Nat) : Int)) = _; rw [one_of]; rfl
  have hq := quo_one _ hl hfp
  rw [e]
  exact ⟨opN_lt _ _ _, by omega, (nan_iff _).2 (Nat.le_of_lt (fin_of_sval ff ff (by omega) (by omega)))⟩

theorem sub_self {x : Nat} (hf : finB x = true) (hlt : x < 18446744073709551616) : floatBits .sub .f64 x x = some 0 := by
  have ff := (fin_iff x).1 hf
  have : floatBits .sub .f64 x x = _ := Fl.sub_fin x x hlt hlt ff ff
  rw [this, Int.sub_self]
  unfold Fl.sumW
  have e : Fl.rd (0 : Int).natAbs = 0 := Fl.rd_zero
  rw [if_pos rfl, e, Fl.word_eq]
  cases Fl.neg x <;> rfl

/-- What is no finite number less itself is no number. -/
theorem sub_wild {x : Nat} (hf : finB x = false) (hlt : x < 18446744073709551616) : nanB (opN .sub x x) = true := by
  cases hn : nanB x
  · have hr : Fl.rung x = 9218868437227405312 := by
      have h1 := (nan_iff x).1 hn
      have h2 : ¬ Fl.fin x := fun h => by rw [(fin_iff x).2 h] at hf; cases hf
      unfold Fl.fin at h2
      omega
    have e := Fl.read_inf x hlt hr
    have : floatBits .sub .f64 x x = none := by
      show ((Ieee.double.read x).sum (Ieee.double.read x).opposite).map _ = none
      rw [e]
      simp only [Ieee.Datum.opposite, Ieee.Datum.sum]
      cases decide (9223372036854775808 ≤ x) <;> rfl
    unfold opN; rw [this]; exact nanW_nan
  · unfold opN; rw [nan_none .sub rfl x x (Or.inl hn)]; exact nanW_nan

def OneRel (W : World) (p x m : Nat) (i : Value) (w : World) : Prop := ∃ (k : Nat) (F : Nat → Prop), k ≤ m ∧ i = .int .i64 (k : Nat) ∧ MeterAt w W.heap.size p F (List.replicate k x) ∧ Below W.heap.size W w

set_option maxRecDepth 100000 in
set_option maxHeartbeats 4000000 in
theorem one_main (x m : Nat) (W : World) (hx : x < 18446744073709551616) (hf : finB x = true) (hm : m + 1 ≤ 30) (h3 : (FloatKind.f64.format.order x 6103021453049119613 == some .gt) = false) (h4 : (FloatKind.f64.format.order x 15326393489903895421 == some .lt) = false) :
    Calls Try.prog 7 #[.float .f64 x, .int .i64 ((m + 1 : Nat) : Int)] W fun e w' => e = .returned (.bool true) ∧ Below W.heap.size W w' := by
  have hnan : nanB x = false := (nan_iff x).2 (Nat.le_of_lt ((fin_iff x).1 hf))
  have h1 := nan_self x hx
  rw [hnan] at h1
  have h2 : (FloatKind.f64.format.order 0 0 != some .eq) = false := by decide +kernel
  have n1 : ¬ ((m + 1 : Nat) : Int) < 1 := by omega
  have n2 : ¬ (30 : Int) < ((m + 1 : Nat) : Int) := by omega
  have hsub := fun w => run_float_arith (P := Try.prog) w .sub 28 .f64 x x 0 (sub_self hf hx)
  have HF := Lib.hid hf
  have HN := Lib.hid hnan
  have HM := Lib.hid hm
  generalize hmm : m + 1 = mm at *
  have MM := Lib.hid hmm
  clear hf hnan hmm hm
  go_enter Try.func7, Try.ntmps7
  go_wp2_with fail
  refine (awake_any W).mono ?_
  rintro e w0 ⟨rfl, hb0⟩
  have B0 := Lib.hid hb0
  clear hb0
  go_wp2_with fail
  refine (new_any w0 W.heap.size B0.out.size).mono ?_
  rintro e w1 ⟨rfl, hA1, hb1⟩
  have R0 : Hid (OneRel W w0.heap.size x mm (.int .i64 ((0 : Nat) : Int)) w1) := ⟨0, _, Nat.zero_le _, rfl, hA1, B0.out.trans (hb1.mono B0.out.size)⟩
  generalize w0.heap.size = p at *
  clear hA1 hb1
  go_wp2_with fail
  go_loopw [6] (fun i wr => OneRel W p x mm i wr) (fun i _ => mm - (intOf i).toNat)
  case atStart => exact R0.out
  case round =>
    obtain ⟨k, F, hk, rfl, hA, hW⟩ := hrel
    have HA := Lib.hid hA
    have HW := Lib.hid hW
    clear hA hW
    by_cases hlt : k < mm
    · go_wp2_with fail
      refine (add_over HA.out x hx (fun y hy => by rw [(List.mem_replicate.1 hy).2]; exact hx) (by have := HM.out; have := MM.out; simp; omega) (Nat.le_refl _) HW.out).mono ?_
      rintro e w2 ⟨rfl, F', hA', _, hW'⟩
      rw [← List.replicate_succ'] at hA'
      have R : Hid (OneRel W p x mm (.int .i64 ((k + 1 : Nat) : Int)) w2) := ⟨k + 1, F', by omega, rfl, hA', hW'⟩
      clear hA' hW'
      go_wp2_with fail
      go_roundw
      case rel => exact R.out
      case measure => simp [intOf]; omega
    · obtain rfl : k = mm := by omega
      have hme := MM.out
      have A : Hid (MeterAt wr W.heap.size p F (List.replicate (m + 1) x)) := by rw [hme]; exact HA.out
      have eN := Lib.hid (reps_nums HN.out (m + 1))
      have eF := Lib.hid (reps_fin HF.out (m + 1))
      have eS := Lib.hid (reps_smooth HF.out hx m)
      clear HA hme
      go_wp2_with fail
      refine (least_any wr _ _ _ _ A.out).mono ?_
      rintro e w' ⟨rfl, rfl⟩
      rw [eN.out, reps_min HN.out hx m]
      go_wp2_with fail
      refine (same2_any x x _ hx hx (Sim.refl _)).mono ?_
      rintro e w' ⟨rfl, rfl⟩
      go_wp2_with fail
      refine (most_any wr _ _ _ _ A.out).mono ?_
      rintro e w' ⟨rfl, rfl⟩
      rw [eN.out, reps_max HN.out hx m]
      go_wp2_with fail
      refine (same2_any x x _ hx hx (Sim.refl _)).mono ?_
      rintro e w' ⟨rfl, rfl⟩
      go_wp2_with fail
      refine (float_known (smooth_any wr _ _ _ _ A.out)).mono ?_
      rintro e w' ⟨r1, rfl, s1, l1, rfl⟩
      have o1 : (FloatKind.f64.format.order r1 x == some .eq) = true := by
        have := s1.out
        rw [eF.out] at this
        rw [this.eq eS.out.2.2]
        exact order_same eS.out.1 hx eS.out.2.2 HN.out eS.out.2.1
      go_wp2_with fail
      refine (rank_any wr _ _ _ _ x A.out hx (by have := HM.out; have := MM.out; simp; omega)).mono ?_
      rintro e w' ⟨rfl, q, rfl⟩
      rw [eN.out, reps_rank]
      by_cases h11 : 1 < k
      · have t1 : (1 : Int) < (k : Int) := by omega
        go_wp2_with fail
        go_ret
        exact ⟨rfl, below_drewN HW.out _⟩
      · have t1 : ¬ (1 : Int) < (k : Int) := by omega
        have hm0 : m = 0 := by have := MM.out; omega
        have d1 : decide ((1 : Int) < (k : Int)) = false := by simpa using t1
        have M0 := Lib.hid hm0
        clear hm0
        go_wp2_with fail
        refine (float_drew (mean_any (wr.drewN q) _ _ _ _ (A.out.drewN _))).mono ?_
        rintro e w' ⟨r2, q2, rfl, s2, l2, rfl⟩
        have o2 : (FloatKind.f64.format.order r2 x == some .eq) = true := by
          have := s2.out
          rw [eN.out, M0.out] at this
          obtain ⟨z1, z2, z3⟩ := reps_mean HF.out hx
          rw [this.eq z3]
          exact order_same z1 hx z3 HN.out z2
        go_wp2_with fail
        go_ret
        exact ⟨rfl, below_drewN HW.out _⟩

theorem nan_order (r : Nat) (h : nanB r = true) : (FloatKind.f64.format.order r 0 != some .eq) = true := by
  show (Ieee.double.order r 0 != some .eq) = true
  obtain ⟨n, f, e⟩ := Fl.read_nan r (of_decide_eq_true h)
  unfold Ieee.Format.order
  rw [e]; rfl

set_option maxRecDepth 100000 in
set_option maxHeartbeats 4000000 in
theorem law_MeterOne (x : Nat) (n : Int) (W : World) (hx : x < 18446744073709551616) (hn : -9223372036854775808 ≤ n ∧ n ≤ 9223372036854775807) :
    Calls Try.prog 7 #[.float .f64 x, .int .i64 n] W fun e w' => e = .returned (.bool true) ∧ Below W.heap.size W w' := by
  by_cases n1 : n < 1
  · clear hn
    go_enter Try.func7, Try.ntmps7
    go_wp2_with fail
    refine (awake_any W).mono ?_
    rintro e w0 ⟨rfl, hb0⟩
    have B0 := Lib.hid hb0
    clear hb0
    go_wp2_with fail
    go_ret
    exact ⟨rfl, B0.out⟩
  by_cases n2 : 30 < n
  · clear hn
    go_enter Try.func7, Try.ntmps7
    go_wp2_with fail
    refine (awake_any W).mono ?_
    rintro e w0 ⟨rfl, hb0⟩
    have B0 := Lib.hid hb0
    clear hb0
    go_wp2_with fail
    go_ret
    exact ⟨rfl, B0.out⟩
  obtain ⟨m, rfl⟩ : ∃ m : Nat, n = ((m + 1 : Nat) : Int) := ⟨(n - 1).toNat, by omega⟩
  have hm : m + 1 ≤ 30 := by omega
  clear hn
  have h1 := nan_self x hx
  cases hnan : nanB x
  · rw [hnan] at h1
    cases hf : finB x
    · have hw := sub_wild hf hx
      have HW := Lib.hid hw
      have HM := Lib.hid hm
      clear hnan hf hw hm
      generalize hmm : m + 1 = mm at *
      clear hmm
      go_enter Try.func7, Try.ntmps7
      go_wp2_with fail
      refine (awake_any W).mono ?_
      rintro e w0 ⟨rfl, hb0⟩
      have B0 := Lib.hid hb0
      clear hb0
      obtain ⟨r, q, e1, s1, l1⟩ := op_run .sub rfl 28 x x w0
      have hr : nanB r = true := by
        rcases s1 with h | ⟨h, _⟩
        · rw [h]; exact HW.out
        · exact h
      have o2 := nan_order r hr
      clear s1 hr
      go_wp2_with fail
      go_ret
      exact ⟨rfl, below_drewN B0.out _⟩
    · cases h3 : (FloatKind.f64.format.order x 6103021453049119613 == some .gt)
      · cases h4 : (FloatKind.f64.format.order x 15326393489903895421 == some .lt)
        · exact one_main x m W hx hf hm h3 h4
        · have h2 : (FloatKind.f64.format.order 0 0 != some .eq) = false := by decide +kernel
          have hsub := fun w => run_float_arith (P := Try.prog) w .sub 28 .f64 x x 0 (sub_self hf hx)
          clear hnan hf hm
          generalize hmm : m + 1 = mm at *
          clear hmm
          go_enter Try.func7, Try.ntmps7
          go_wp2_with fail
          refine (awake_any W).mono ?_
          rintro e w0 ⟨rfl, hb0⟩
          have B0 := Lib.hid hb0
          clear hb0
          go_wp2_with fail
          go_ret
          exact ⟨rfl, B0.out⟩
      · have h2 : (FloatKind.f64.format.order 0 0 != some .eq) = false := by decide +kernel
        have hsub := fun w => run_float_arith (P := Try.prog) w .sub 28 .f64 x x 0 (sub_self hf hx)
        clear hnan hf hm
        generalize hmm : m + 1 = mm at *
        clear hmm
        go_enter Try.func7, Try.ntmps7
        go_wp2_with fail
        refine (awake_any W).mono ?_
        rintro e w0 ⟨rfl, hb0⟩
        have B0 := Lib.hid hb0
        clear hb0
        go_wp2_with fail
        go_ret
        exact ⟨rfl, B0.out⟩
  · rw [hnan] at h1
    clear hnan hm
    generalize hmm : m + 1 = mm at *
    clear hmm
    go_enter Try.func7, Try.ntmps7
    go_wp2_with fail
    refine (awake_any W).mono ?_
    rintro e w0 ⟨rfl, hb0⟩
    have B0 := Lib.hid hb0
    clear hb0
    go_wp2_with fail
    go_ret
    exact ⟨rfl, B0.out⟩

end Go.Proofs.Ytlbbbabieepabaa
