/-
  The mean of small whole numbers lies between the least and the greatest; their ranks.
-/
import Derived.Test.YtlbbbabieepabaaMint
namespace Go.Proofs.Ytlbbbabieepabaa
open Go.RowKit

theorem log_small {z : Nat} {T : Nat} (h0 : z ≠ 0) (h : z < 4194304) : (z * 2 ^ T).log2 ≤ 21 + T := by
  rw [Fl.log2_scale _ _ h0]
  have : z.log2 < 22 := by
    rw [Nat.log2_lt h0]
    have e : (2 : Nat) ^ 22 = 4194304 := by decide
    rw [e]; exact h
  omega

theorem mean_whole (S : Int) (n : Nat) (c d : Int) (hS : S.natAbs < 4194304) (hn : 1 ≤ n) (hn2 : n ≤ 100) (hc : -32768 ≤ c ∧ c ≤ 32767) (hd : -32768 ≤ d ∧ d ≤ 32767) (h1 : c * (n : Int) ≤ S) (h2 : S ≤ d * (n : Int)) :
    Fl.sval (fI c) ≤ Fl.sval (quoN (fI S) (fI n)) ∧ Fl.sval (quoN (fI S) (fI n)) ≤ Fl.sval (fI d) := by
  obtain ⟨T, hT⟩ : ∃ T : Nat, T = 1074 := ⟨_, rfl⟩
  have A := whole T hT S (by omega)
  have B := whole T hT (n : Int) (by omega)
  have C := whole T hT c (by omega)
  have D := whole T hT d (by omega)
  have hn0 : decide ((n : Int) < 0) = false := by simp
  have hnn : ((n : Nat) : Int).natAbs = n := by omega
  have hpos := Nat.two_pow_pos T
  have hB0 : Fl.mg (Fl.rung (fI (n : Int))) ≠ 0 := by rw [B.mg, hnn]; exact Nat.mul_ne_zero (by omega) (by omega)
  have hv : ∀ z : Int, Whole T z → Fl.sval (fI z) = if z < 0 then -(Fl.rung (fI z) : Int) else (Fl.rung (fI z) : Int) := by
    intro z Z
    have hw := Fl.word_self (fI z) Z.lt
    have := Fl.word_sval (Fl.neg (fI z)) (Fl.rung (fI z)) (Nat.le_of_lt Z.fin)
    rw [hw, Z.neg] at this
    rw [this]
    by_cases h : z < 0 <;> simp [h]
  rw [hv c C, hv d D]
  by_cases h0 : S = 0
  · have hr : Fl.rung (fI S) = 0 := by rw [h0, fI_zero]; decide
    have : floatBits .quo .f64 (fI S) (fI n) = _ := Fl.div_zero (fI S) (fI n) A.lt B.lt B.fin hr hB0
    have hq : Fl.sval (quoN (fI S) (fI n)) = 0 := by
      unfold quoN opN
      rw [this]
      show Fl.sval (Ieee.double.word _ 0) = 0
      rw [Fl.word_sval _ _ (by omega)]
      cases (Fl.neg (fI S) ^^ Fl.neg (fI n)) <;> rfl
    rw [hq]
    subst h0
    have hnI : (0 : Int) < (n : Int) := by omega
    have hc0 : c ≤ 0 := by
      rcases (show c ≤ 0 ∨ 0 < c by omega) with h | h
      · exact h
      · have := Int.mul_pos h hnI; omega
    have hd0 : 0 ≤ d := by
      rcases (show 0 ≤ d ∨ d < 0 by omega) with h | h
      · exact h
      · have := Int.mul_neg_of_neg_of_pos h hnI; omega
    have hcz : c = 0 → Fl.rung (fI c) = 0 := fun h => by rw [h, fI_zero]; decide
    constructor
    · split
      · omega
      · rw [hcz (by omega)]; simp
    · rw [if_neg (by omega)]; omega
  · have hA0 : Fl.mg (Fl.rung (fI S)) ≠ 0 := by rw [A.mg]; exact Nat.mul_ne_zero (by omega) (by omega)
    obtain ⟨R, e, hR, hsp⟩ := Fl.div_spec T hT (fI S) (fI n) A.lt B.lt A.fin B.fin hA0 hB0
    have hq : Fl.sval (quoN (fI S) (fI n)) = if S < 0 then -(R : Int) else (R : Int) := by
      have : floatBits .quo .f64 (fI S) (fI n) = _ := e
      unfold quoN opN
      rw [this, A.neg, B.neg, hn0, Bool.xor_false]
      show Fl.sval (Ieee.double.word _ R) = _
      rw [Fl.word_sval _ _ hR]
      by_cases h : S < 0 <;> simp [h]
    rw [hq]
    have grain : ∀ z : Int, Whole T z → z.natAbs < 4194304 → 2 ^ ((Fl.mg (Fl.rung (fI S))).log2 + 1020 - (Fl.mg (Fl.rung (fI (n : Int)))).log2) ∣ Fl.mg (Fl.rung (fI z)) := by
      intro z Z _
      rw [A.mg, B.mg, hnn, Z.mg]
      have l1 := log_small (T := T) (show S.natAbs ≠ 0 by omega) hS
      have l2 : T ≤ (n * 2 ^ T).log2 := by rw [Fl.log2_scale _ _ (by omega)]; omega
      exact Nat.dvd_trans (Nat.pow_dvd_pow 2 (by omega)) (Nat.dvd_mul_left _ _)
    have up : ∀ z : Int, Whole T z → z.natAbs < 4194304 → S.natAbs ≤ z.natAbs * n → R ≤ Fl.rung (fI z) := by
      intro z Z hz h
      refine (hsp _ (Nat.le_of_lt Z.fin) (grain z Z hz)).1 ?_
      rw [A.mg, B.mg, hnn, Z.mg, Nat.mul_mul_mul_comm, Nat.mul_assoc S.natAbs]
      exact Nat.mul_le_mul_right _ h
    have down : ∀ z : Int, Whole T z → z.natAbs < 4194304 → z.natAbs * n ≤ S.natAbs → Fl.rung (fI z) ≤ R := by
      intro z Z hz h
      refine (hsp _ (Nat.le_of_lt Z.fin) (grain z Z hz)).2 ?_
      rw [A.mg, B.mg, hnn, Z.mg, Nat.mul_mul_mul_comm, Nat.mul_assoc S.natAbs]
      exact Nat.mul_le_mul_right _ h
    have hnI : (0 : Int) < (n : Int) := by omega
    have key : ∀ z : Int, ((z.natAbs * n : Nat) : Int) = if z < 0 then -(z * (n : Int)) else z * (n : Int) := by
      intro z
      rw [Int.natCast_mul]
      split
      · rw [show ((z.natAbs : Nat) : Int) = -z by omega, Int.neg_mul]
      · rw [show ((z.natAbs : Nat) : Int) = z by omega]
    have kc := key c
    have kd := key d
    have pc : c < 0 → c * (n : Int) < 0 := fun h => Int.mul_neg_of_neg_of_pos h hnI
    have pd : d < 0 → d * (n : Int) < 0 := fun h => Int.mul_neg_of_neg_of_pos h hnI
    have qc : 0 ≤ c → 0 ≤ c * (n : Int) := fun h => Int.mul_nonneg h (Int.le_of_lt hnI)
    have qd : 0 ≤ d → 0 ≤ d * (n : Int) := fun h => Int.mul_nonneg h (Int.le_of_lt hnI)
    generalize c * (n : Int) = cn at *
    generalize d * (n : Int) = dn at *
    by_cases hs : S < 0
    · rw [if_pos hs]
      constructor
      · by_cases hc0 : c < 0
        · rw [if_pos hc0] at kc ⊢
          have := up c C (by omega) (by omega)
          omega
        · have := qc (by omega); omega
      · by_cases hd0 : d < 0
        · rw [if_pos hd0] at kd ⊢
          have := down d D (by omega) (by omega)
          omega
        · rw [if_neg hd0]; omega
    · rw [if_neg hs]
      constructor
      · by_cases hc0 : c < 0
        · rw [if_pos hc0]; omega
        · rw [if_neg hc0] at kc ⊢
          have := down c C (by omega) (by omega)
          omega
      · by_cases hd0 : d < 0
        · have := pd hd0; omega
        · rw [if_neg hd0] at kd ⊢
          have := up d D (by omega) (by omega)
          omega

/-- Neither below nor above. -/
theorem not_lt {a b : Nat} (ha : a < 18446744073709551616) (hb : b < 18446744073709551616) (na : nanB a = false) (nb : nanB b = false) (h : Fl.sval b ≤ Fl.sval a) : (FloatKind.f64.format.order a b == some .lt) = false := by
  show (Ieee.double.order a b == some .lt) = false
  rw [Fl.order_eq a b ha hb, if_neg (by
    unfold nanB at na nb
    rintro (h | h)
    · exact of_decide_eq_false na h
    · exact of_decide_eq_false nb h)]
  unfold Fl.cmpI
  rw [if_neg (by omega)]
  split <;> rfl
theorem not_gt {a b : Nat} (ha : a < 18446744073709551616) (hb : b < 18446744073709551616) (na : nanB a = false) (nb : nanB b = false) (h : Fl.sval a ≤ Fl.sval b) : (FloatKind.f64.format.order a b == some .gt) = false := by
  show (Ieee.double.order a b == some .gt) = false
  rw [Fl.order_eq a b ha hb, if_neg (by
    unfold nanB at na nb
    rintro (h | h)
    · exact of_decide_eq_false na h
    · exact of_decide_eq_false nb h)]
  unfold Fl.cmpI
  by_cases h1 : Fl.sval a < Fl.sval b
  · rw [if_pos h1]; rfl
  · rw [if_neg h1, if_pos (by omega)]; rfl

theorem rank_le (l : List Nat) {x y : Nat} (h : keyN x ≤ keyN y) : rankN l x ≤ rankN l y := by
  unfold rankN
  refine List.countP_mono_left ?_
  intro z _ hz
  simp at hz ⊢
  omega
theorem rank_none (l : List Nat) (x : Nat) (h : ∀ y ∈ l, keyN x ≤ keyN y) : rankN l x = 0 := by
  unfold rankN; rw [List.countP_eq_zero]
  intro y hy
  have := h y hy
  simp; omega
theorem rank_all (l : List Nat) (x : Nat) (h : ∀ y ∈ l, keyN y < keyN x) : rankN l x = l.length := by
  unfold rankN; rw [List.countP_eq_length]
  intro y hy
  simpa using h y hy

/-- All that the statement asks of small whole numbers. -/
structure RanksOk (l : List Int) : Prop where
  nums : numsL (l.map fI) = l.map fI
  fins : finL (l.map fI) = l.map fI
  sum : sumN (l.map fI) = fI (sumI l)
  sumLt : fI (sumI l) < 18446744073709551616
  sumNan : nanB (fI (sumI l)) = false
  leastLt : minN (l.map fI) < 18446744073709551616
  mostLt : maxN (l.map fI) < 18446744073709551616
  leastNan : nanB (minN (l.map fI)) = false
  mostNan : nanB (maxN (l.map fI)) = false
  meanNan : nanB (meanN (l.map fI)) = false
  smoothNan : nanB (smoothN (l.map fI)) = false
  mean1 : Fl.sval (minN (l.map fI)) ≤ Fl.sval (meanN (l.map fI))
  mean2 : Fl.sval (meanN (l.map fI)) ≤ Fl.sval (maxN (l.map fI))
  smooth1 : Fl.sval (minN (l.map fI)) ≤ Fl.sval (smoothN (l.map fI))
  smooth2 : Fl.sval (smoothN (l.map fI)) ≤ Fl.sval (maxN (l.map fI))
  smoothLt : smoothN (l.map fI) < 18446744073709551616
  rank0 : rankN (l.map fI) (minN (l.map fI)) = 0
  rankAll : rankN (l.map fI) 9218868437227405312 = l.length

theorem ranks_ok (l : List Int) (hs : Smalls l) (hne : l ≠ []) (hn : l.length ≤ 60) : RanksOk l := by
  obtain ⟨c, hc, e1, hcl, hck⟩ := least_whole hs hne
  obtain ⟨d, hd, e2, hdl⟩ := most_whole hs hne
  have hc' := hs c hc
  have hd' := hs d hd
  have C := small_whole hc'
  have D := small_whole hd'
  have hlen : 0 < l.length := List.length_pos_iff.2 hne
  have hS := sumI_le l hs
  have W := whole 1074 rfl (sumI l) (by omega)
  have hm := mean_whole (sumI l) l.length c d (by omega) (by omega) (by omega) hc' hd' (by have := sumI_lower l [] c hcl (by simp [sumI]); simpa using this) (by have := sumI_upper l [] d hdl (by simp [sumI]); simpa using this)
  have em : meanN (l.map fI) = quoN (fI (sumI l)) (fI (l.length : Nat)) := by
    unfold meanN
    rw [if_neg (by simp; omega), sum_whole l hs (by omega), List.length_map]; rfl
  obtain ⟨x, t, rfl⟩ := List.exists_cons_of_ne_nil hne
  have hsm := smooth_between (fI c) (fI d) C.fin D.fin 1095 (by omega) (by
      obtain ⟨T, hT⟩ : ∃ T : Nat, T = 1074 := ⟨_, rfl⟩
      have C := whole T hT c (by omega)
      have D := whole T hT d (by omega)
      rw [C.smg, D.smg, ← Int.sub_mul, show (1095 : Nat) = 21 + T by omega, Nat.pow_add, Int.natCast_mul]
      have e21 : ((2 ^ 21 : Nat) : Int) = 2097152 := by decide
      rw [e21]
      exact Int.mul_lt_mul_of_pos_right (by omega) (by have := Nat.two_pow_pos T; omega)) (t.map fI) (fI x) (small_whole (hs x (by simp))).lt
    ((sval_le_whole hc' (hs x (by simp))).2 (hcl x (by simp))) ((sval_le_whole (hs x (by simp)) hd').2 (hdl x (by simp)))
    (fun y hy => by
      obtain ⟨z, hz, rfl⟩ := List.mem_map.1 hy
      have hz' := hs z (by simp [hz])
      exact ⟨(small_whole hz').lt, (sval_le_whole hc' hz').2 (hcl z (by simp [hz])), (sval_le_whole hz' hd').2 (hdl z (by simp [hz]))⟩)
  have es : smoothN ((x :: t).map fI) = (t.map fI).foldl smoothS (fI x) := rfl
  refine ⟨smalls_nums hs, smalls_fin hs, sum_whole _ hs (by omega), W.lt, (nan_iff _).2 (Nat.le_of_lt W.fin), ?_, ?_, ?_, ?_, ?_, ?_, ?_, ?_, ?_, ?_, ?_, ?_, ?_⟩
  · rw [e1]; exact C.lt
  · rw [e2]; exact D.lt
  · rw [e1]; exact small_nan hc'
  · rw [e2]; exact small_nan hd'
  · rw [em]; exact (nan_iff _).2 (Nat.le_of_lt (fin_of_sval C.fin D.fin hm.1 hm.2))
  · rw [es]; exact (nan_iff _).2 (Nat.le_of_lt (fin_of_sval C.fin D.fin hsm.2.1 hsm.2.2))
  · rw [e1, em]; exact hm.1
  · rw [e2, em]; exact hm.2
  · rw [e1, es]; exact hsm.2.1
  · rw [e2, es]; exact hsm.2.2
  · rw [es]; exact hsm.1
  · rw [e1]; exact rank_none _ _ (fun y hy => by obtain ⟨z, hz, rfl⟩ := List.mem_map.1 hy; exact hck z hz)
  · rw [rank_all]
    · simp
    · intro y hy
      obtain ⟨z, hz, rfl⟩ := List.mem_map.1 hy
      have hz' := hs z hz
      have k := (key_span (fI z) (small_whole hz').lt (small_nan hz')).2
      rcases Nat.lt_or_eq_of_le k with h | h
      · exact h
      · have := key_inj (small_whole hz').lt (by decide) (small_nan hz') (by decide +kernel) h
        have hf := (small_whole hz').fin
        rw [this] at hf
        exact absurd hf (by show ¬ (Fl.rung 9218868437227405312 < 9218868437227405312); decide)

end Go.Proofs.Ytlbbbabieepabaa
