/-
  Sums, means and the mean that forgets, held between the least and the greatest.
-/
import Derived.Test.YtlbbbabieepabaaRnd2
import Derived.Test.YtlbbbabieepabaaMturn
namespace Go.Proofs.Ytlbbbabieepabaa
open Go.RowKit

theorem nan_iff (b : Nat) : nanB b = false ↔ Fl.rung b ≤ 9218868437227405312 := by
  unfold nanB
  rw [decide_eq_false_iff_not]
  show ¬ (9218868437227405312 < Fl.rung b) ↔ _
  omega
theorem fin_iff (b : Nat) : finB b = true ↔ Fl.fin b := by
  unfold finB infB infPB Fl.fin
  have h := nan_iff b
  have e : b % 9223372036854775808 = Fl.rung b := rfl
  rw [e]
  cases hn : nanB b
  · have := h.1 hn
    simp
    omega
  · have : ¬ Fl.rung b ≤ 9218868437227405312 := fun hh => by rw [h.2 hh] at hn; cases hn
    simp
    omega

theorem plus_fin {a b : Nat} (ha : a < 18446744073709551616) (hb : b < 18446744073709551616) (fa : Fl.fin a) (fb : Fl.fin b) : plusN a b = Fl.sumW (Fl.neg a) (Fl.neg b) (Fl.smg a + Fl.smg b) := by
  have : floatBits .add .f64 a b = _ := Fl.add_fin a b ha hb fa fb
  unfold plusN opN; rw [this]; rfl
theorem minus_fin {a b : Nat} (ha : a < 18446744073709551616) (hb : b < 18446744073709551616) (fa : Fl.fin a) (fb : Fl.fin b) : minusN a b = Fl.sumW (Fl.neg a) (!Fl.neg b) (Fl.smg a - Fl.smg b) := by
  have : floatBits .sub .f64 a b = _ := Fl.sub_fin a b ha hb fa fb
  unfold minusN opN; rw [this]; rfl

theorem eight_mg : Fl.mg (Fl.rung eightW) = 2 ^ 1077 := by decide +kernel
theorem eight_log : (Fl.mg (Fl.rung eightW)).log2 = 1077 := by decide +kernel
theorem eight_fin : Fl.fin eightW := show Fl.rung eightW < 9218868437227405312 by decide +kernel
theorem eight_pos : Fl.mg (Fl.rung eightW) ≠ 0 := by decide +kernel
theorem eight_neg : Fl.neg eightW = false := by decide +kernel
theorem mg_pos {r : Nat} (h : 0 < r) : 0 < Fl.mg r := by have := Fl.mg_lt h; rw [Fl.mg_zero] at this; exact this

/-- An eighth: of the same sign, and not above a power of two that is above half of it. -/
theorem eighth (d : Nat) (hd : d < 18446744073709551616) (fd : Fl.fin d) (t : Nat) (ht : t ≤ 2000) (hb : Fl.mg (Fl.rung d) ≤ 2 * 2 ^ t) :
    ∃ R, quoN d eightW = Ieee.double.word (Fl.neg d) R ∧ R ≤ Fl.pw t := by
  by_cases h0 : Fl.rung d = 0
  · refine ⟨0, ?_, Nat.zero_le _⟩
    have : floatBits .quo .f64 d eightW = _ := Fl.div_zero d eightW hd (by decide) eight_fin h0 eight_pos
    unfold quoN opN; rw [this, eight_neg]; simp
  · have hp := mg_pos (Nat.pos_of_ne_zero h0)
    obtain ⟨R, h1, _, h2⟩ := Fl.div_spec 1074 rfl d eightW hd (by decide) fd eight_fin (by omega) eight_pos
    refine ⟨R, ?_, ?_⟩
    · have : floatBits .quo .f64 d eightW = _ := h1
      unfold quoN opN; rw [this, eight_neg]; simp
    · refine (h2 (Fl.pw t) (Nat.le_of_lt (Fl.pw_le ht)) ?_).1 ?_
      · rw [Fl.mg_pw, eight_log]
        refine Nat.pow_dvd_pow 2 ?_
        have : (Fl.mg (Fl.rung d)).log2 < t + 2 := by
          rw [Nat.log2_lt (by omega), show t + 2 = t + 1 + 1 from rfl, Nat.pow_succ, Nat.pow_succ]
          have := Nat.two_pow_pos t
          omega
        omega
      · rw [Fl.mg_pw, eight_mg]
        generalize hT : (1074 : Nat) = T
        rw [show (1077 : Nat) = 3 + T by omega, Nat.pow_add]
        have e : (2 : Nat) ^ 3 = 8 := by decide
        rw [e, ← Nat.mul_assoc]
        refine Nat.mul_le_mul_right _ ?_
        omega

/-- THE STEP: between the two it goes. -/
theorem smooth_step (s x : Nat) (hs : s < 18446744073709551616) (hx : x < 18446744073709551616) (fs : Fl.fin s) (fx : Fl.fin x) (t : Nat) (ht : t ≤ 1990) (hd : (Fl.smg x - Fl.smg s).natAbs < 2 ^ t) :
    smoothS s x < 18446744073709551616 ∧ (Fl.sval (smoothS s x) ≤ Fl.sval s ∨ Fl.sval (smoothS s x) ≤ Fl.sval x) ∧ (Fl.sval s ≤ Fl.sval (smoothS s x) ∨ Fl.sval x ≤ Fl.sval (smoothS s x)) := by
  have hm := minus_fin hx hs fx fs
  generalize hΔ : Fl.smg x - Fl.smg s = Δ at *
  have hrd : Fl.rung (minusN x s) = Fl.rd Δ.natAbs := by rw [hm, Fl.sumW_rung]
  have hlt : minusN x s < 18446744073709551616 := by rw [hm]; exact Fl.sumW_lt _ _ _
  have hfd : Fl.fin (minusN x s) := by
    show Fl.rung _ < _
    rw [hrd]
    refine Nat.lt_of_le_of_lt (Fl.rd_mono (Nat.le_of_lt hd)) ?_
    rw [Fl.rd_pw (by omega)]
    exact Fl.pw_le (by omega)
  have hrs : Fl.rung s ≤ 9218868437227405312 := Nat.le_of_lt fs
  have hrx : Fl.rung x ≤ 9218868437227405312 := Nat.le_of_lt fx
  -- the eighth: E units with the difference's sign, not beyond the difference
  obtain ⟨R, he, hR, hE⟩ : ∃ R, quoN (minusN x s) eightW = Ieee.double.word (Fl.neg (minusN x s)) R ∧ R < 9218868437227405312 ∧ Fl.mg R ≤ Δ.natAbs := by
    by_cases h0 : Δ = 0
    · obtain ⟨R, h1, _⟩ := eighth _ hlt hfd 0 (by omega) (by rw [hrd, h0]; show Fl.mg (Fl.rd 0) ≤ _; rw [Fl.rd_zero, Fl.mg_zero]; exact Nat.zero_le _)
      have hr0 : Fl.rung (minusN x s) = 0 := by rw [hrd, h0]; exact Fl.rd_zero
      have h2 : floatBits .quo .f64 (minusN x s) eightW = _ := Fl.div_zero _ eightW hlt (by decide) eight_fin hr0 eight_pos
      refine ⟨0, ?_, by decide, by rw [Fl.mg_zero]; exact Nat.zero_le _⟩
      unfold quoN opN; rw [h2, eight_neg]; simp
    · have hn : Δ.natAbs ≠ 0 := by omega
      have hl1 := Nat.log2_self_le hn
      have hl2 : Δ.natAbs < 2 ^ (Δ.natAbs.log2 + 1) := Nat.lt_log2_self
      have hlt' : Δ.natAbs.log2 < t := by rw [Nat.log2_lt hn]; exact hd
      obtain ⟨R, h1, h2⟩ := eighth _ hlt hfd Δ.natAbs.log2 (by omega) (by
        rw [hrd]
        have h3 := Fl.rd_mono (Nat.le_of_lt hl2)
        rw [Fl.rd_pw (by omega)] at h3
        have h4 := Fl.mg_le h3
        rw [Fl.mg_pw, Nat.pow_succ, Nat.mul_comm] at h4
        exact h4)
      refine ⟨R, h1, Nat.lt_of_le_of_lt h2 (Fl.pw_le (by omega)), ?_⟩
      have := Fl.mg_le h2
      rw [Fl.mg_pw] at this
      omega
  have hRle : R ≤ 9218868437227405312 := Nat.le_of_lt hR
  obtain ⟨w1, w2, w3⟩ := Fl.word_rung (Fl.neg (minusN x s)) R hRle
  have hfe : Fl.fin (quoN (minusN x s) eightW) := by show Fl.rung _ < _; rw [he, w1]; exact hR
  have hle : quoN (minusN x s) eightW < 18446744073709551616 := by rw [he]; exact w3
  have hsum := plus_fin hs hle fs hfe
  have hval : Fl.sval (smoothS s x) = Fl.rdI (Fl.smg s + Fl.smg (quoN (minusN x s) eightW)) := by
    show Fl.sval (plusN s _) = _
    rw [hsum, Fl.sumW_sval]
  have hsg : Fl.smg (quoN (minusN x s) eightW) = if Fl.neg (minusN x s) then -(Fl.mg R : Int) else (Fl.mg R : Int) := by rw [he, Fl.word_smg _ _ hRle]
  have es := Fl.rdI_smg s hrs
  have ex := Fl.rdI_smg x hrx
  have hneg : Δ ≠ 0 → Fl.neg (minusN x s) = decide (Δ < 0) := by
    intro h
    rw [hm]
    unfold Fl.sumW
    rw [if_neg h]
    exact (Fl.word_rung _ _ (Fl.rd_le _)).2.1
  refine ⟨by show plusN s _ < _; rw [hsum]; exact Fl.sumW_lt _ _ _, ?_, ?_⟩
  · rw [hval, ← es, ← ex]
    by_cases h0 : Δ = 0
    · left
      have : Fl.mg R = 0 := by rw [h0] at hE; simpa using hE
      refine Fl.rdI_mono ?_
      rw [hsg, this]; split <;> simp
    · rw [hsg, hneg h0]
      by_cases h1 : Δ < 0
      · left; refine Fl.rdI_mono ?_; rw [if_pos (by simpa using h1)]; omega
      · right; refine Fl.rdI_mono ?_; rw [if_neg (by simpa using h1)]; omega
  · rw [hval, ← es, ← ex]
    by_cases h0 : Δ = 0
    · left
      have : Fl.mg R = 0 := by rw [h0] at hE; simpa using hE
      refine Fl.rdI_mono ?_
      rw [hsg, this]; split <;> simp
    · rw [hsg, hneg h0]
      by_cases h1 : Δ < 0
      · right; refine Fl.rdI_mono ?_; rw [if_pos (by simpa using h1)]; omega
      · left; refine Fl.rdI_mono ?_; rw [if_neg (by simpa using h1)]; omega

theorem fin_of_sval {a lo hi : Nat} (h1 : Fl.fin lo) (h2 : Fl.fin hi) (h3 : Fl.sval lo ≤ Fl.sval a) (h4 : Fl.sval a ≤ Fl.sval hi) : Fl.fin a := by
  unfold Fl.fin at *
  unfold Fl.sval at *
  split at h3 <;> split at h3 <;> split at h4 <;> omega

/-- All finite ones between two bounds: so is the mean that forgets. -/
theorem smooth_between (lo hi : Nat) (flo : Fl.fin lo) (fhi : Fl.fin hi) (t : Nat) (ht : t ≤ 1990) (hd : Fl.smg hi - Fl.smg lo < (2 ^ t : Nat)) :
    ∀ (l : List Nat) (s : Nat), s < 18446744073709551616 → Fl.sval lo ≤ Fl.sval s → Fl.sval s ≤ Fl.sval hi → (∀ x ∈ l, x < 18446744073709551616 ∧ Fl.sval lo ≤ Fl.sval x ∧ Fl.sval x ≤ Fl.sval hi) →
      l.foldl smoothS s < 18446744073709551616 ∧ Fl.sval lo ≤ Fl.sval (l.foldl smoothS s) ∧ Fl.sval (l.foldl smoothS s) ≤ Fl.sval hi
  | [], s, h1, h2, h3, _ => ⟨h1, h2, h3⟩
  | x :: r, s, h1, h2, h3, h4 => by
    obtain ⟨x1, x2, x3⟩ := h4 x (by simp)
    have m1 := Fl.smg_le h2
    have m2 := Fl.smg_le h3
    have m3 := Fl.smg_le x2
    have m4 := Fl.smg_le x3
    obtain ⟨a1, a2, a3⟩ := smooth_step s x h1 x1 (fin_of_sval flo fhi h2 h3) (fin_of_sval flo fhi x2 x3) t ht (by omega)
    exact smooth_between lo hi flo fhi t ht hd r (smoothS s x) a1 (by omega) (by omega) (fun y hy => h4 y (by simp [hy]))

end Go.Proofs.Ytlbbbabieepabaa
