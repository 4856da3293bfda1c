/-
  Texts of this claim, put together.
-/
import Derived.Test.YtfbojcaedcimcaaMal
import Derived.Deep.Cut

/-
  The middle of three; a pivot.
-/
namespace Go.Proofs.Ytfbojcaedcimcaa
open Go.RowKit

/-- The middle of three. -/
def mid3 (f : Nat → Nat) (a b c : Nat) : Nat := hi f (lo f a b) (lo f (hi f a b) c)

theorem lo_or (f : Nat → Nat) (a b : Nat) : (lo f a b = a ∧ hi f a b = b ∧ f a ≤ f b) ∨ (lo f a b = b ∧ hi f a b = a ∧ f b < f a) := by
  unfold lo hi
  by_cases h : f b < f a
  · rw [if_pos h, if_pos h]; exact Or.inr ⟨rfl, rfl, h⟩
  · rw [if_neg h, if_neg h]; exact Or.inl ⟨rfl, rfl, by omega⟩
theorem lo_lt {f : Nat → Nat} {a b n : Nat} (ha : a < n) (hb : b < n) : lo f a b < n := by
  rcases lo_or f a b with ⟨h, _⟩ | ⟨h, _⟩ <;> omega
theorem hi_lt {f : Nat → Nat} {a b n : Nat} (ha : a < n) (hb : b < n) : hi f a b < n := by
  rcases lo_or f a b with ⟨_, h, _⟩ | ⟨_, h, _⟩ <;> omega

/-- One is less than the middle, one is more. -/
theorem mid3_is {f : Nat → Nat} {a b c : Nat} (h1 : f a ≠ f b) (h2 : f a ≠ f c) (h3 : f b ≠ f c) :
    (mid3 f a b c = a ∨ mid3 f a b c = b ∨ mid3 f a b c = c) ∧ ∃ x y, (x = a ∨ x = b ∨ x = c) ∧ (y = a ∨ y = b ∨ y = c) ∧ f x < f (mid3 f a b c) ∧ f (mid3 f a b c) < f y := by
  unfold mid3
  rcases lo_or f a b with ⟨e1, e2, h4⟩ | ⟨e1, e2, h4⟩
  · rw [e1, e2]
    rcases lo_or f b c with ⟨e3, _, h5⟩ | ⟨e3, _, h5⟩
    · rw [e3, e2]
      exact ⟨by simp, a, c, by simp, by simp, by omega, by omega⟩
    · rw [e3]
      rcases lo_or f a c with ⟨_, e4, h6⟩ | ⟨_, e4, h6⟩
      · rw [e4]; exact ⟨by simp, a, b, by simp, by simp, by omega, by omega⟩
      · rw [e4]; exact ⟨by simp, c, b, by simp, by simp, by omega, by omega⟩
  · rw [e1, e2]
    rcases lo_or f a c with ⟨e3, _, h5⟩ | ⟨e3, _, h5⟩
    · rw [e3]
      rcases lo_or f b a with ⟨_, e4, h6⟩ | ⟨_, e4, h6⟩
      · rw [e4]; exact ⟨by simp, b, c, by simp, by simp, by omega, by omega⟩
      · omega
    · rw [e3]
      rcases lo_or f b c with ⟨_, e4, h6⟩ | ⟨_, e4, h6⟩
      · rw [e4]; exact ⟨by simp, b, a, by simp, by simp, by omega, by omega⟩
      · rw [e4]; exact ⟨by simp, c, a, by simp, by simp, by omega, by omega⟩

theorem median_any {n g s k a b c cap : Nat} {f : Nat → Nat} {W : World} (hr : Row n W g f) (hs : Cel 1 W s (fun _ => .int .i64 ((k : Nat) : Int))) (hg : g ≠ s) (ha : a < n) (hb : b < n) (hc : c < n) (hk : k < 10) :
    Calls Try.prog 82 #[.slice (some ⟨g, 0, none⟩) n cap, .int .i64 (a : Nat), .int .i64 (b : Nat), .int .i64 (c : Nat), .pointer (some ⟨s, 0, none⟩)] W
      (CntPost s k 3 (.int .i64 (mid3 f a b c : Nat)) W) := by
  have R := Lib.hid hr
  have S := Lib.hid hs
  unfold mid3
  have h1 := lo_lt (f := f) ha hb
  have h2 := hi_lt (f := f) ha hb
  have h3 := lo_lt (f := f) h2 hc
  have B := Lib.hid (fun (w : World) (hk : Keep (fun j => j = s) W w) => R.out.keep hk hg)
  clear hr hs
  generalize e1 : lo f a b = a1 at *
  generalize e2 : hi f a b = b1 at *
  generalize e3 : lo f b1 c = b2 at *
  generalize e4 : hi f a1 b2 = m at *
  have E1 := Lib.hid e1
  have E2 := Lib.hid e2
  have E3 := Lib.hid e3
  have E4 := Lib.hid e4
  clear e1 e2 e3 e4
  go_enter Try.func82, Try.ntmps82
  go_upto_region 2 with (go_at_call 84; refine (order2_any (f := f) R.out S.out ha hb (by omega)).mono ?_; rintro e w1 ⟨rfl, k1, hk1, s1, p1⟩; rw [E1.out, E2.out]; have S1 := Lib.hid s1; have P1 := Lib.hid p1; clear s1 p1)
  go_upto_region 3 with (go_at_call 84; refine (order2_any (f := f) (B.out _ P1.out) S1.out h2 hc (by omega)).mono ?_; rintro e w2 ⟨rfl, k2, hk2, s2, p2⟩; rw [E3.out]; have S2 := Lib.hid s2; have P2 := Lib.hid (P1.out.trans p2 (fun _ _ h => h)); clear s2 p2)
  go_wp2_with (go_at_call 84; refine (order2_any (f := f) (B.out _ P2.out) S2.out h1 h3 (by omega)).mono ?_; rintro e w3 ⟨rfl, k3, hk3, s3, p3⟩; rw [E4.out]; have S3 := Lib.hid s3; have P3 := Lib.hid (P2.out.trans p3 (fun _ _ h => h)); clear s3 p3)
  go_ret
  exact ⟨rfl, k3, by omega, S3.out, P3.out⟩

theorem one_new (v : Value) : ∀ o, o < 1 → [v].getD o (.int .i64 0) = (fun _ : Nat => v) o := by
  intro o ho
  obtain rfl : o = 0 := by omega
  rfl

/-- A pivot: one is less, one is more. -/
def PivPost (a b : Nat) (f : Nat → Nat) (W : World) (e : Ending) (w : World) : Prop :=
  ∃ (p h : Nat), e = .returned (.tuple #[.int .i64 (p : Nat), .int .i64 (h : Nat)]) ∧ h ≤ 1 ∧ a < p ∧ p < b ∧ (∃ x, a ≤ x ∧ x < b ∧ f x < f p) ∧ (∃ x, a ≤ x ∧ x < b ∧ f p < f x) ∧ Below W.heap.size W w

theorem pivot_any {n g a b cap : Nat} {f : Nat → Nat} {W : World} (hr : Row n W g f) (hf : Inj n f) (hb : b ≤ n) (hn : n ≤ 1000) (h8 : a + 8 ≤ b) (h50 : b < a + 50) :
    Calls Try.prog 70 #[.slice (some ⟨g, 0, none⟩) n cap, .int .i64 (a : Nat), .int .i64 (b : Nat)] W (PivPost a b f W) := by
  have R := Lib.hid hr
  have hgl := hr.lt
  obtain ⟨l, hl⟩ : ∃ l, l = b - a := ⟨_, rfl⟩
  obtain ⟨q, hq⟩ : ∃ q, q = l / 4 := ⟨_, rfl⟩
  have q2 : 2 ≤ q := by omega
  have q3 : 4 * q ≤ l := by omega
  have wl : IntKind.i64.wrap ((b : Int) - (a : Int)) = (l : Int) := by rw [wrapN (by omega)]; omega
  have dq : (l : Int).tdiv 4 = (q : Int) := by rw [hq]; exact (Int.ofNat_tdiv l 4).symm
  have w1 : IntKind.i64.wrap (q : Int) = (q : Int) := wrapN (by omega)
  have m1 : IntKind.i64.wrap ((q : Int) * 1) = (q : Int) := by rw [wrapN (by omega)]; omega
  obtain ⟨x2, hx2⟩ : ∃ x, x = q * 2 := ⟨_, rfl⟩
  obtain ⟨x3, hx3⟩ : ∃ x, x = q * 3 := ⟨_, rfl⟩
  have m2 : IntKind.i64.wrap ((q : Int) * 2) = (x2 : Int) := by rw [wrapN (by omega)]; omega
  have m3 : IntKind.i64.wrap ((q : Int) * 3) = (x3 : Int) := by rw [wrapN (by omega)]; omega
  obtain ⟨i, hi'⟩ : ∃ x, x = a + q := ⟨_, rfl⟩
  obtain ⟨j, hj'⟩ : ∃ x, x = a + x2 := ⟨_, rfl⟩
  obtain ⟨k, hk'⟩ : ∃ x, x = a + x3 := ⟨_, rfl⟩
  have s1 : IntKind.i64.wrap ((a : Int) + (q : Int)) = (i : Int) := by rw [wrapN (by omega)]; omega
  have s2 : IntKind.i64.wrap ((a : Int) + (x2 : Int)) = (j : Int) := by rw [wrapN (by omega)]; omega
  have s3 : IntKind.i64.wrap ((a : Int) + (x3 : Int)) = (k : Int) := by rw [wrapN (by omega)]; omega
  have d8 : decide ((l : Int) ≥ 8) = true := decide_eq_true (by omega)
  have d50 : decide ((l : Int) ≥ 50) = false := decide_eq_false (by omega)
  have hij : i < n ∧ j < n ∧ k < n ∧ a < i ∧ a < j ∧ a < k ∧ i < b ∧ j < b ∧ k < b ∧ i ≠ j ∧ i ≠ k ∧ j ≠ k := by omega
  clear hl hq q2 q3 hx2 hx3 hi' hj' hk' h8 h50 hr
  obtain ⟨i1, i2, i3, i4, i5, i6, i7, i8, i9, n1, n2, n3⟩ := hij
  have M := Lib.hid (mid3_is (f := f) (fun e => n1 (hf _ _ i1 i2 e)) (fun e => n2 (hf _ _ i1 i3 e)) (fun e => n3 (hf _ _ i2 i3 e)))
  obtain ⟨wa, hwa⟩ : ∃ wa, wa = W.alloc (.cells #[.int .i64 0] 3) := ⟨_, rfl⟩
  have hba : Below W.heap.size W wa := by rw [hwa]; exact (Below.refl _ _).alloc (Nat.le_refl _) _
  have hca : Cel 1 wa W.heap.size (fun _ => .int .i64 ((0 : Nat) : Int)) := by
    rw [hwa]
    exact (Cel.new W [.int .i64 0] 3).conv (one_new _)
  have RA := Lib.hid (R.out.keep (F := fun _ => False) (Keep.ofBelow hba) id)
  have BA := Lib.hid hba
  have CA := Lib.hid hca
  clear hba hca
  go_enter Try.func70, Try.ntmps70
  go_wp2_with (go_at_call 82
               rw [← hwa]
               refine (median_any (f := f) (k := 0) RA.out CA.out (by omega) i1 i2 i3 (by omega)).mono ?_
               rintro e w2 ⟨rfl, kk, hkk, s2, p2⟩
               have c2 := s2.c 0 (by omega)
               have P2 := Lib.hid (BA.out.trans (p2.below (N := W.heap.size) BA.out.size (fun _ e => by omega)))
               have d12 : decide ((kk : Int) = 12) = false := decide_eq_false (by omega)
               have e12 : ((kk : Int) == 12) = false := by simp; omega
               clear s2 p2)
  all_goals
    go_ret2
    obtain ⟨h1, x, y, hx, hy, h2, h3⟩ := M.out
    first
      | (refine ⟨mid3 f i j k, 1, rfl, by omega, ?_, ?_, ⟨x, ?_, ?_, h2⟩, ⟨y, ?_, ?_, h3⟩, P2.out⟩ <;> omega)
      | (refine ⟨mid3 f i j k, 0, rfl, by omega, ?_, ?_, ⟨x, ?_, ?_, h2⟩, ⟨y, ?_, ?_, h3⟩, P2.out⟩ <;> omega)

end Go.Proofs.Ytfbojcaedcimcaa

/-
  Sorted by putting in.
-/
namespace Go.Proofs.Ytfbojcaedcimcaa
open Go.RowKit

/-- In order up to i, but for what stands at m. -/
def Most (a i m : Nat) (f : Nat → Nat) : Prop := ∀ x y, a ≤ x → x < y → y ≤ i → y ≠ m → f x < f y

theorem most_start {a i : Nat} {f : Nat → Nat} (h : Srt a i f) : Most a i i f := fun x y h1 h2 h3 h4 => h x y h1 h2 (by omega)
theorem most_step {a i m m1 : Nat} {f : Nat → Nat} (h : Most a i m f) (e : m = m1 + 1) (ha : a ≤ m1) (hm : m ≤ i) (hl : f m < f m1) : Most a i m1 (swp f m m1) := by
  intro x y h1 h2 h3 h4
  by_cases y1 : y = m
  · subst y1
    by_cases x1 : x = m1
    · subst x1
      rw [swp_left, swp_right]; exact hl
    · rw [swp_left, swp_out (by omega) x1]
      exact h x m1 h1 (by omega) (by omega) (by omega)
  · rw [swp_out (k := y) y1 h4]
    by_cases x1 : x = m
    · subst x1
      rw [swp_left]
      exact h m1 y ha (by omega) h3 y1
    · by_cases x2 : x = m1
      · subst x2
        rw [swp_right]
        exact h m y (by omega) (by omega) h3 y1
      · rw [swp_out x1 x2]
        exact h x y h1 h2 h3 y1
theorem most_end {a i m : Nat} {f : Nat → Nat} (h : Most a i m f) (hm : m = a ∨ ∃ m1, m = m1 + 1 ∧ a ≤ m1 ∧ f m1 < f m) : Srt a (i + 1) f := by
  intro x y h1 h2 h3
  by_cases y1 : y = m
  · subst y1
    rcases hm with e | ⟨m1, e, ha, hl⟩
    · omega
    · by_cases x1 : x = m1
      · subst x1; exact hl
      · exact Nat.lt_trans (h x m1 h1 (by omega) (by omega) (by omega)) hl
  · exact h x y h1 h2 (by omega) y1

def InsRel (n g a b : Nat) (f : Nat → Nat) (W : World) (v : Value) (wr : World) : Prop :=
  ∃ (k : Nat) (f' : Nat → Nat), v = .int .i64 (k : Nat) ∧ a < k ∧ (k ≤ b ∨ k = a + 1) ∧ Sw a b f f' ∧ Srt a k f' ∧ Row n wr g f' ∧ Keep (fun j => j = g) W wr
def SetRel (n g a b i : Nat) (f : Nat → Nat) (W : World) (v : Value) (wr : World) : Prop :=
  ∃ (m : Nat) (f' : Nat → Nat), v = .int .i64 (m : Nat) ∧ a ≤ m ∧ m ≤ i ∧ Sw a b f f' ∧ Most a i m f' ∧ Row n wr g f' ∧ Keep (fun j => j = g) W wr

theorem SetRel.step {n g a b i m m1 : Nat} {f f' : Nat → Nat} {W wr w2 : World} (e : m = m1 + 1) (ha : a ≤ m1) (hm : m ≤ i) (hi : i < b) (hs : Sw a b f f') (hM : Most a i m f') (hl : f' m < f' m1) (hr : Row n wr g f') (hk : Keep (fun j => j = g) W wr)
    (hw : Alike ((wr.setCell ⟨g, m, none⟩ (.int .u64 ((f' m1 : Nat) : Int))).setCell ⟨g, m1, none⟩ (.int .u64 ((f' m : Nat) : Int))) w2) : SetRel n g a b i f W (.int .i64 (m1 : Nat)) w2 :=
  ⟨m1, swp f' m m1, rfl, ha, by omega, hs.step m m1 (by omega) (by omega) ha (by omega), most_step hM e ha hm hl, hw.row hr.swp, hw.keep ((hk.put _ _).put _ _)⟩

set_option maxHeartbeats 2000000 in
theorem ins_any {n g a b cap : Nat} {f : Nat → Nat} {W : World} (hr : Row n W g f) (hf : Inj n f) (hab : a ≤ b) (hb : b ≤ n) (hn : n ≤ 1000) :
    Calls Try.prog 67 #[.slice (some ⟨g, 0, none⟩) n cap, .int .i64 (a : Nat), .int .i64 (b : Nat)] W (SwPost n g a b f W (Srt a b)) := by
  have R := Lib.hid hr
  have I := Lib.hid hf
  clear hr hf
  obtain ⟨a1, ha1⟩ : ∃ x, x = a + 1 := ⟨_, rfl⟩
  have wa : IntKind.i64.wrap ((a : Int) + 1) = (a1 : Int) := by rw [wrapN (by omega)]; omega
  have HA := Lib.hid ha1
  clear ha1
  go_enter Try.func67, Try.ntmps67
  go_wp2_with fail
  go_loopw [6] (fun v wr => InsRel n g a b f W v wr) (fun v _ => b - (intOf v).toNat)
  case atStart => exact ⟨a1, f, rfl, by have := HA.out; omega, Or.inr HA.out, Sw.refl _, fun i j h1 h2 h3 => (by have := HA.out; omega), R.out, Keep.refl _ _⟩
  case round =>
    obtain ⟨k, f', rfl, hk1, hk2, hs, hS, hR, hK⟩ := hrel
    by_cases hlt : k < b
    · have kb : (k : Int) < (b : Int) := by omega
      have HS := Lib.hid hs
      have HR := Lib.hid hR
      have HK := Lib.hid hK
      have HT := Lib.hid hS
      clear hs hR hK hS
      go_wp2_with fail
      go_loopw [7] (fun v wr => SetRel n g a b k f W v wr) (fun v _ => (intOf v).toNat)
      case atStart => exact ⟨k, f', rfl, by omega, Nat.le_refl _, HS.out, most_start HT.out, HR.out, HK.out⟩
      case round =>
        obtain ⟨m, f2, rfl, hm1, hm2, hs2, hM, hR2, hK2⟩ := hrel
        have HS2 := Lib.hid hs2
        have HM := Lib.hid hM
        have HR2 := Lib.hid hR2
        have HK2 := Lib.hid hK2
        clear hs2 hM hR2 hK2
        by_cases hma : m = a
        · subst hma
          have dg : decide (m < m) = false := decide_eq_false (by omega)
          have E := Lib.hid (fun q => show InsRel n g m b f W (.int .i64 ((k + 1 : Nat) : Int)) (wr.drewN q) from
            ⟨k + 1, f2, rfl, by omega, by omega, HS2.out, most_end HM.out (Or.inl rfl), HR2.out.drewN q, HK2.out.drewN q⟩)
          have wk : IntKind.i64.wrap ((k : Int) + 1) = (k : Int) + 1 := wrapN (by omega)
          go_wp2_with fail
          go_quiet (fail)
          go_wp2_with fail
          go_roundw
          case rel => exact E.out _
          case measure => simp only [intOf]; omega
        · obtain ⟨m1, em⟩ : ∃ x, m = x + 1 := ⟨m - 1, by omega⟩
          have EM := Lib.hid em
          have hm3 : a ≤ m1 := by omega
          have wm : IntKind.i64.wrap ((m : Int) - 1) = (m1 : Int) := by rw [wrapN (by omega)]; omega
          have dg : decide (a < m) = true := decide_eq_true (by omega)
          have x0 : (0 : Int) ≤ (m : Int) := by omega
          have x1 : (0 : Int) ≤ (m1 : Int) := by omega
          have y0 : (m : Int) < (n : Int) := by omega
          have y1 : (m1 : Int) < (n : Int) := by omega
          have c0 : ∀ q, (wr.drewN q).cell? ⟨g, m, none⟩ = some (.int .u64 ((f2 m : Nat) : Int)) := fun q => (HR2.out.drewN q).at (by omega)
          have c1 : ∀ q, (wr.drewN q).cell? ⟨g, m1, none⟩ = some (.int .u64 ((f2 m1 : Nat) : Int)) := fun q => (HR2.out.drewN q).at (by omega)
          have fz : ∀ q i, (wr.drewN q).frozen? ⟨g, i, none⟩ = false := fun q i => (HR2.out.drewN q).fz i
          have d0 := c0 0
          have d1 := c1 0
          by_cases hl : f2 m < f2 m1
          · have hb' : decide (((f2 m : Nat) : Int) < ((f2 m1 : Nat) : Int)) = true := decide_eq_true (by omega)
            have E := Lib.hid (fun q w2 hw => SetRel.step (w2 := w2) EM.out hm3 hm2 hlt HS2.out HM.out hl (HR2.out.drewN q) (HK2.out.drewN q) hw)
            clear em
            generalize f2 m = u at *
            generalize f2 m1 = v at *
            go_wp2_with fail
            go_quiet ((go_at_call 73; exact Calls.quiet_of_same (less_any _ _ _ hb' _)))
            go_wp2_with fail
            have E1 := Lib.hid (fun w2 => E.out nq w2)
            have e0 : (wr.drewN nq).drew.cell? ⟨g, m, none⟩ = some (.int .u64 (u : Int)) := c0 nq
            have e1 : (wr.drewN nq).drew.cell? ⟨g, m1, none⟩ = some (.int .u64 (v : Int)) := c1 nq
            have e2 : (wr.drewN nq).drew.frozen? ⟨g, m, none⟩ = false := fz nq m
            have e3 : ((wr.drewN nq).setCell ⟨g, m, none⟩ (.int .u64 (v : Int))).drew.cell? ⟨g, m1, none⟩ = some (.int .u64 (v : Int)) := (cell_other (by have := EM.out; omega)).trans (c1 nq)
            have e4 : ((wr.drewN nq).setCell ⟨g, m, none⟩ (.int .u64 (v : Int))).drew.frozen? ⟨g, m1, none⟩ = false := (World.frozen?_setCell ..).trans (fz nq m1)
            clear c0 c1 d0 d1 fz E
            generalize wr.drewN nq = ww at *
            go_region
            all_goals go_wp2_with fail
            all_goals go_roundw
            all_goals first
              | exact E1.out _ ⟨rfl, rfl, rfl, rfl⟩
              | (simp only [intOf]; have := EM.out; omega)
          · have hb' : decide (((f2 m : Nat) : Int) < ((f2 m1 : Nat) : Int)) = false := decide_eq_false (by omega)
            have hne : f2 m1 < f2 m := by
              rcases Nat.lt_or_ge (f2 m1) (f2 m) with h | h
              · exact h
              · have := (HS2.out.inj hb I.out) m m1 (by omega) (by omega) (by omega)
                omega
            have E := Lib.hid (fun q => show InsRel n g a b f W (.int .i64 ((k + 1 : Nat) : Int)) (wr.drewN q) from
              ⟨k + 1, f2, rfl, by omega, by omega, HS2.out, most_end HM.out (Or.inr ⟨m1, em, hm3, hne⟩), HR2.out.drewN q, HK2.out.drewN q⟩)
            have wk : IntKind.i64.wrap ((k : Int) + 1) = (k : Int) + 1 := wrapN (by omega)
            clear em hne hl
            generalize f2 m = u at *
            generalize f2 m1 = v at *
            go_wp2_with fail
            go_quiet ((go_at_call 73; exact Calls.quiet_of_same (less_any _ _ _ hb' _)))
            go_wp2_with fail
            go_roundw
            case rel => exact E.out _
            case measure => simp only [intOf]; omega
    · have kb : decide ((k : Int) < (b : Int)) = false := decide_eq_false (by omega)
      have P := Lib.hid (show SwPost n g a b f W (Srt a b) (.returned (.tuple #[])) wr from ⟨rfl, f', hs, fun i j h1 h2 h3 => hS i j h1 h2 (by omega), hR, hK⟩)
      go_wp2_with fail
      go_end0
      exact P.out

end Go.Proofs.Ytfbojcaedcimcaa

/-
  Is it in order already? (A row of less than fifty: nothing is turned.)
-/
namespace Go.Proofs.Ytfbojcaedcimcaa
open Go.RowKit

def PinsPost (a b : Nat) (f : Nat → Nat) (W : World) (e : Ending) (w : World) : Prop := ∃ r, e = .returned (.bool r) ∧ (r = true → Srt a b f) ∧ ∃ q, w = W.drewN q

theorem srt_more {a k : Nat} {f : Nat → Nat} (h : Srt a k f) (m1 : Nat) (e : k = m1 + 1) (hl : f m1 < f k) : Srt a (k + 1) f := by
  intro i j h1 h2 h3
  by_cases hj : j = k
  · subst hj
    by_cases hi : i = m1
    · subst hi; exact hl
    · exact Nat.lt_trans (h i m1 h1 (by omega) (by omega)) hl
  · exact h i j h1 h2 (by omega)

set_option maxHeartbeats 2000000 in
theorem pins_any {n g a b cap : Nat} {f : Nat → Nat} {W : World} (hr : Row n W g f) (hf : Inj n f) (hab : a < b) (hb : b ≤ n) (hn : n ≤ 1000) (h50 : b < a + 50) :
    Calls Try.prog 72 #[.slice (some ⟨g, 0, none⟩) n cap, .int .i64 (a : Nat), .int .i64 (b : Nat)] W (PinsPost a b f W) := by
  have R := Lib.hid hr
  have I := Lib.hid hf
  clear hr hf
  obtain ⟨a1, ha1⟩ : ∃ x, x = a + 1 := ⟨_, rfl⟩
  have wa : IntKind.i64.wrap ((a : Int) + 1) = (a1 : Int) := by rw [wrapN (by omega)]; omega
  obtain ⟨l, hl⟩ : ∃ l, l = b - a := ⟨_, rfl⟩
  have wl : IntKind.i64.wrap ((b : Int) - (a : Int)) = (l : Int) := by rw [wrapN (by omega)]; omega
  have d50 : decide ((l : Int) < 50) = true := decide_eq_true (by omega)
  have HA := Lib.hid ha1
  clear ha1 hl
  go_enter Try.func72, Try.ntmps72
  go_wp2_with fail
  go_loopw [7, 8] (fun v u wr => v = .int .i64 (a1 : Nat) ∧ u = .int .i64 0 ∧ wr = W) (fun _ _ _ => 0)
  case atStart => exact ⟨rfl, rfl, rfl⟩
  case round =>
    obtain ⟨rfl, rfl, rfl⟩ := hrel
    go_wp2_with fail
    go_loopw [7] (fun v w2 => ∃ (k q : Nat), v = .int .i64 (k : Nat) ∧ a < k ∧ k ≤ b ∧ w2 = wr.drewN q ∧ Hid (Srt a k f)) (fun v _ => b - (intOf v).toNat)
    case atStart => exact ⟨a1, 0, rfl, by have := HA.out; omega, by have := HA.out; omega, rfl, Lib.hid (fun i j h1 h2 h3 => (by have := HA.out; omega))⟩
    case round =>
      obtain ⟨k, q, rfl, hk1, hk2, rfl, HS⟩ := hrel
      by_cases hlt : k < b
      · obtain ⟨m1, em⟩ : ∃ x, k = x + 1 := ⟨k - 1, by omega⟩
        have EM := Lib.hid em
        have wm : IntKind.i64.wrap ((k : Int) - 1) = (m1 : Int) := by rw [wrapN (by omega)]; omega
        have dg : decide ((k : Int) < (b : Int)) = true := decide_eq_true (by omega)
        have x0 : (0 : Int) ≤ (k : Int) := by omega
        have x1 : (0 : Int) ≤ (m1 : Int) := by omega
        have y0 : (k : Int) < (n : Int) := by omega
        have y1 : (m1 : Int) < (n : Int) := by omega
        have c0 : (wr.drewN q).cell? ⟨g, k, none⟩ = some (.int .u64 ((f k : Nat) : Int)) := (R.out.drewN q).at (by omega)
        have c1 : (wr.drewN q).cell? ⟨g, m1, none⟩ = some (.int .u64 ((f m1 : Nat) : Int)) := (R.out.drewN q).at (by omega)
        have hQ := Lib.hid (fun m => (show ∃ q', (wr.drewN q).drewN m = wr.drewN q' from ⟨q + m, by rw [World.drewN_drewN]⟩))
        by_cases hl : f k < f m1
        · have hb' : decide (((f k : Nat) : Int) < ((f m1 : Nat) : Int)) = true := decide_eq_true (by omega)
          have eb : ((k : Int) == (b : Int)) = false := by simp; omega
          have E := Lib.hid (fun w2 (h : ∃ q', w2 = wr.drewN q') => show PinsPost a b f wr (.returned (.bool false)) w2 from ⟨false, rfl, (fun h => by cases h), h⟩)
          clear em
          generalize f k = u at *
          generalize f m1 = v at *
          generalize wr.drewN q = ww at *
          go_wp2_with fail
          go_quiet ((go_at_call 73; exact Calls.quiet_of_same (less_any _ _ _ hb' _)))
          go_wp2_with fail
          go_ret
          exact E.out _ (hQ.out _)
        · have hb' : decide (((f k : Nat) : Int) < ((f m1 : Nat) : Int)) = false := decide_eq_false (by omega)
          have hne : f m1 < f k := by
            rcases Nat.lt_or_ge (f m1) (f k) with h | h
            · exact h
            · have := I.out k m1 (by omega) (by omega) (by omega)
              omega
          have E := Lib.hid (srt_more HS.out m1 em hne)
          have wk : IntKind.i64.wrap ((k : Int) + 1) = (k : Int) + 1 := wrapN (by omega)
          clear em hne hl
          generalize f k = u at *
          generalize f m1 = v at *
          generalize wr.drewN q = ww at *
          go_wp2_with fail
          go_quiet ((go_at_call 73; exact Calls.quiet_of_same (less_any _ _ _ hb' _)))
          go_wp2_with fail
          go_roundw
          case rel => exact (hQ.out _).elim fun q' e => ⟨k + 1, q', by go_num, by omega, by omega, e, E⟩
          case measure => simp only [intOf]; omega
      · obtain rfl : k = b := by omega
        have dg : decide ((k : Int) < (k : Int)) = false := decide_eq_false (by omega)
        have E := Lib.hid (fun w2 (h : ∃ q', w2 = wr.drewN q') => show PinsPost a k f wr (.returned (.bool true)) w2 from ⟨true, rfl, (fun _ => HS.out), h⟩)
        have hQ := Lib.hid (fun m => (show ∃ q', (wr.drewN q).drewN m = wr.drewN q' from ⟨q + m, by rw [World.drewN_drewN]⟩))
        generalize wr.drewN q = ww at *
        go_wp2_with fail
        go_quiet (fail)
        go_wp2_with fail
        go_ret
        exact E.out _ (hQ.out _)

end Go.Proofs.Ytfbojcaedcimcaa
