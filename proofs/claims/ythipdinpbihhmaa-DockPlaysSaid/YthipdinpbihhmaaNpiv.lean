/-
  The middle of three; a pivot.
-/
import Derived.Test.YthipdinpbihhmaaNless
import Derived.Deep.Cut
namespace Go.Proofs.Ythipdinpbihhmaa
open Go.RowKit

/-- The middle of three. -/
def mid3 (f : Nat → Nat) (a b c : Nat) : Nat := hi f (lo f a b) (lo f (hi f a b) c)

theorem lo_or (f : Nat → Nat) (a b : Nat) : (lo f a b = a ∧ hi f a b = b ∧ f a ≤ f b) ∨ (lo f a b = b ∧ hi f a b = a ∧ f b < f a) := by
  unfold lo hi
  by_cases h : f b < f a
  · rw [if_pos h, if_pos h]; exact Or.inr ⟨rfl, rfl, h⟩
  · rw [if_neg h, if_neg h]; exact Or.inl ⟨rfl, rfl, by omega⟩
theorem lo_lt {f : Nat → Nat} {a b n : Nat} (ha : a < n) (hb : b < n) : lo f a b < n := by
  rcases lo_or f a b with ⟨h, _⟩ | ⟨h, _⟩ <;> omega
theorem hi_lt {f : Nat → Nat} {a b n : Nat} (ha : a < n) (hb : b < n) : hi f a b < n := by
  rcases lo_or f a b with ⟨_, h, _⟩ | ⟨_, h, _⟩ <;> omega

/-- One is less than the middle, one is more. -/
theorem mid3_is {f : Nat → Nat} {a b c : Nat} (h1 : f a ≠ f b) (h2 : f a ≠ f c) (h3 : f b ≠ f c) :
    (mid3 f a b c = a ∨ mid3 f a b c = b ∨ mid3 f a b c = c) ∧ ∃ x y, (x = a ∨ x = b ∨ x = c) ∧ (y = a ∨ y = b ∨ y = c) ∧ f x < f (mid3 f a b c) ∧ f (mid3 f a b c) < f y := by
  unfold mid3
  rcases lo_or f a b with ⟨e1, e2, h4⟩ | ⟨e1, e2, h4⟩
  · rw [e1, e2]
    rcases lo_or f b c with ⟨e3, _, h5⟩ | ⟨e3, _, h5⟩
    · rw [e3, e2]
      exact ⟨by simp, a, c, by simp, by simp, by omega, by omega⟩
    · rw [e3]
      rcases lo_or f a c with ⟨_, e4, h6⟩ | ⟨_, e4, h6⟩
      · rw [e4]; exact ⟨by simp, a, b, by simp, by simp, by omega, by omega⟩
      · rw [e4]; exact ⟨by simp, c, b, by simp, by simp, by omega, by omega⟩
  · rw [e1, e2]
    rcases lo_or f a c with ⟨e3, _, h5⟩ | ⟨e3, _, h5⟩
    · rw [e3]
      rcases lo_or f b a with ⟨_, e4, h6⟩ | ⟨_, e4, h6⟩
      · rw [e4]; exact ⟨by simp, b, c, by simp, by simp, by omega, by omega⟩
      · omega
    · rw [e3]
      rcases lo_or f b c with ⟨_, e4, h6⟩ | ⟨_, e4, h6⟩
      · rw [e4]; exact ⟨by simp, b, a, by simp, by simp, by omega, by omega⟩
      · rw [e4]; exact ⟨by simp, c, a, by simp, by simp, by omega, by omega⟩

theorem median_any {n g s k a b c cap : Nat} {f : Nat → Nat} {W : World} (hr : Row n W g f) (hs : Cel 1 W s (fun _ => .int .i64 ((k : Nat) : Int))) (hg : g ≠ s) (ha : a < n) (hb : b < n) (hc : c < n) (hk : k < 10) :
    Calls Try.prog 43 #[.slice (some ⟨g, 0, none⟩) n cap, .int .i64 (a : Nat), .int .i64 (b : Nat), .int .i64 (c : Nat), .pointer (some ⟨s, 0, none⟩)] W
      (CntPost s k 3 (.int .i64 (mid3 f a b c : Nat)) W) := by
  have R := Lib.hid hr
  have S := Lib.hid hs
  unfold mid3
  have h1 := lo_lt (f := f) ha hb
  have h2 := hi_lt (f := f) ha hb
  have h3 := lo_lt (f := f) h2 hc
  have B := Lib.hid (fun (w : World) (hk : Keep (fun j => j = s) W w) => R.out.keep hk hg)
  clear hr hs
  generalize e1 : lo f a b = a1 at *
  generalize e2 : hi f a b = b1 at *
  generalize e3 : lo f b1 c = b2 at *
  generalize e4 : hi f a1 b2 = m at *
  have E1 := Lib.hid e1
  have E2 := Lib.hid e2
  have E3 := Lib.hid e3
  have E4 := Lib.hid e4
  clear e1 e2 e3 e4
  go_enter Try.func43, Try.ntmps43
  go_upto_region 2 with (go_at_call 45; refine (order2_any (f := f) R.out S.out ha hb (by omega)).mono ?_; rintro e w1 ⟨rfl, k1, hk1, s1, p1⟩; rw [E1.out, E2.out]; have S1 := Lib.hid s1; have P1 := Lib.hid p1; clear s1 p1)
  go_upto_region 3 with (go_at_call 45; refine (order2_any (f := f) (B.out _ P1.out) S1.out h2 hc (by omega)).mono ?_; rintro e w2 ⟨rfl, k2, hk2, s2, p2⟩; rw [E3.out]; have S2 := Lib.hid s2; have P2 := Lib.hid (P1.out.trans p2 (fun _ _ h => h)); clear s2 p2)
  go_wp2_with (go_at_call 45; refine (order2_any (f := f) (B.out _ P2.out) S2.out h1 h3 (by omega)).mono ?_; rintro e w3 ⟨rfl, k3, hk3, s3, p3⟩; rw [E4.out]; have S3 := Lib.hid s3; have P3 := Lib.hid (P2.out.trans p3 (fun _ _ h => h)); clear s3 p3)
  go_ret
  exact ⟨rfl, k3, by omega, S3.out, P3.out⟩

theorem one_new (v : Value) : ∀ o, o < 1 → [v].getD o (.int .i64 0) = (fun _ : Nat => v) o := by
  intro o ho
  obtain rfl : o = 0 := by omega
  rfl

/-- A pivot: one is less, one is more. -/
def PivPost (a b : Nat) (f : Nat → Nat) (W : World) (e : Ending) (w : World) : Prop :=
  ∃ (p h : Nat), e = .returned (.tuple #[.int .i64 (p : Nat), .int .i64 (h : Nat)]) ∧ h ≤ 1 ∧ a < p ∧ p < b ∧ (∃ x, a ≤ x ∧ x < b ∧ f x < f p) ∧ (∃ x, a ≤ x ∧ x < b ∧ f p < f x) ∧ Below W.heap.size W w

theorem pivot_any {n g a b cap : Nat} {f : Nat → Nat} {W : World} (hr : Row n W g f) (hf : Inj n f) (hb : b ≤ n) (hn : n ≤ 1000) (h8 : a + 8 ≤ b) (h50 : b < a + 50) :
    Calls Try.prog 31 #[.slice (some ⟨g, 0, none⟩) n cap, .int .i64 (a : Nat), .int .i64 (b : Nat)] W (PivPost a b f W) := by
  have R := Lib.hid hr
  have hgl := hr.lt
  obtain ⟨l, hl⟩ : ∃ l, l = b - a := ⟨_, rfl⟩
  obtain ⟨q, hq⟩ : ∃ q, q = l / 4 := ⟨_, rfl⟩
  have q2 : 2 ≤ q := by omega
  have q3 : 4 * q ≤ l := by omega
  have wl : IntKind.i64.wrap ((b : Int) - (a : Int)) = (l : Int) := by rw [wrapN (by omega)]; omega
  have dq : (l : Int).tdiv 4 = (q : Int) := by rw [hq]; exact (Int.ofNat_tdiv l 4).symm
  have w1 : IntKind.i64.wrap (q : Int) = (q : Int) := wrapN (by omega)
  have m1 : IntKind.i64.wrap ((q : Int) * 1) = (q : Int) := by rw [wrapN (by omega)]; omega
  obtain ⟨x2, hx2⟩ : ∃ x, x = q * 2 := ⟨_, rfl⟩
  obtain ⟨x3, hx3⟩ : ∃ x, x = q * 3 := ⟨_, rfl⟩
  have m2 : IntKind.i64.wrap ((q : Int) * 2) = (x2 : Int) := by rw [wrapN (by omega)]; omega
  have m3 : IntKind.i64.wrap ((q : Int) * 3) = (x3 : Int) := by rw [wrapN (by omega)]; omega
  obtain ⟨i, hi'⟩ : ∃ x, x = a + q := ⟨_, rfl⟩
  obtain ⟨j, hj'⟩ : ∃ x, x = a + x2 := ⟨_, rfl⟩
  obtain ⟨k, hk'⟩ : ∃ x, x = a + x3 := ⟨_, rfl⟩
  have s1 : IntKind.i64.wrap ((a : Int) + (q : Int)) = (i : Int) := by rw [wrapN (by omega)]; omega
  have s2 : IntKind.i64.wrap ((a : Int) + (x2 : Int)) = (j : Int) := by rw [wrapN (by omega)]; omega
  have s3 : IntKind.i64.wrap ((a : Int) + (x3 : Int)) = (k : Int) := by rw [wrapN (by omega)]; omega
  have d8 : decide ((l : Int) ≥ 8) = true := decide_eq_true (by omega)
  have d50 : decide ((l : Int) ≥ 50) = false := decide_eq_false (by omega)
  have hij : i < n ∧ j < n ∧ k < n ∧ a < i ∧ a < j ∧ a < k ∧ i < b ∧ j < b ∧ k < b ∧ i ≠ j ∧ i ≠ k ∧ j ≠ k := by omega
  clear hl hq q2 q3 hx2 hx3 hi' hj' hk' h8 h50 hr
  obtain ⟨i1, i2, i3, i4, i5, i6, i7, i8, i9, n1, n2, n3⟩ := hij
  have M := Lib.hid (mid3_is (f := f) (fun e => n1 (hf _ _ i1 i2 e)) (fun e => n2 (hf _ _ i1 i3 e)) (fun e => n3 (hf _ _ i2 i3 e)))
  obtain ⟨wa, hwa⟩ : ∃ wa, wa = W.alloc (.cells #[.int .i64 0] 3) := ⟨_, rfl⟩
  have hba : Below W.heap.size W wa := by rw [hwa]; exact (Below.refl _ _).alloc (Nat.le_refl _) _
  have hca : Cel 1 wa W.heap.size (fun _ => .int .i64 ((0 : Nat) : Int)) := by
    rw [hwa]
    exact (Cel.new W [.int .i64 0] 3).conv (one_new _)
  have RA := Lib.hid (R.out.keep (F := fun _ => False) (Keep.ofBelow hba) id)
  have BA := Lib.hid hba
  have CA := Lib.hid hca
  clear hba hca
  go_enter Try.func31, Try.ntmps31
  go_wp2_with (go_at_call 43
               rw [← hwa]
               refine (median_any (f := f) (k := 0) RA.out CA.out (by omega) i1 i2 i3 (by omega)).mono ?_
               rintro e w2 ⟨rfl, kk, hkk, s2, p2⟩
               have c2 := s2.c 0 (by omega)
               have P2 := Lib.hid (BA.out.trans (p2.below (N := W.heap.size) BA.out.size (fun _ e => by omega)))
               have d12 : decide ((kk : Int) = 12) = false := decide_eq_false (by omega)
               have e12 : ((kk : Int) == 12) = false := by simp; omega
               clear s2 p2)
  all_goals
    go_ret2
    obtain ⟨h1, x, y, hx, hy, h2, h3⟩ := M.out
    first
      | (refine ⟨mid3 f i j k, 1, rfl, by omega, ?_, ?_, ⟨x, ?_, ?_, h2⟩, ⟨y, ?_, ?_, h3⟩, P2.out⟩ <;> omega)
      | (refine ⟨mid3 f i j k, 0, rfl, by omega, ?_, ?_, ⟨x, ?_, ?_, h2⟩, ⟨y, ?_, ?_, h3⟩, P2.out⟩ <;> omega)

end Go.Proofs.Ythipdinpbihhmaa
