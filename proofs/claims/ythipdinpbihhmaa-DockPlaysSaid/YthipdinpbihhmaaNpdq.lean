/-
  A short row of unlike numbers, sorted.
-/
import Derived.Test.YthipdinpbihhmaaNpart
namespace Go.Proofs.Ythipdinpbihhmaa
open Go.RowKit

/-- All pairs in order but those that lie from a' on and below b'. -/
def But2 (a b a2 b2 : Nat) (f : Nat → Nat) : Prop := ∀ i j, a ≤ i → i < j → j < b → ¬ (a2 ≤ i ∧ j < b2) → f i < f j

section
variable {a b a2 b2 mid pv n : Nat} {f g h : Nat → Nat}
/-- Pairs that are not both within stay in order when what lies within is exchanged. -/
theorem But2.sw (hB : But2 a b a2 b2 f) (p : Sw a2 b2 f g) (ha : a ≤ a2) (hb : b2 ≤ b) : But2 a b a2 b2 g := by
  intro i j h1 h2 h3 h4
  by_cases hi : a2 ≤ i ∧ i < b2
  · obtain ⟨i', x1, x2, e⟩ := p.was i hi.1 hi.2
    rw [e, p.out (k := j) (by omega)]
    exact hB i' j (by omega) (by omega) h3 (by omega)
  · rw [p.out (k := i) (by omega)]
    by_cases hj : a2 ≤ j ∧ j < b2
    · obtain ⟨j', x1, x2, e⟩ := p.was j hj.1 hj.2
      rw [e]
      exact hB i j' h1 (by omega) (by omega) (by omega)
    · rw [p.out (k := j) (by omega)]
      exact hB i j h1 h2 h3 h4
theorem But2.srt (hB : But2 a b a2 b2 f) (hS : Srt a2 b2 f) : Srt a b f := by
  intro i j h1 h2 h3
  by_cases h : a2 ≤ i ∧ j < b2
  · exact hS i j h.1 h2 h.2
  · exact hB i j h1 h2 h3 h
/-- What is ahead is less than all that lies within. -/
theorem But2.ahead (hB : But2 a b a2 b2 f) (ha : a ≤ a2) (hb : b2 ≤ b) (hP : 0 < a → ∀ k, a ≤ k → k < b → f (a - 1) < f k) : 0 < a2 → ∀ k, a2 ≤ k → k < b2 → f (a2 - 1) < f k := by
  intro h0 k h1 h2
  by_cases e : a2 = a
  · subst e
    exact hP h0 k h1 (by omega)
  · exact hB (a2 - 1) k (by omega) (by omega) (by omega) (by omega)
theorem ahead_sw (hP : 0 < a2 → ∀ k, a2 ≤ k → k < b2 → f (a2 - 1) < f k) (p : Sw a2 b2 f g) : 0 < a2 → ∀ k, a2 ≤ k → k < b2 → g (a2 - 1) < g k := by
  intro h0 k h1 h2
  obtain ⟨k', x1, x2, e⟩ := p.was k h1 h2
  rw [e, p.out (k := a2 - 1) (by omega)]
  exact hP h0 k' x1 x2
/-- The left part has been sorted. -/
theorem part_left (hB : But2 a b a2 b2 g) (ha : a ≤ a2) (hb : b2 ≤ b) (hm : a2 ≤ mid) (hm2 : mid < b2) (hl : ∀ x, a2 ≤ x → x < mid → g x < pv) (he : g mid = pv) (hr : ∀ x, mid < x → x < b2 → pv ≤ g x) (hi : Inj n g) (hn : b2 ≤ n)
    (p : Sw a2 mid g h) (hS : Srt a2 mid h) : But2 a b (mid + 1) b2 h := by
  intro i j h1 h2 h3 h4
  by_cases hin : a2 ≤ i ∧ j < b2
  · have ej : ∀ k, mid ≤ k → h k = g k := fun k hk => p.out (Or.inr hk)
    by_cases j1 : j < mid
    · exact hS i j hin.1 h2 j1
    · rw [ej j (by omega)]
      by_cases i1 : i = mid
      · subst i1
        rw [ej i (Nat.le_refl _), he]
        have hne : g j ≠ g i := fun e => by have := hi j i (by omega) (by omega) e; omega
        have := hr j h2 hin.2
        omega
      · obtain ⟨i', x1, x2, e⟩ := p.was i hin.1 (by omega)
        rw [e]
        have := hl i' x1 x2
        by_cases j2 : j = mid
        · subst j2; rw [he]; exact this
        · have := hr j (by omega) hin.2
          omega
  · exact hB.sw (p.mono (Nat.le_refl _) (by omega)) ha hb i j h1 h2 h3 hin
/-- The right part has been sorted. -/
theorem part_right (hB : But2 a b a2 b2 g) (ha : a ≤ a2) (hb : b2 ≤ b) (hm : a2 ≤ mid) (hm2 : mid < b2) (hl : ∀ x, a2 ≤ x → x < mid → g x < pv) (he : g mid = pv) (hr : ∀ x, mid < x → x < b2 → pv ≤ g x) (hi : Inj n g) (hn : b2 ≤ n)
    (p : Sw (mid + 1) b2 g h) (hS : Srt (mid + 1) b2 h) : But2 a b a2 mid h := by
  intro i j h1 h2 h3 h4
  by_cases hin : a2 ≤ i ∧ j < b2
  · have ej : ∀ k, k ≤ mid → h k = g k := fun k hk => p.out (Or.inl (by omega))
    by_cases i1 : mid < i
    · exact hS i j (by omega) h2 hin.2
    · rw [ej i (by omega)]
      by_cases j1 : j = mid
      · subst j1
        rw [ej j (Nat.le_refl _), he]
        exact hl i hin.1 h2
      · obtain ⟨j', x1, x2, e⟩ := p.was j (by omega) hin.2
        rw [e]
        have h5 := hr j' (by omega) x2
        by_cases i2 : i = mid
        · subst i2
          rw [he]
          have hne : g j' ≠ g i := fun e => by have := hi j' i (by omega) (by omega) e; omega
          omega
        · have := hl i hin.1 (by omega)
          omega
  · exact hB.sw (p.mono (by omega) (Nat.le_refl _)) ha hb i j h1 h2 h3 hin
theorem ahead_right (he : g mid = pv) (hr : ∀ x, mid < x → x < b2 → pv ≤ g x) (hi : Inj n g) (hn : b2 ≤ n) : 0 < mid + 1 → ∀ k, mid + 1 ≤ k → k < b2 → g (mid + 1 - 1) < g k := by
  intro _ k h1 h2
  rw [Nat.add_sub_cancel, he]
  have hne : g k ≠ g mid := fun e => by have := hi k mid (by omega) (by omega) e; omega
  have := hr k (by omega) h2
  omega
end

def PdqRel (n g a b lim : Nat) (f : Nat → Nat) (W : World) (va vb vl v8 v9 : Value) (wr : World) : Prop :=
  ∃ (a2 b2 : Nat) (f' : Nat → Nat) (wp : Bool), va = .int .i64 (a2 : Nat) ∧ vb = .int .i64 (b2 : Nat) ∧ vl = .int .i64 (lim : Nat) ∧ v8 = .bool true ∧ v9 = .bool wp ∧ a ≤ a2 ∧ a2 ≤ b2 ∧ b2 ≤ b ∧ Sw a b f f' ∧ But2 a b a2 b2 f' ∧ Row n wr g f' ∧ Keep (fun j => j = g) W wr

/-- What the call wants. -/
def PdqIs (n g cap m : Nat) : Prop := ∀ (a b lim : Nat) (f : Nat → Nat) (W : World), b - a ≤ m → Row n W g f → Inj n f → a ≤ b → b ≤ n → (12 < b - a → 1 ≤ lim) → lim ≤ 100 → (0 < a → ∀ k, a ≤ k → k < b → f (a - 1) < f k) →
  Calls Try.prog 26 #[.slice (some ⟨g, 0, none⟩) n cap, .int .i64 (a : Nat), .int .i64 (b : Nat), .int .i64 (lim : Nat)] W (SwPost n g a b f W (Srt a b))

set_option maxRecDepth 20000 in
set_option maxHeartbeats 8000000 in
theorem pdq_step {n g cap m : Nat} (hn : n ≤ 15) (ih : ∀ m', m' < m → PdqIs n g cap m') : PdqIs n g cap m := by
  intro a b lim f W hm hr hf hab hb hlim hlim2 hP
  have IH := Lib.hid ih
  have R := Lib.hid hr
  have I := Lib.hid hf
  have PH := Lib.hid hP
  have HL := Lib.hid hlim
  clear ih hr hf hP hlim
  go_enter Try.func26, Try.ntmps26
  go_wp2_with fail
  go_loopw [1, 2, 3, 8, 9] (fun va vb vl v8 v9 wr => PdqRel n g a b lim f W va vb vl v8 v9 wr) (fun va vb _ _ _ _ => (intOf vb).toNat - (intOf va).toNat)
  case atStart => exact ⟨a, b, f, true, rfl, rfl, rfl, rfl, rfl, Nat.le_refl _, hab, Nat.le_refl _, Sw.refl _, fun i j h1 h2 h3 h4 => absurd ⟨h1, h3⟩ h4, R.out, Keep.refl _ _⟩
  case round =>
    obtain ⟨a2, b2, f1, wp, rfl, rfl, rfl, rfl, rfl, ha, hab2, hb2, hs, hB, hR, hK⟩ := hrel
    obtain ⟨l, hl⟩ : ∃ l, l = b2 - a2 := ⟨_, rfl⟩
    have wl : IntKind.i64.wrap ((b2 : Int) - (a2 : Int)) = (l : Int) := by rw [wrapN (by omega)]; omega
    have I1 := Lib.hid (hs.inj hb I.out)
    by_cases h12 : l ≤ 12
    · have d12 : decide ((l : Int) ≤ 12) = true := decide_eq_true (by omega)
      have C := Lib.hid (fun (w : World) => ins_any (cap := cap) hR I1.out hab2 (show b2 ≤ n by omega) (by omega))
      have E := Lib.hid (fun w' (f2 : Nat → Nat) (h1 : Sw a2 b2 f1 f2) (h2 : Srt a2 b2 f2) (h3 : Row n w' g f2) (h4 : Keep (fun j => j = g) wr w') => show SwPost n g a b f W (Srt a b) (.returned (.tuple #[])) w' from
        ⟨rfl, f2, hs.trans (h1.mono ha hb2), (hB.sw h1 ha hb2).srt h2, h3, hK.trans h4 (fun _ _ h => h)⟩)
      clear hl hs hB hR hK
      go_wp2_with (go_at_call 28; refine (C.out wr).mono ?_; rintro e w' ⟨rfl, f2, h1, h2, h3, h4⟩)
      go_end0
      exact E.out _ _ h1 h2 h3 h4
    · have d12 : decide ((l : Int) ≤ 12) = false := decide_eq_false (by omega)
      have hlim1 : 1 ≤ lim := HL.out (by omega)
      have elim : ((lim : Int) == 0) = false := by simp; omega
      have l15 : l ≤ 15 := by omega
      have C := Lib.hid (fun (w : World) (h : Row n w g f1) => pivot_any (cap := cap) h I1.out (show b2 ≤ n by omega) (by omega) (show a2 + 8 ≤ b2 by omega) (by omega))
      have A1 := Lib.hid (hB.ahead ha hb2 (ahead_sw PH.out hs))
      have HS := Lib.hid hs
      have HB := Lib.hid hB
      have R1 := Lib.hid hR
      have K1 := Lib.hid hK
      have LL := Lib.hid hl
      clear hl hs hB hR hK
      go_upto_region 15 with (go_at_call 31; refine (C.out wr R1.out).mono ?_; rintro e w2 ⟨p, h, rfl, hh, hp1, hp2, hx1, hx2, hbl⟩; have X1 := Lib.hid hx1; have X2 := Lib.hid hx2; have R2 := Lib.hid (R1.out.keep (F := fun _ => False) (Keep.ofBelow hbl) id); have K2 := Lib.hid (K1.out.trans (Keep.ofBelow (F := fun _ => False) hbl) (fun _ _ f => f.elim)); have e2 : ((h : Int) == 2) = false := (by simp; omega); clear hx1 hx2 hbl C)
      go_cut [68] from 61 to 68 (fun v wx => (∃ bb : Bool, v = .bool bb) ∧ wx = w2)
      case first =>
        have hh2 : h = 0 ∨ h = 1 := by omega
        clear e2 hh
        rcases hh2 with rfl | rfl <;> cases wp
        all_goals
          go_wp2_with fail
          go_meet
          exact ⟨⟨_, rfl⟩, rfl⟩
      case rest =>
        obtain ⟨⟨bb, rfl⟩, rfl⟩ := hcut
        go_upto_if 68 with fail
        go_cut [] from 69 to 72 (fun wx => ∃ q, wx = wc.drewN q)
        case first =>
          cases bb
          · go_wp2_with fail
            go_meet
            exact ⟨0, rfl⟩
          · have E := Lib.hid (fun q (h2 : Srt a2 b2 f1) => show SwPost n g a b f W (Srt a b) (.returned (.tuple #[])) (wc.drewN q) from ⟨rfl, f1, HS.out, HB.out.srt h2, R2.out.drewN q, K2.out.drewN q⟩)
            go_wp2_with (go_at_call 33; refine (pins_any (cap := cap) R2.out I1.out (show a2 < b2 by omega) (show b2 ≤ n by omega) (by omega) (by omega)).mono ?_; rintro e w3 ⟨r, rfl, hr3, q3, rfl⟩; have HR3 := Lib.hid hr3; clear hr3)
            · go_end0
              exact E.out _ (HR3.out (by assumption))
            · go_meet
              exact ⟨_, rfl⟩
        case rest =>
          obtain ⟨q, hq⟩ := hcut
          have R3 := Lib.hid (show Row n wc g f1 from hq ▸ R2.out.drewN q)
          have K3 := Lib.hid (show Keep (fun j => j = g) W wc from hq ▸ K2.out.drewN q)
          clear hq R2 K2 R1 K1
          go_upto_region 17 with fail
          go_cut [87] from 73 to 87 (fun v wx => v = .bool false ∧ ∃ q, wx = wc.drewN q)
          case first =>
            by_cases ha0 : a2 = 0
            · subst ha0
              go_wp2_with fail
              go_quiet (fail)
              go_wp2_with fail
              go_meet
              exact ⟨rfl, _, rfl⟩
            · obtain ⟨a1, ea⟩ : ∃ x, a2 = x + 1 := ⟨a2 - 1, by omega⟩
              have w1 : IntKind.i64.wrap ((a2 : Int) - 1) = (a1 : Int) := by rw [wrapN (by omega)]; omega
              have hlt := A1.out (by omega) p (by omega) hp2
              rw [show a2 - 1 = a1 by omega] at hlt
              have hb' : decide (((f1 a1 : Nat) : Int) < ((f1 p : Nat) : Int)) = true := decide_eq_true (by omega)
              have dg : decide ((a2 : Int) > 0) = true := decide_eq_true (by omega)
              have dg2 : decide (0 < a2) = true := decide_eq_true (by omega)
              have z0 : (0 : Int) ≤ (a1 : Int) := by omega
              have z1 : (a1 : Int) < (n : Int) := by omega
              have z2 : (0 : Int) ≤ (p : Int) := by omega
              have z3 : (p : Int) < (n : Int) := by omega
              have c0 := R3.out.at (i := a1) (by omega)
              have c1 := R3.out.at (i := p) (by omega)
              clear ea hlt
              generalize f1 a1 = x at *
              generalize f1 p = y at *
              go_wp2_with fail
              go_quiet ((go_at_call 34; exact Calls.quiet_of_same (less_any _ _ _ hb' _)))
              go_wp2_with fail
              go_meet
              exact ⟨rfl, _, rfl⟩
          case rest =>
            obtain ⟨rfl, q, hq⟩ := hcut
            have R4 := Lib.hid (show Row n wc g f1 from hq ▸ R3.out.drewN q)
            have K4 := Lib.hid (show Keep (fun j => j = g) W wc from hq ▸ K3.out.drewN q)
            clear hq R3 K3
            have dq : (l : Int).tdiv 8 = 1 := by
              have h : l = 13 ∨ l = 14 ∨ l = 15 := by omega
              rcases h with rfl | rfl | rfl <;> rfl
            go_upto_region 22 with (go_at_call 36; refine (part_any (cap := cap) R4.out hp1 hp2 (show b2 ≤ n by omega) (by omega)).mono ?_; rintro e w5 ⟨mid, f2, r5, rfl, hm1, hm2, hs2, he, hlo, hhi, hR2, hK2⟩; have S2 := Lib.hid hs2; have EE := Lib.hid he; have LO := Lib.hid hlo; have HI := Lib.hid hhi; have R5 := Lib.hid hR2; have K5 := Lib.hid (K4.out.trans hK2 (fun _ _ h => h)); clear hs2 he hlo hhi hR2 hK2)
            have I2 := Lib.hid (S2.out.inj (show b2 ≤ n by omega) I1.out)
            have B2 := Lib.hid (HB.out.sw S2.out ha hb2)
            have T2 := Lib.hid (HS.out.trans (S2.out.mono ha hb2))
            have A2 := Lib.hid (ahead_sw A1.out S2.out)
            have hmid : a2 < mid := by
              obtain ⟨x, x1, x2, x3⟩ := X1.out
              obtain ⟨y, y1, y2, e⟩ := S2.out.is x x1 x2
              rcases Nat.lt_or_ge y mid with h | h
              · omega
              · exfalso
                rcases Nat.eq_or_lt_of_le h with h | h
                · rw [← h, EE.out] at e; omega
                · have := HI.out y h y2; omega
            obtain ⟨x1, hx1⟩ : ∃ x, x = mid - a2 := ⟨_, rfl⟩
            obtain ⟨x2, hx2⟩ : ∃ x, x = b2 - mid := ⟨_, rfl⟩
            obtain ⟨m1, hm1'⟩ : ∃ x, x = mid + 1 := ⟨_, rfl⟩
            have wx1 : IntKind.i64.wrap ((mid : Int) - (a2 : Int)) = (x1 : Int) := by rw [wrapN (by omega)]; omega
            have wx2 : IntKind.i64.wrap ((b2 : Int) - (mid : Int)) = (x2 : Int) := by rw [wrapN (by omega)]; omega
            have wm1 : IntKind.i64.wrap ((mid : Int) + 1) = (m1 : Int) := by rw [wrapN (by omega)]; omega
            have g1 : decide ((x1 : Int) ≥ 1) = true := decide_eq_true (by omega)
            have g2 : decide ((x2 : Int) ≥ 1) = true := decide_eq_true (by omega)
            have wq1 : IntKind.i64.wrap 1 = 1 := by decide
            clear X1 X2 A1 HS HB S2
            by_cases hx : x1 < x2
            · have g3 : decide ((x1 : Int) < (x2 : Int)) = true := decide_eq_true (by omega)
              have N1 := Lib.hid (fun (h : Nat → Nat) (p : Sw a2 mid f2 h) (hS : Srt a2 mid h) => part_left B2.out ha hb2 (by omega) hm2 LO.out EE.out HI.out I2.out (show b2 ≤ n by omega) p hS)
              have C := Lib.hid (fun (h0 : Row n w5 g f2) => IH.out (mid - a2) (by have := LL.out; omega) a2 mid lim f2 w5 (Nat.le_refl _) h0 I2.out (by omega) (by omega) (fun _ => hlim1) hlim2 (fun h k h1 h2 => A2.out h k h1 (by omega)))
              have MM := Lib.hid hm1'
              clear hx1 hx2 hm1' IH
              go_wp2_with (go_at_call 26; refine (C.out R5.out).mono ?_; rintro e w6 ⟨rfl, f3, s3, t3, r3, k3⟩; have F3 := Lib.hid (show Sw a b f f3 from T2.out.trans (s3.mono ha (show mid ≤ b by omega))); have B3 := Lib.hid (N1.out f3 s3 t3); have R6 := Lib.hid r3; have K6 := Lib.hid (K5.out.trans k3 (fun _ _ h => h)); clear s3 t3 r3 k3)
              go_roundw
              case rel => exact ⟨m1, b2, f3, r5, rfl, rfl, rfl, by first | rfl | simp_all, rfl, by have := MM.out; omega, by have := MM.out; omega, hb2, F3.out, MM.out ▸ B3.out, R6.out, K6.out⟩
              case measure => simp only [intOf]; have := MM.out; omega
            · have g3 : decide ((x1 : Int) < (x2 : Int)) = false := decide_eq_false (by omega)
              have N1 := Lib.hid (fun (h : Nat → Nat) (p : Sw m1 b2 f2 h) (hS : Srt m1 b2 h) => part_right B2.out ha hb2 (by omega) hm2 LO.out EE.out HI.out I2.out (show b2 ≤ n by omega) (hm1' ▸ p) (hm1' ▸ hS))
              have C := Lib.hid (fun (h0 : Row n w5 g f2) => IH.out (b2 - m1) (by have := LL.out; omega) m1 b2 lim f2 w5 (Nat.le_refl _) h0 I2.out (by omega) (by omega) (fun _ => hlim1) hlim2 (hm1' ▸ ahead_right EE.out HI.out I2.out (show b2 ≤ n by omega)))
              have MM := Lib.hid hm1'
              clear hx1 hx2 hm1' IH
              go_wp2_with (go_at_call 26; refine (C.out R5.out).mono ?_; rintro e w6 ⟨rfl, f3, s3, t3, r3, k3⟩; have F3 := Lib.hid (show Sw a b f f3 from T2.out.trans (s3.mono (show a ≤ m1 by have := MM.out; omega) hb2)); have B3 := Lib.hid (N1.out f3 s3 t3); have R6 := Lib.hid r3; have K6 := Lib.hid (K5.out.trans k3 (fun _ _ h => h)); clear s3 t3 r3 k3)
              go_roundw
              case rel => exact ⟨a2, mid, f3, r5, rfl, rfl, rfl, by first | rfl | simp_all, rfl, ha, by omega, by omega, F3.out, B3.out, R6.out, K6.out⟩
              case measure => simp only [intOf]; omega

end Go.Proofs.Ythipdinpbihhmaa
