/-
  Sorted by putting in.
-/
import Derived.Test.YthipdinpbihhmaaNpiv
namespace Go.Proofs.Ythipdinpbihhmaa
open Go.RowKit

/-- In order up to i, but for what stands at m. -/
def Most (a i m : Nat) (f : Nat → Nat) : Prop := ∀ x y, a ≤ x → x < y → y ≤ i → y ≠ m → f x < f y

theorem most_start {a i : Nat} {f : Nat → Nat} (h : Srt a i f) : Most a i i f := fun x y h1 h2 h3 h4 => h x y h1 h2 (by omega)
theorem most_step {a i m m1 : Nat} {f : Nat → Nat} (h : Most a i m f) (e : m = m1 + 1) (ha : a ≤ m1) (hm : m ≤ i) (hl : f m < f m1) : Most a i m1 (swp f m m1) := by
  intro x y h1 h2 h3 h4
  by_cases y1 : y = m
  · subst y1
    by_cases x1 : x = m1
    · subst x1
      rw [swp_left, swp_right]; exact hl
    · rw [swp_left, swp_out (by omega) x1]
      exact h x m1 h1 (by omega) (by omega) (by omega)
  · rw [swp_out (k := y) y1 h4]
    by_cases x1 : x = m
    · subst x1
      rw [swp_left]
      exact h m1 y ha (by omega) h3 y1
    · by_cases x2 : x = m1
      · subst x2
        rw [swp_right]
        exact h m y (by omega) (by omega) h3 y1
      · rw [swp_out x1 x2]
        exact h x y h1 h2 h3 y1
theorem most_end {a i m : Nat} {f : Nat → Nat} (h : Most a i m f) (hm : m = a ∨ ∃ m1, m = m1 + 1 ∧ a ≤ m1 ∧ f m1 < f m) : Srt a (i + 1) f := by
  intro x y h1 h2 h3
  by_cases y1 : y = m
  · subst y1
    rcases hm with e | ⟨m1, e, ha, hl⟩
    · omega
    · by_cases x1 : x = m1
      · subst x1; exact hl
      · exact Nat.lt_trans (h x m1 h1 (by omega) (by omega) (by omega)) hl
  · exact h x y h1 h2 (by omega) y1

def InsRel (n g a b : Nat) (f : Nat → Nat) (W : World) (v : Value) (wr : World) : Prop :=
  ∃ (k : Nat) (f' : Nat → Nat), v = .int .i64 (k : Nat) ∧ a < k ∧ (k ≤ b ∨ k = a + 1) ∧ Sw a b f f' ∧ Srt a k f' ∧ Row n wr g f' ∧ Keep (fun j => j = g) W wr
def PutRel (n g a b i : Nat) (f : Nat → Nat) (W : World) (v : Value) (wr : World) : Prop :=
  ∃ (m : Nat) (f' : Nat → Nat), v = .int .i64 (m : Nat) ∧ a ≤ m ∧ m ≤ i ∧ Sw a b f f' ∧ Most a i m f' ∧ Row n wr g f' ∧ Keep (fun j => j = g) W wr

theorem PutRel.step {n g a b i m m1 : Nat} {f f' : Nat → Nat} {W wr w2 : World} (e : m = m1 + 1) (ha : a ≤ m1) (hm : m ≤ i) (hi : i < b) (hs : Sw a b f f') (hM : Most a i m f') (hl : f' m < f' m1) (hr : Row n wr g f') (hk : Keep (fun j => j = g) W wr)
    (hw : Alike ((wr.setCell ⟨g, m, none⟩ (.int .u64 ((f' m1 : Nat) : Int))).setCell ⟨g, m1, none⟩ (.int .u64 ((f' m : Nat) : Int))) w2) : PutRel n g a b i f W (.int .i64 (m1 : Nat)) w2 :=
  ⟨m1, swp f' m m1, rfl, ha, by omega, hs.step m m1 (by omega) (by omega) ha (by omega), most_step hM e ha hm hl, hw.row hr.swp, hw.keep ((hk.put _ _).put _ _)⟩

set_option maxHeartbeats 2000000 in
theorem ins_any {n g a b cap : Nat} {f : Nat → Nat} {W : World} (hr : Row n W g f) (hf : Inj n f) (hab : a ≤ b) (hb : b ≤ n) (hn : n ≤ 1000) :
    Calls Try.prog 28 #[.slice (some ⟨g, 0, none⟩) n cap, .int .i64 (a : Nat), .int .i64 (b : Nat)] W (SwPost n g a b f W (Srt a b)) := by
  have R := Lib.hid hr
  have I := Lib.hid hf
  clear hr hf
  obtain ⟨a1, ha1⟩ : ∃ x, x = a + 1 := ⟨_, rfl⟩
  have wa : IntKind.i64.wrap ((a : Int) + 1) = (a1 : Int) := by rw [wrapN (by omega)]; omega
  have HA := Lib.hid ha1
  clear ha1
  go_enter Try.func28, Try.ntmps28
  go_wp2_with fail
  go_loopw [6] (fun v wr => InsRel n g a b f W v wr) (fun v _ => b - (intOf v).toNat)
  case atStart => exact ⟨a1, f, rfl, by have := HA.out; omega, Or.inr HA.out, Sw.refl _, fun i j h1 h2 h3 => (by have := HA.out; omega), R.out, Keep.refl _ _⟩
  case round =>
    obtain ⟨k, f', rfl, hk1, hk2, hs, hS, hR, hK⟩ := hrel
    by_cases hlt : k < b
    · have kb : (k : Int) < (b : Int) := by omega
      have HS := Lib.hid hs
      have HR := Lib.hid hR
      have HK := Lib.hid hK
      have HT := Lib.hid hS
      clear hs hR hK hS
      go_wp2_with fail
      go_loopw [7] (fun v wr => PutRel n g a b k f W v wr) (fun v _ => (intOf v).toNat)
      case atStart => exact ⟨k, f', rfl, by omega, Nat.le_refl _, HS.out, most_start HT.out, HR.out, HK.out⟩
      case round =>
        obtain ⟨m, f2, rfl, hm1, hm2, hs2, hM, hR2, hK2⟩ := hrel
        have HS2 := Lib.hid hs2
        have HM := Lib.hid hM
        have HR2 := Lib.hid hR2
        have HK2 := Lib.hid hK2
        clear hs2 hM hR2 hK2
        by_cases hma : m = a
        · subst hma
          have dg : decide (m < m) = false := decide_eq_false (by omega)
          have E := Lib.hid (fun q => show InsRel n g m b f W (.int .i64 ((k + 1 : Nat) : Int)) (wr.drewN q) from
            ⟨k + 1, f2, rfl, by omega, by omega, HS2.out, most_end HM.out (Or.inl rfl), HR2.out.drewN q, HK2.out.drewN q⟩)
          have wk : IntKind.i64.wrap ((k : Int) + 1) = (k : Int) + 1 := wrapN (by omega)
          go_wp2_with fail
          go_quiet (fail)
          go_wp2_with fail
          go_roundw
          case rel => exact E.out _
          case measure => simp only [intOf]; omega
        · obtain ⟨m1, em⟩ : ∃ x, m = x + 1 := ⟨m - 1, by omega⟩
          have EM := Lib.hid em
          have hm3 : a ≤ m1 := by omega
          have wm : IntKind.i64.wrap ((m : Int) - 1) = (m1 : Int) := by rw [wrapN (by omega)]; omega
          have dg : decide (a < m) = true := decide_eq_true (by omega)
          have x0 : (0 : Int) ≤ (m : Int) := by omega
          have x1 : (0 : Int) ≤ (m1 : Int) := by omega
          have y0 : (m : Int) < (n : Int) := by omega
          have y1 : (m1 : Int) < (n : Int) := by omega
          have c0 : ∀ q, (wr.drewN q).cell? ⟨g, m, none⟩ = some (.int .u64 ((f2 m : Nat) : Int)) := fun q => (HR2.out.drewN q).at (by omega)
          have c1 : ∀ q, (wr.drewN q).cell? ⟨g, m1, none⟩ = some (.int .u64 ((f2 m1 : Nat) : Int)) := fun q => (HR2.out.drewN q).at (by omega)
          have fz : ∀ q i, (wr.drewN q).frozen? ⟨g, i, none⟩ = false := fun q i => (HR2.out.drewN q).fz i
          have d0 := c0 0
          have d1 := c1 0
          by_cases hl : f2 m < f2 m1
          · have hb' : decide (((f2 m : Nat) : Int) < ((f2 m1 : Nat) : Int)) = true := decide_eq_true (by omega)
            have E := Lib.hid (fun q w2 hw => PutRel.step (w2 := w2) EM.out hm3 hm2 hlt HS2.out HM.out hl (HR2.out.drewN q) (HK2.out.drewN q) hw)
            clear em
            generalize f2 m = u at *
            generalize f2 m1 = v at *
            go_wp2_with fail
            go_quiet ((go_at_call 34; exact Calls.quiet_of_same (less_any _ _ _ hb' _)))
            go_wp2_with fail
            have E1 := Lib.hid (fun w2 => E.out nq w2)
            have e0 : (wr.drewN nq).drew.cell? ⟨g, m, none⟩ = some (.int .u64 (u : Int)) := c0 nq
            have e1 : (wr.drewN nq).drew.cell? ⟨g, m1, none⟩ = some (.int .u64 (v : Int)) := c1 nq
            have e2 : (wr.drewN nq).drew.frozen? ⟨g, m, none⟩ = false := fz nq m
            have e3 : ((wr.drewN nq).setCell ⟨g, m, none⟩ (.int .u64 (v : Int))).drew.cell? ⟨g, m1, none⟩ = some (.int .u64 (v : Int)) := (cell_other (by have := EM.out; omega)).trans (c1 nq)
            have e4 : ((wr.drewN nq).setCell ⟨g, m, none⟩ (.int .u64 (v : Int))).drew.frozen? ⟨g, m1, none⟩ = false := (World.frozen?_setCell ..).trans (fz nq m1)
            clear c0 c1 d0 d1 fz E
            generalize wr.drewN nq = ww at *
            go_region
            all_goals go_wp2_with fail
            all_goals go_roundw
            all_goals first
              | exact E1.out _ ⟨rfl, rfl, rfl, rfl⟩
              | (simp only [intOf]; have := EM.out; omega)
          · have hb' : decide (((f2 m : Nat) : Int) < ((f2 m1 : Nat) : Int)) = false := decide_eq_false (by omega)
            have hne : f2 m1 < f2 m := by
              rcases Nat.lt_or_ge (f2 m1) (f2 m) with h | h
              · exact h
              · have := (HS2.out.inj hb I.out) m m1 (by omega) (by omega) (by omega)
                omega
            have E := Lib.hid (fun q => show InsRel n g a b f W (.int .i64 ((k + 1 : Nat) : Int)) (wr.drewN q) from
              ⟨k + 1, f2, rfl, by omega, by omega, HS2.out, most_end HM.out (Or.inr ⟨m1, em, hm3, hne⟩), HR2.out.drewN q, HK2.out.drewN q⟩)
            have wk : IntKind.i64.wrap ((k : Int) + 1) = (k : Int) + 1 := wrapN (by omega)
            clear em hne hl
            generalize f2 m = u at *
            generalize f2 m1 = v at *
            go_wp2_with fail
            go_quiet ((go_at_call 34; exact Calls.quiet_of_same (less_any _ _ _ hb' _)))
            go_wp2_with fail
            go_roundw
            case rel => exact E.out _
            case measure => simp only [intOf]; omega
    · have kb : decide ((k : Int) < (b : Int)) = false := decide_eq_false (by omega)
      have P := Lib.hid (show SwPost n g a b f W (Srt a b) (.returned (.tuple #[])) wr from ⟨rfl, f', hs, fun i j h1 h2 h3 => hS i j h1 h2 (by omega), hR, hK⟩)
      go_wp2_with fail
      go_end0
      exact P.out

end Go.Proofs.Ythipdinpbihhmaa
