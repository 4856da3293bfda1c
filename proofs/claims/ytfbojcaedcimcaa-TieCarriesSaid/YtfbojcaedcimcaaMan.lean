/-
  Texts of this claim, put together.
-/
import Derived.Test.YtfbojcaedcimcaaMam
import Derived.Deep.CutBlock
import Derived.Deep.CutRange
import Derived.Test.YtfbojcaedcimcaaMal

/-
  A row of numbers, parted by its pivot.
-/
namespace Go.Proofs.Ytfbojcaedcimcaa
open Go.RowKit

/-- What an exchange reads and writes. -/
theorem swap_facts {n g x y : Nat} {w : World} {f : Nat → Nat} (h : Row n w g f) (hx : x < n) (hy : y < n) :
    w.drew.cell? ⟨g, x, none⟩ = some (.int .u64 ((f x : Nat) : Int)) ∧ w.drew.cell? ⟨g, y, none⟩ = some (.int .u64 ((f y : Nat) : Int)) ∧ w.drew.frozen? ⟨g, x, none⟩ = false ∧
    (∃ u, (w.setCell ⟨g, x, none⟩ (.int .u64 ((f y : Nat) : Int))).drew.cell? ⟨g, y, none⟩ = some u) ∧ (w.setCell ⟨g, x, none⟩ (.int .u64 ((f y : Nat) : Int))).drew.frozen? ⟨g, y, none⟩ = false :=
  ⟨h.drew.at hx, h.drew.at hy, h.drew.fz x, ⟨_, (Cel.put h x (.int .u64 ((f y : Nat) : Int))).drew.c y hy⟩, (Cel.put h x (.int .u64 ((f y : Nat) : Int))).drew.fz y⟩

/-- On the way: what is below i is less, what is above j is not; s: the one at i is not less; t: the one at j is. -/
def PR (n g a b : Nat) (f : Nat → Nat) (pv : Nat) (W : World) (s t : Bool) (i j : Nat) (wr : World) : Prop :=
  ∃ f', Sw a b f f' ∧ f' a = pv ∧ (∀ x, a < x → x < i → f' x < pv) ∧ (∀ x, j < x → x < b → pv ≤ f' x) ∧ (s = true → i ≤ j → pv ≤ f' i) ∧ (t = true → i ≤ j → f' j < pv) ∧ Row n wr g f' ∧ Keep (fun k => k = g) W wr
def PartPost (n g a b : Nat) (f : Nat → Nat) (pv : Nat) (W : World) (e : Ending) (w : World) : Prop :=
  ∃ (mid : Nat) (f' : Nat → Nat) (r : Bool), e = .returned (.tuple #[.int .i64 (mid : Nat), .bool r]) ∧ a ≤ mid ∧ mid < b ∧ Sw a b f f' ∧ f' mid = pv ∧ (∀ x, a ≤ x → x < mid → f' x < pv) ∧ (∀ x, mid < x → x < b → pv ≤ f' x) ∧ Row n w g f' ∧ Keep (fun k => k = g) W w

section
variable {n g a b pv i j : Nat} {f f' : Nat → Nat} {W wr w2 : World} {s t : Bool}
theorem part_start {p : Nat} (hr : Row n W g f) (hp : a < p) (hb : p < b) (e : i = a + 1) (e2 : j + 1 = b) (h : Alike ((W.setCell ⟨g, a, none⟩ (.int .u64 ((f p : Nat) : Int))).setCell ⟨g, p, none⟩ (.int .u64 ((f a : Nat) : Int))) w2) : PR n g a b f (f p) W false false i j w2 :=
  ⟨swp f a p, (Sw.refl f).step a p (Nat.le_refl _) (by omega) (by omega) hb, swp_left .., fun x h1 h2 => (by omega), fun x h1 h2 => (by omega), (fun h => by cases h), (fun h => by cases h), h.row hr.swp, h.keep (((Keep.refl _ W).put _ _).put _ _)⟩
theorem PR.weak (h : PR n g a b f pv W s t i j wr) : PR n g a b f pv W false false i j wr := by
  obtain ⟨f', h1, h2, h3, h4, _, _, h7, h8⟩ := h
  exact ⟨f', h1, h2, h3, h4, (fun h => by cases h), (fun h => by cases h), h7, h8⟩
theorem part_up (h1 : Sw a b f f') (h2 : f' a = pv) (h3 : ∀ x, a < x → x < i → f' x < pv) (h4 : ∀ x, j < x → x < b → pv ≤ f' x) (h7 : Row n w2 g f') (h8 : Keep (fun k => k = g) W w2) (hl : f' i < pv) : PR n g a b f pv W false false (i + 1) j w2 :=
  ⟨f', h1, h2, fun x h5 h6 => (by
    by_cases e : x = i
    · rw [e]; exact hl
    · exact h3 x h5 (by omega)), h4, (fun h => by cases h), (fun h => by cases h), h7, h8⟩
theorem part_down {j1 : Nat} (e : j = j1 + 1) (h1 : Sw a b f f') (h2 : f' a = pv) (h3 : ∀ x, a < x → x < i → f' x < pv) (h4 : ∀ x, j < x → x < b → pv ≤ f' x) (h5 : i ≤ j → pv ≤ f' i) (h7 : Row n w2 g f') (h8 : Keep (fun k => k = g) W w2) (hl : pv ≤ f' j) : PR n g a b f pv W true false i j1 w2 :=
  ⟨f', h1, h2, h3, fun x h6 h9 => (by
    by_cases e2 : x = j
    · rw [e2]; exact hl
    · exact h4 x (by omega) h9), fun _ h => h5 (by omega), (fun h => by cases h), h7, h8⟩
theorem part_swap {j1 : Nat} (e : j = j1 + 1) (hi : a < i) (hij : i ≤ j) (hj : j < b) (h1 : Sw a b f f') (h2 : f' a = pv) (h3 : ∀ x, a < x → x < i → f' x < pv) (h4 : ∀ x, j < x → x < b → pv ≤ f' x) (h5 : pv ≤ f' i) (h6 : f' j < pv) (h7 : Row n wr g f') (h8 : Keep (fun k => k = g) W wr)
    (h : Alike ((wr.setCell ⟨g, i, none⟩ (.int .u64 ((f' j : Nat) : Int))).setCell ⟨g, j, none⟩ (.int .u64 ((f' i : Nat) : Int))) w2) : i < j ∧ PR n g a b f pv W false false (i + 1) j1 w2 := by
  have hne : i ≠ j := fun e => by rw [e] at h5; omega
  refine ⟨by omega, swp f' i j, h1.step i j (by omega) (by omega) (by omega) hj, by rw [swp_out (by omega) (by omega)]; exact h2, fun x h9 h10 => ?_, fun x h9 h10 => ?_, (fun h => by cases h), (fun h => by cases h), h.row h7.swp, h.keep ((h8.put _ _).put _ _)⟩
  · by_cases e : x = i
    · rw [e, swp_left]; exact h6
    · rw [swp_out e (by omega)]; exact h3 x h9 (by omega)
  · by_cases e : x = j
    · rw [e, swp_right]; exact h5
    · rw [swp_out (by omega) e]; exact h4 x (by omega) h10
theorem part_end (r : Bool) (hi : a < i) (hij : i = j + 1) (hj : j < b) (h1 : Sw a b f f') (h2 : f' a = pv) (h3 : ∀ x, a < x → x < i → f' x < pv) (h4 : ∀ x, j < x → x < b → pv ≤ f' x) (h7 : Row n wr g f') (h8 : Keep (fun k => k = g) W wr)
    (h : Alike ((wr.setCell ⟨g, j, none⟩ (.int .u64 ((f' a : Nat) : Int))).setCell ⟨g, a, none⟩ (.int .u64 ((f' j : Nat) : Int))) w2) : PartPost n g a b f pv W (.returned (.tuple #[.int .i64 (j : Nat), .bool r])) w2 := by
  refine ⟨j, swp f' j a, r, rfl, by omega, hj, h1.step j a (by omega) hj (Nat.le_refl _) (by omega), by rw [swp_left]; exact h2, fun x h9 h10 => ?_, fun x h9 h10 => ?_, h.row h7.swp, h.keep ((h8.put _ _).put _ _)⟩
  · by_cases e : x = a
    · rw [e, swp_right]; exact h3 j (by omega) (by omega)
    · rw [swp_out (by omega) e]; exact h3 x (by omega) (by omega)
  · rw [swp_out (by omega) (by omega)]; exact h4 x h9 h10
end

set_option maxRecDepth 20000 in
set_option maxHeartbeats 8000000 in
theorem part_any {n g a b p cap : Nat} {f : Nat → Nat} {W : World} (hr : Row n W g f) (hp : a < p) (hpb : p < b) (hb : b ≤ n) (hn : n ≤ 1000) :
    Calls Try.prog 75 #[.slice (some ⟨g, 0, none⟩) n cap, .int .i64 (a : Nat), .int .i64 (b : Nat), .int .i64 (p : Nat)] W (PartPost n g a b f (f p) W) := by
  obtain ⟨i0, hi0⟩ : ∃ x, x = a + 1 := ⟨_, rfl⟩
  obtain ⟨j0, hj0⟩ : ∃ x, x + 1 = b := ⟨b - 1, by omega⟩
  have wi : IntKind.i64.wrap ((a : Int) + 1) = (i0 : Int) := by rw [wrapN (by omega)]; omega
  have wj : IntKind.i64.wrap ((b : Int) - 1) = (j0 : Int) := by rw [wrapN (by omega)]; omega
  have z0 : (0 : Int) ≤ (a : Int) := by omega
  have z1 : (0 : Int) ≤ (p : Int) := by omega
  have z2 : (a : Int) < (n : Int) := by omega
  have z3 : (p : Int) < (n : Int) := by omega
  obtain ⟨e0, e1, e2, ⟨u, e3⟩, e4⟩ := swap_facts hr (x := a) (y := p) (by omega) (by omega)
  have S0 := Lib.hid (fun w2 h => part_start (w2 := w2) hr hp hpb hi0 hj0 h)
  have hI0 : a < i0 ∧ i0 ≤ j0 + 1 ∧ j0 < b := by omega
  obtain ⟨k1, k2, k3⟩ := hI0
  clear hr hi0 hj0
  obtain ⟨pv, hpv⟩ : ∃ pv, pv = f p := ⟨_, rfl⟩
  obtain ⟨av, hav⟩ : ∃ av, av = f a := ⟨_, rfl⟩
  rw [← hpv] at e1 e3 e4 S0 ⊢
  rw [← hav] at e0 S0
  clear hpv hav
  go_enter Try.func75, Try.ntmps75
  go_upto_region 1 with fail
  go_cut [] from 12 to 25 (fun wx => PR n g a b f pv W false false i0 j0 wx)
  case first =>
    go_region
    all_goals go_wp2_with fail
    all_goals go_meet
    all_goals exact S0.out _ ⟨rfl, rfl, rfl, rfl⟩
  case rest =>
    have P0 := Lib.hid hcut
    clear hcut S0 e0 e1 e2 e3 e4
    go_upto_block 0 with fail
    go_cut [10] from 30 to 45 (fun v wx => ∃ i, v = .int .i64 ((i : Nat) : Int) ∧ a < i ∧ i ≤ j0 + 1 ∧ PR n g a b f pv W true false i j0 wx)
    case first =>
      go_wp2_with fail
      go_loopw [10] (fun v wx => ∃ i, v = .int .i64 ((i : Nat) : Int) ∧ a < i ∧ i ≤ j0 + 1 ∧ PR n g a b f pv W false false i j0 wx) (fun v _ => j0 + 1 - (intOf v).toNat)
      case atStart => exact ⟨i0, rfl, k1, k2, P0.out⟩
      case round =>
        obtain ⟨i, rfl, hi1, hi2, f', h1, h2, h3, h4, -, -, h7, h8⟩ := hrel
        have z4 : (0 : Int) ≤ (i : Int) := by omega
        by_cases hij : i ≤ j0
        · have hin : i < n := by omega
          have z5 : (i : Int) < (n : Int) := by omega
          have dg : decide ((i : Int) ≤ (j0 : Int)) = true := decide_eq_true (by omega)
          have dg2 : decide (i ≤ j0) = true := decide_eq_true (by omega)
          have c0 : ∀ q, (wr.drewN q).cell? ⟨g, i, none⟩ = some (.int .u64 ((f' i : Nat) : Int)) := fun q => (h7.drewN q).at hin
          have c1 : ∀ q, (wr.drewN q).cell? ⟨g, a, none⟩ = some (.int .u64 ((pv : Nat) : Int)) := fun q => by rw [← h2]; exact (h7.drewN q).at (by omega)
          have d0 := c0 0
          have d1 := c1 0
          by_cases hl : f' i < pv
          · have hb' : decide (((f' i : Nat) : Int) < ((pv : Nat) : Int)) = true := decide_eq_true (by omega)
            have E := Lib.hid (fun q => part_up (w2 := wr.drewN q) h1 h2 h3 h4 (h7.drewN q) (h8.drewN q) hl)
            have wk : IntKind.i64.wrap ((i : Int) + 1) = (i : Int) + 1 := wrapN (by omega)
            clear h1 h2 h3 h4 h7 h8 hl
            generalize f' i = y at *
            go_wp2_with fail
            go_quiet ((go_at_call 73; exact Calls.quiet_of_same (less_any _ _ _ hb' _)))
            go_wp2_with fail
            go_roundw
            case rel => exact ⟨i + 1, by go_num, by omega, by omega, E.out _⟩
            case measure => simp only [intOf]; omega
          · have hb' : decide (((f' i : Nat) : Int) < ((pv : Nat) : Int)) = false := decide_eq_false (by omega)
            have E := Lib.hid (fun q => show PR n g a b f pv W true false i j0 (wr.drewN q) from ⟨f', h1, h2, h3, h4, fun _ _ => (by omega), (fun h => by cases h), h7.drewN q, h8.drewN q⟩)
            clear h1 h2 h3 h4 h7 h8 hl
            generalize f' i = y at *
            go_wp2_with fail
            go_quiet ((go_at_call 73; exact Calls.quiet_of_same (less_any _ _ _ hb' _)))
            go_wp2_with fail
            go_meet
            exact ⟨i, rfl, hi1, hi2, E.out _⟩
        · have dg : decide ((i : Int) ≤ (j0 : Int)) = false := decide_eq_false (by omega)
          have dg2 : decide (i ≤ j0) = false := decide_eq_false (by omega)
          have E := Lib.hid (fun q => show PR n g a b f pv W true false i j0 (wr.drewN q) from ⟨f', h1, h2, h3, h4, fun _ h => absurd h hij, (fun h => by cases h), h7.drewN q, h8.drewN q⟩)
          clear h1 h2 h3 h4 h7 h8 hij
          go_wp2_with fail
          go_quiet (fail)
          go_wp2_with fail
          go_meet
          exact ⟨i, rfl, hi1, hi2, E.out _⟩
    case rest =>
      obtain ⟨i, rfl, hi1, hi2, hP⟩ := hcut
      have P1 := Lib.hid hP
      clear hP P0
      go_upto_block 2 with fail
      go_cut [11] from 46 to 62 (fun v wx => ∃ j, v = .int .i64 ((j : Nat) : Int) ∧ i ≤ j + 1 ∧ j < b ∧ j ≤ j0 ∧ PR n g a b f pv W true true i j wx)
      case first =>
        go_wp2_with fail
        go_loopw [11] (fun v wx => ∃ j, v = .int .i64 ((j : Nat) : Int) ∧ i ≤ j + 1 ∧ j < b ∧ j ≤ j0 ∧ PR n g a b f pv W true false i j wx) (fun v _ => (intOf v).toNat)
        case atStart => exact ⟨j0, rfl, hi2, k3, Nat.le_refl _, P1.out⟩
        case round =>
          obtain ⟨j, rfl, hj1, hj2, hj3, f', h1, h2, h3, h4, h5, -, h7, h8⟩ := hrel
          have z4 : (0 : Int) ≤ (j : Int) := by omega
          by_cases hij : i ≤ j
          · have hjn : j < n := by omega
            have z5 : (j : Int) < (n : Int) := by omega
            have dg : decide ((i : Int) ≤ (j : Int)) = true := decide_eq_true (by omega)
            have dg2 : decide (i ≤ j) = true := decide_eq_true (by omega)
            have c0 : ∀ q, (wr.drewN q).cell? ⟨g, j, none⟩ = some (.int .u64 ((f' j : Nat) : Int)) := fun q => (h7.drewN q).at hjn
            have c1 : ∀ q, (wr.drewN q).cell? ⟨g, a, none⟩ = some (.int .u64 ((pv : Nat) : Int)) := fun q => by rw [← h2]; exact (h7.drewN q).at (by omega)
            have d0 := c0 0
            have d1 := c1 0
            by_cases hl : f' j < pv
            · have hb' : decide (((f' j : Nat) : Int) < ((pv : Nat) : Int)) = true := decide_eq_true (by omega)
              have E := Lib.hid (fun q => show PR n g a b f pv W true true i j (wr.drewN q) from ⟨f', h1, h2, h3, h4, h5, fun _ _ => hl, h7.drewN q, h8.drewN q⟩)
              clear h1 h2 h3 h4 h5 h7 h8 hl
              generalize f' j = y at *
              go_wp2_with fail
              go_quiet ((go_at_call 73; exact Calls.quiet_of_same (less_any _ _ _ hb' _)))
              go_wp2_with fail
              go_meet
              exact ⟨j, rfl, hj1, hj2, hj3, E.out _⟩
            · have hb' : decide (((f' j : Nat) : Int) < ((pv : Nat) : Int)) = false := decide_eq_false (by omega)
              obtain ⟨j1, ej⟩ : ∃ x, j = x + 1 := ⟨j - 1, by omega⟩
              have E := Lib.hid (fun q => part_down (w2 := wr.drewN q) ej h1 h2 h3 h4 (h5 rfl) (h7.drewN q) (h8.drewN q) (by omega))
              have EJ := Lib.hid ej
              have wk : IntKind.i64.wrap ((j : Int) - 1) = (j1 : Int) := by rw [wrapN (by omega)]; omega
              clear h1 h2 h3 h4 h5 h7 h8 hl ej
              generalize f' j = y at *
              go_wp2_with fail
              go_quiet ((go_at_call 73; exact Calls.quiet_of_same (less_any _ _ _ hb' _)))
              go_wp2_with fail
              go_roundw
              case rel => exact ⟨j1, by go_num, by have := EJ.out; omega, by have := EJ.out; omega, by have := EJ.out; omega, E.out _⟩
              case measure => simp only [intOf]; have := EJ.out; omega
          · have dg : decide ((i : Int) ≤ (j : Int)) = false := decide_eq_false (by omega)
            have dg2 : decide (i ≤ j) = false := decide_eq_false (by omega)
            have E := Lib.hid (fun q => show PR n g a b f pv W true true i j (wr.drewN q) from ⟨f', h1, h2, h3, h4, h5, fun _ h => absurd h hij, h7.drewN q, h8.drewN q⟩)
            clear h1 h2 h3 h4 h5 h7 h8 hij
            go_wp2_with fail
            go_quiet (fail)
            go_wp2_with fail
            go_meet
            exact ⟨j, rfl, hj1, hj2, hj3, E.out _⟩
      case rest =>
        obtain ⟨j, rfl, hj1, hj2, hj3, f', h1, h2, h3, h4, h5, h6, h7, h8⟩ := hcut
        clear P1
        by_cases hij : i ≤ j
        · obtain ⟨j1, ej⟩ : ∃ x, j = x + 1 := ⟨j - 1, by omega⟩
          have dg : decide ((i : Int) > (j : Int)) = false := decide_eq_false (by omega)
          have dg2 : decide (j < i) = false := decide_eq_false (by omega)
          have z4 : (0 : Int) ≤ (j : Int) := by omega
          have z5 : (j : Int) < (n : Int) := by omega
          have z6 : (0 : Int) ≤ (i : Int) := by omega
          have z7 : (i : Int) < (n : Int) := by omega
          obtain ⟨e0, e1, e2, ⟨u, e3⟩, e4⟩ := swap_facts h7 (x := i) (y := j) (by omega) (by omega)
          have E := Lib.hid (fun w2 h => part_swap (w2 := w2) ej hi1 hij hj2 h1 h2 h3 h4 (h5 rfl hij) (h6 rfl hij) h7 h8 h)
          have EJ := Lib.hid ej
          have hlt : i < j := by
            rcases Nat.lt_or_ge i j with h | h
            · exact h
            · obtain rfl : i = j := by omega
              have := h5 rfl hij
              have := h6 rfl hij
              omega
          have wi2 : IntKind.i64.wrap ((i : Int) + 1) = (i : Int) + 1 := wrapN (by omega)
          have wj2 : IntKind.i64.wrap ((j : Int) - 1) = (j1 : Int) := by rw [wrapN (by omega)]; omega
          clear h1 h2 h3 h4 h5 h6 h7 h8 ej
          generalize f' i = x at *
          generalize f' j = y at *
          go_upto_region 10 with fail
          go_cut [] from 81 to 94 (fun wx => i < j ∧ PR n g a b f pv W false false (i + 1) j1 wx)
          case first =>
            go_region
            all_goals go_wp2_with fail
            all_goals go_meet
            all_goals exact E.out _ ⟨rfl, rfl, rfl, rfl⟩
          case rest =>
            obtain ⟨hlt, hP⟩ := hcut
            obtain ⟨i2, ei⟩ : ∃ x, x = i + 1 := ⟨_, rfl⟩
            rw [← ei] at hP
            have wi3 : IntKind.i64.wrap ((i : Int) + 1) = (i2 : Int) := by rw [wrapN (by omega)]; omega
            have P2 := Lib.hid hP
            have hI : a < i2 ∧ i2 ≤ j1 + 1 ∧ j1 < b := by have := EJ.out; omega
            obtain ⟨l1, l2, l3⟩ := hI
            clear hP ei e0 e1 e2 e3 e4 E dg dg2 wi2
            go_wp2_with fail
            go_loopw [10, 11] (fun v u wx => ∃ i j, v = .int .i64 ((i : Nat) : Int) ∧ u = .int .i64 ((j : Nat) : Int) ∧ a < i ∧ i ≤ j + 1 ∧ j < b ∧ PR n g a b f pv W false false i j wx) (fun _ u _ => (intOf u).toNat)
            case atStart => exact ⟨i2, j1, rfl, rfl, l1, l2, l3, P2.out⟩
            case round =>
              clear P2
              obtain ⟨i3, j3, rfl, rfl, m1, m2, m3, hP⟩ := hrel
              have P3 := Lib.hid hP
              clear hP
              go_upto_block 6 with fail
              go_cut [10] from 99 to 114 (fun v wx => ∃ i, v = .int .i64 ((i : Nat) : Int) ∧ a < i ∧ i ≤ j3 + 1 ∧ PR n g a b f pv W true false i j3 wx)
              case first =>
                go_wp2_with fail
                go_loopw [10] (fun v wx => ∃ i, v = .int .i64 ((i : Nat) : Int) ∧ a < i ∧ i ≤ j3 + 1 ∧ PR n g a b f pv W false false i j3 wx) (fun v _ => j3 + 1 - (intOf v).toNat)
                case atStart => exact ⟨i3, rfl, m1, m2, P3.out⟩
                case round =>
                  obtain ⟨i, rfl, hi1, hi2, f', h1, h2, h3, h4, -, -, h7, h8⟩ := hrel
                  have z4 : (0 : Int) ≤ (i : Int) := by omega
                  by_cases hij : i ≤ j3
                  · have hin : i < n := by omega
                    have z5 : (i : Int) < (n : Int) := by omega
                    have dg : decide ((i : Int) ≤ (j3 : Int)) = true := decide_eq_true (by omega)
                    have dg2 : decide (i ≤ j3) = true := decide_eq_true (by omega)
                    have c0 : ∀ q, (wr.drewN q).cell? ⟨g, i, none⟩ = some (.int .u64 ((f' i : Nat) : Int)) := fun q => (h7.drewN q).at hin
                    have c1 : ∀ q, (wr.drewN q).cell? ⟨g, a, none⟩ = some (.int .u64 ((pv : Nat) : Int)) := fun q => by rw [← h2]; exact (h7.drewN q).at (by omega)
                    have d0 := c0 0
                    have d1 := c1 0
                    by_cases hl : f' i < pv
                    · have hb' : decide (((f' i : Nat) : Int) < ((pv : Nat) : Int)) = true := decide_eq_true (by omega)
                      have E := Lib.hid (fun q => part_up (w2 := wr.drewN q) h1 h2 h3 h4 (h7.drewN q) (h8.drewN q) hl)
                      have wk : IntKind.i64.wrap ((i : Int) + 1) = (i : Int) + 1 := wrapN (by omega)
                      clear h1 h2 h3 h4 h7 h8 hl
                      generalize f' i = y at *
                      go_wp2_with fail
                      go_quiet ((go_at_call 73; exact Calls.quiet_of_same (less_any _ _ _ hb' _)))
                      go_wp2_with fail
                      go_roundw
                      case rel => exact ⟨i + 1, by go_num, by omega, by omega, E.out _⟩
                      case measure => simp only [intOf]; omega
                    · have hb' : decide (((f' i : Nat) : Int) < ((pv : Nat) : Int)) = false := decide_eq_false (by omega)
                      have E := Lib.hid (fun q => show PR n g a b f pv W true false i j3 (wr.drewN q) from ⟨f', h1, h2, h3, h4, fun _ _ => (by omega), (fun h => by cases h), h7.drewN q, h8.drewN q⟩)
                      clear h1 h2 h3 h4 h7 h8 hl
                      generalize f' i = y at *
                      go_wp2_with fail
                      go_quiet ((go_at_call 73; exact Calls.quiet_of_same (less_any _ _ _ hb' _)))
                      go_wp2_with fail
                      go_meet
                      exact ⟨i, rfl, hi1, hi2, E.out _⟩
                  · have dg : decide ((i : Int) ≤ (j3 : Int)) = false := decide_eq_false (by omega)
                    have dg2 : decide (i ≤ j3) = false := decide_eq_false (by omega)
                    have E := Lib.hid (fun q => show PR n g a b f pv W true false i j3 (wr.drewN q) from ⟨f', h1, h2, h3, h4, fun _ h => absurd h hij, (fun h => by cases h), h7.drewN q, h8.drewN q⟩)
                    clear h1 h2 h3 h4 h7 h8 hij
                    go_wp2_with fail
                    go_quiet (fail)
                    go_wp2_with fail
                    go_meet
                    exact ⟨i, rfl, hi1, hi2, E.out _⟩
              case rest =>
                obtain ⟨i, rfl, hi1, hi2, hP⟩ := hcut
                have P4 := Lib.hid hP
                clear hP P3
                go_upto_block 8 with fail
                go_cut [11] from 115 to 131 (fun v wx => ∃ j, v = .int .i64 ((j : Nat) : Int) ∧ i ≤ j + 1 ∧ j < b ∧ j ≤ j3 ∧ PR n g a b f pv W true true i j wx)
                case first =>
                  go_wp2_with fail
                  go_loopw [11] (fun v wx => ∃ j, v = .int .i64 ((j : Nat) : Int) ∧ i ≤ j + 1 ∧ j < b ∧ j ≤ j3 ∧ PR n g a b f pv W true false i j wx) (fun v _ => (intOf v).toNat)
                  case atStart => exact ⟨j3, rfl, hi2, m3, Nat.le_refl _, P4.out⟩
                  case round =>
                    obtain ⟨j, rfl, hj1, hj2, hj3, f', h1, h2, h3, h4, h5, -, h7, h8⟩ := hrel
                    have z4 : (0 : Int) ≤ (j : Int) := by omega
                    by_cases hij : i ≤ j
                    · have hjn : j < n := by omega
                      have z5 : (j : Int) < (n : Int) := by omega
                      have dg : decide ((i : Int) ≤ (j : Int)) = true := decide_eq_true (by omega)
                      have dg2 : decide (i ≤ j) = true := decide_eq_true (by omega)
                      have c0 : ∀ q, (wr.drewN q).cell? ⟨g, j, none⟩ = some (.int .u64 ((f' j : Nat) : Int)) := fun q => (h7.drewN q).at hjn
                      have c1 : ∀ q, (wr.drewN q).cell? ⟨g, a, none⟩ = some (.int .u64 ((pv : Nat) : Int)) := fun q => by rw [← h2]; exact (h7.drewN q).at (by omega)
                      have d0 := c0 0
                      have d1 := c1 0
                      by_cases hl : f' j < pv
                      · have hb' : decide (((f' j : Nat) : Int) < ((pv : Nat) : Int)) = true := decide_eq_true (by omega)
                        have E := Lib.hid (fun q => show PR n g a b f pv W true true i j (wr.drewN q) from ⟨f', h1, h2, h3, h4, h5, fun _ _ => hl, h7.drewN q, h8.drewN q⟩)
                        clear h1 h2 h3 h4 h5 h7 h8 hl
                        generalize f' j = y at *
                        go_wp2_with fail
                        go_quiet ((go_at_call 73; exact Calls.quiet_of_same (less_any _ _ _ hb' _)))
                        go_wp2_with fail
                        go_meet
                        exact ⟨j, rfl, hj1, hj2, hj3, E.out _⟩
                      · have hb' : decide (((f' j : Nat) : Int) < ((pv : Nat) : Int)) = false := decide_eq_false (by omega)
                        obtain ⟨j1, ej⟩ : ∃ x, j = x + 1 := ⟨j - 1, by omega⟩
                        have E := Lib.hid (fun q => part_down (w2 := wr.drewN q) ej h1 h2 h3 h4 (h5 rfl) (h7.drewN q) (h8.drewN q) (by omega))
                        have EJ := Lib.hid ej
                        have wk : IntKind.i64.wrap ((j : Int) - 1) = (j1 : Int) := by rw [wrapN (by omega)]; omega
                        clear h1 h2 h3 h4 h5 h7 h8 hl ej
                        generalize f' j = y at *
                        go_wp2_with fail
                        go_quiet ((go_at_call 73; exact Calls.quiet_of_same (less_any _ _ _ hb' _)))
                        go_wp2_with fail
                        go_roundw
                        case rel => exact ⟨j1, by go_num, by have := EJ.out; omega, by have := EJ.out; omega, by have := EJ.out; omega, E.out _⟩
                        case measure => simp only [intOf]; have := EJ.out; omega
                    · have dg : decide ((i : Int) ≤ (j : Int)) = false := decide_eq_false (by omega)
                      have dg2 : decide (i ≤ j) = false := decide_eq_false (by omega)
                      have E := Lib.hid (fun q => show PR n g a b f pv W true true i j (wr.drewN q) from ⟨f', h1, h2, h3, h4, h5, fun _ h => absurd h hij, h7.drewN q, h8.drewN q⟩)
                      clear h1 h2 h3 h4 h5 h7 h8 hij
                      go_wp2_with fail
                      go_quiet (fail)
                      go_wp2_with fail
                      go_meet
                      exact ⟨j, rfl, hj1, hj2, hj3, E.out _⟩
                case rest =>
                  obtain ⟨j, rfl, hj1, hj2, hj3, f', h1, h2, h3, h4, h5, h6, h7, h8⟩ := hcut
                  clear P4
                  by_cases hij : i ≤ j
                  · obtain ⟨j1, ej⟩ : ∃ x, j = x + 1 := ⟨j - 1, by omega⟩
                    have dg : decide ((i : Int) > (j : Int)) = false := decide_eq_false (by omega)
                    have dg2 : decide (j < i) = false := decide_eq_false (by omega)
                    have z4 : (0 : Int) ≤ (j : Int) := by omega
                    have z5 : (j : Int) < (n : Int) := by omega
                    have z6 : (0 : Int) ≤ (i : Int) := by omega
                    have z7 : (i : Int) < (n : Int) := by omega
                    obtain ⟨e0, e1, e2, ⟨u, e3⟩, e4⟩ := swap_facts h7 (x := i) (y := j) (by omega) (by omega)
                    have E := Lib.hid (fun w2 h => part_swap (w2 := w2) ej hi1 hij hj2 h1 h2 h3 h4 (h5 rfl hij) (h6 rfl hij) h7 h8 h)
                    have EJ := Lib.hid ej
                    have hlt : i < j := by
                      rcases Nat.lt_or_ge i j with h | h
                      · exact h
                      · obtain rfl : i = j := by omega
                        have := h5 rfl hij
                        have := h6 rfl hij
                        omega
                    have wi2 : IntKind.i64.wrap ((i : Int) + 1) = (i : Int) + 1 := wrapN (by omega)
                    have wj2 : IntKind.i64.wrap ((j : Int) - 1) = (j1 : Int) := by rw [wrapN (by omega)]; omega
                    clear h1 h2 h3 h4 h5 h6 h7 h8 ej
                    generalize f' i = x at *
                    generalize f' j = y at *
                    go_upto_region 18 with fail
                    go_region
                    go_wp2_with fail
                    go_roundw
                    case rel => exact ⟨i + 1, j1, by go_num, by go_num, by omega, by have := EJ.out; omega, by have := EJ.out; omega, And.right (E.out _ ⟨rfl, rfl, rfl, rfl⟩)⟩
                    case measure => simp only [intOf]; have := EJ.out; omega
                  · have hij' : i = j + 1 := by omega
                    have dg : decide ((i : Int) > (j : Int)) = true := decide_eq_true (by omega)
                    have dg2 : decide (j < i) = true := decide_eq_true (by omega)
                    have z4 : (0 : Int) ≤ (j : Int) := by omega
                    have z5 : (j : Int) < (n : Int) := by omega
                    obtain ⟨e0, e1, e2, ⟨u, e3⟩, e4⟩ := swap_facts h7 (x := j) (y := a) (by omega) (by omega)
                    have E := Lib.hid (fun w2 h => part_end (w2 := w2) false hi1 hij' hj2 h1 h2 h3 h4 h7 h8 h)
                    rw [h2] at e1 e3 e4 E
                    clear h1 h2 h3 h4 h5 h6 h7 h8 hij'
                    generalize f' j = y at *
                    go_wp2_with fail
                    go_region
                    all_goals go_wp2_with fail
                    all_goals go_ret2
                    all_goals exact E.out _ ⟨rfl, rfl, rfl, rfl⟩
        · have hij' : i = j + 1 := by omega
          have dg : decide ((i : Int) > (j : Int)) = true := decide_eq_true (by omega)
          have dg2 : decide (j < i) = true := decide_eq_true (by omega)
          have z4 : (0 : Int) ≤ (j : Int) := by omega
          have z5 : (j : Int) < (n : Int) := by omega
          obtain ⟨e0, e1, e2, ⟨u, e3⟩, e4⟩ := swap_facts h7 (x := j) (y := a) (by omega) (by omega)
          have E := Lib.hid (fun w2 h => part_end (w2 := w2) true hi1 hij' hj2 h1 h2 h3 h4 h7 h8 h)
          rw [h2] at e1 e3 e4 E
          clear h1 h2 h3 h4 h5 h6 h7 h8 hij'
          generalize f' j = y at *
          go_wp2_with fail
          go_region
          all_goals go_wp2_with fail
          all_goals go_ret2
          all_goals exact E.out _ ⟨rfl, rfl, rfl, rfl⟩

end Go.Proofs.Ytfbojcaedcimcaa

/-
  A short row of unlike numbers, sorted.
-/
namespace Go.Proofs.Ytfbojcaedcimcaa
open Go.RowKit

/-- All pairs in order but those that lie from a' on and below b'. -/
def But2 (a b a2 b2 : Nat) (f : Nat → Nat) : Prop := ∀ i j, a ≤ i → i < j → j < b → ¬ (a2 ≤ i ∧ j < b2) → f i < f j

section
variable {a b a2 b2 mid pv n : Nat} {f g h : Nat → Nat}
/-- Pairs that are not both within stay in order when what lies within is exchanged. -/
theorem But2.sw (hB : But2 a b a2 b2 f) (p : Sw a2 b2 f g) (ha : a ≤ a2) (hb : b2 ≤ b) : But2 a b a2 b2 g := by
  intro i j h1 h2 h3 h4
  by_cases hi : a2 ≤ i ∧ i < b2
  · obtain ⟨i', x1, x2, e⟩ := p.was i hi.1 hi.2
    rw [e, p.out (k := j) (by omega)]
    exact hB i' j (by omega) (by omega) h3 (by omega)
  · rw [p.out (k := i) (by omega)]
    by_cases hj : a2 ≤ j ∧ j < b2
    · obtain ⟨j', x1, x2, e⟩ := p.was j hj.1 hj.2
      rw [e]
      exact hB i j' h1 (by omega) (by omega) (by omega)
    · rw [p.out (k := j) (by omega)]
      exact hB i j h1 h2 h3 h4
theorem But2.srt (hB : But2 a b a2 b2 f) (hS : Srt a2 b2 f) : Srt a b f := by
  intro i j h1 h2 h3
  by_cases h : a2 ≤ i ∧ j < b2
  · exact hS i j h.1 h2 h.2
  · exact hB i j h1 h2 h3 h
/-- What is ahead is less than all that lies within. -/
theorem But2.ahead (hB : But2 a b a2 b2 f) (ha : a ≤ a2) (hb : b2 ≤ b) (hP : 0 < a → ∀ k, a ≤ k → k < b → f (a - 1) < f k) : 0 < a2 → ∀ k, a2 ≤ k → k < b2 → f (a2 - 1) < f k := by
  intro h0 k h1 h2
  by_cases e : a2 = a
  · subst e
    exact hP h0 k h1 (by omega)
  · exact hB (a2 - 1) k (by omega) (by omega) (by omega) (by omega)
theorem ahead_sw (hP : 0 < a2 → ∀ k, a2 ≤ k → k < b2 → f (a2 - 1) < f k) (p : Sw a2 b2 f g) : 0 < a2 → ∀ k, a2 ≤ k → k < b2 → g (a2 - 1) < g k := by
  intro h0 k h1 h2
  obtain ⟨k', x1, x2, e⟩ := p.was k h1 h2
  rw [e, p.out (k := a2 - 1) (by omega)]
  exact hP h0 k' x1 x2
/-- The left part has been sorted. -/
theorem part_left (hB : But2 a b a2 b2 g) (ha : a ≤ a2) (hb : b2 ≤ b) (hm : a2 ≤ mid) (hm2 : mid < b2) (hl : ∀ x, a2 ≤ x → x < mid → g x < pv) (he : g mid = pv) (hr : ∀ x, mid < x → x < b2 → pv ≤ g x) (hi : Inj n g) (hn : b2 ≤ n)
    (p : Sw a2 mid g h) (hS : Srt a2 mid h) : But2 a b (mid + 1) b2 h := by
  intro i j h1 h2 h3 h4
  by_cases hin : a2 ≤ i ∧ j < b2
  · have ej : ∀ k, mid ≤ k → h k = g k := fun k hk => p.out (Or.inr hk)
    by_cases j1 : j < mid
    · exact hS i j hin.1 h2 j1
    · rw [ej j (by omega)]
      by_cases i1 : i = mid
      · subst i1
        rw [ej i (Nat.le_refl _), he]
        have hne : g j ≠ g i := fun e => by have := hi j i (by omega) (by omega) e; omega
        have := hr j h2 hin.2
        omega
      · obtain ⟨i', x1, x2, e⟩ := p.was i hin.1 (by omega)
        rw [e]
        have := hl i' x1 x2
        by_cases j2 : j = mid
        · subst j2; rw [he]; exact this
        · have := hr j (by omega) hin.2
          omega
  · exact hB.sw (p.mono (Nat.le_refl _) (by omega)) ha hb i j h1 h2 h3 hin
/-- The right part has been sorted. -/
theorem part_right (hB : But2 a b a2 b2 g) (ha : a ≤ a2) (hb : b2 ≤ b) (hm : a2 ≤ mid) (hm2 : mid < b2) (hl : ∀ x, a2 ≤ x → x < mid → g x < pv) (he : g mid = pv) (hr : ∀ x, mid < x → x < b2 → pv ≤ g x) (hi : Inj n g) (hn : b2 ≤ n)
    (p : Sw (mid + 1) b2 g h) (hS : Srt (mid + 1) b2 h) : But2 a b a2 mid h := by
  intro i j h1 h2 h3 h4
  by_cases hin : a2 ≤ i ∧ j < b2
  · have ej : ∀ k, k ≤ mid → h k = g k := fun k hk => p.out (Or.inl (by omega))
    by_cases i1 : mid < i
    · exact hS i j (by omega) h2 hin.2
    · rw [ej i (by omega)]
      by_cases j1 : j = mid
      · subst j1
        rw [ej j (Nat.le_refl _), he]
        exact hl i hin.1 h2
      · obtain ⟨j', x1, x2, e⟩ := p.was j (by omega) hin.2
        rw [e]
        have h5 := hr j' (by omega) x2
        by_cases i2 : i = mid
        · subst i2
          rw [he]
          have hne : g j' ≠ g i := fun e => by have := hi j' i (by omega) (by omega) e; omega
          omega
        · have := hl i hin.1 (by omega)
          omega
  · exact hB.sw (p.mono (by omega) (Nat.le_refl _)) ha hb i j h1 h2 h3 hin
theorem ahead_right (he : g mid = pv) (hr : ∀ x, mid < x → x < b2 → pv ≤ g x) (hi : Inj n g) (hn : b2 ≤ n) : 0 < mid + 1 → ∀ k, mid + 1 ≤ k → k < b2 → g (mid + 1 - 1) < g k := by
  intro _ k h1 h2
  rw [Nat.add_sub_cancel, he]
  have hne : g k ≠ g mid := fun e => by have := hi k mid (by omega) (by omega) e; omega
  have := hr k (by omega) h2
  omega
end

def PdqRel (n g a b lim : Nat) (f : Nat → Nat) (W : World) (va vb vl v8 v9 : Value) (wr : World) : Prop :=
  ∃ (a2 b2 : Nat) (f' : Nat → Nat) (wp : Bool), va = .int .i64 (a2 : Nat) ∧ vb = .int .i64 (b2 : Nat) ∧ vl = .int .i64 (lim : Nat) ∧ v8 = .bool true ∧ v9 = .bool wp ∧ a ≤ a2 ∧ a2 ≤ b2 ∧ b2 ≤ b ∧ Sw a b f f' ∧ But2 a b a2 b2 f' ∧ Row n wr g f' ∧ Keep (fun j => j = g) W wr

/-- What the call wants. -/
def PdqIs (n g cap m : Nat) : Prop := ∀ (a b lim : Nat) (f : Nat → Nat) (W : World), b - a ≤ m → Row n W g f → Inj n f → a ≤ b → b ≤ n → (12 < b - a → 1 ≤ lim) → lim ≤ 100 → (0 < a → ∀ k, a ≤ k → k < b → f (a - 1) < f k) →
  Calls Try.prog 64 #[.slice (some ⟨g, 0, none⟩) n cap, .int .i64 (a : Nat), .int .i64 (b : Nat), .int .i64 (lim : Nat)] W (SwPost n g a b f W (Srt a b))

set_option maxRecDepth 20000 in
set_option maxHeartbeats 8000000 in
theorem pdq_step {n g cap m : Nat} (hn : n ≤ 15) (ih : ∀ m', m' < m → PdqIs n g cap m') : PdqIs n g cap m := by
  intro a b lim f W hm hr hf hab hb hlim hlim2 hP
  have IH := Lib.hid ih
  have R := Lib.hid hr
  have I := Lib.hid hf
  have PH := Lib.hid hP
  have HL := Lib.hid hlim
  clear ih hr hf hP hlim
  go_enter Try.func64, Try.ntmps64
  go_wp2_with fail
  go_loopw [1, 2, 3, 8, 9] (fun va vb vl v8 v9 wr => PdqRel n g a b lim f W va vb vl v8 v9 wr) (fun va vb _ _ _ _ => (intOf vb).toNat - (intOf va).toNat)
  case atStart => exact ⟨a, b, f, true, rfl, rfl, rfl, rfl, rfl, Nat.le_refl _, hab, Nat.le_refl _, Sw.refl _, fun i j h1 h2 h3 h4 => absurd ⟨h1, h3⟩ h4, R.out, Keep.refl _ _⟩
  case round =>
    obtain ⟨a2, b2, f1, wp, rfl, rfl, rfl, rfl, rfl, ha, hab2, hb2, hs, hB, hR, hK⟩ := hrel
    obtain ⟨l, hl⟩ : ∃ l, l = b2 - a2 := ⟨_, rfl⟩
    have wl : IntKind.i64.wrap ((b2 : Int) - (a2 : Int)) = (l : Int) := by rw [wrapN (by omega)]; omega
    have I1 := Lib.hid (hs.inj hb I.out)
    by_cases h12 : l ≤ 12
    · have d12 : decide ((l : Int) ≤ 12) = true := decide_eq_true (by omega)
      have C := Lib.hid (fun (w : World) => ins_any (cap := cap) hR I1.out hab2 (show b2 ≤ n by omega) (by omega))
      have E := Lib.hid (fun w' (f2 : Nat → Nat) (h1 : Sw a2 b2 f1 f2) (h2 : Srt a2 b2 f2) (h3 : Row n w' g f2) (h4 : Keep (fun j => j = g) wr w') => show SwPost n g a b f W (Srt a b) (.returned (.tuple #[])) w' from
        ⟨rfl, f2, hs.trans (h1.mono ha hb2), (hB.sw h1 ha hb2).srt h2, h3, hK.trans h4 (fun _ _ h => h)⟩)
      clear hl hs hB hR hK
      go_wp2_with (go_at_call 67; refine (C.out wr).mono ?_; rintro e w' ⟨rfl, f2, h1, h2, h3, h4⟩)
      go_end0
      exact E.out _ _ h1 h2 h3 h4
    · have d12 : decide ((l : Int) ≤ 12) = false := decide_eq_false (by omega)
      have hlim1 : 1 ≤ lim := HL.out (by omega)
      have elim : ((lim : Int) == 0) = false := by simp; omega
      have l15 : l ≤ 15 := by omega
      have C := Lib.hid (fun (w : World) (h : Row n w g f1) => pivot_any (cap := cap) h I1.out (show b2 ≤ n by omega) (by omega) (show a2 + 8 ≤ b2 by omega) (by omega))
      have A1 := Lib.hid (hB.ahead ha hb2 (ahead_sw PH.out hs))
      have HS := Lib.hid hs
      have HB := Lib.hid hB
      have R1 := Lib.hid hR
      have K1 := Lib.hid hK
      have LL := Lib.hid hl
      clear hl hs hB hR hK
      go_upto_region 15 with (go_at_call 70; refine (C.out wr R1.out).mono ?_; rintro e w2 ⟨p, h, rfl, hh, hp1, hp2, hx1, hx2, hbl⟩; have X1 := Lib.hid hx1; have X2 := Lib.hid hx2; have R2 := Lib.hid (R1.out.keep (F := fun _ => False) (Keep.ofBelow hbl) id); have K2 := Lib.hid (K1.out.trans (Keep.ofBelow (F := fun _ => False) hbl) (fun _ _ f => f.elim)); have e2 : ((h : Int) == 2) = false := (by simp; omega); clear hx1 hx2 hbl C)
      go_cut [68] from 61 to 68 (fun v wx => (∃ bb : Bool, v = .bool bb) ∧ wx = w2)
      case first =>
        have hh2 : h = 0 ∨ h = 1 := by omega
        clear e2 hh
        rcases hh2 with rfl | rfl <;> cases wp
        all_goals
          go_wp2_with fail
          go_meet
          exact ⟨⟨_, rfl⟩, rfl⟩
      case rest =>
        obtain ⟨⟨bb, rfl⟩, rfl⟩ := hcut
        go_upto_if 68 with fail
        go_cut [] from 69 to 72 (fun wx => ∃ q, wx = wc.drewN q)
        case first =>
          cases bb
          · go_wp2_with fail
            go_meet
            exact ⟨0, rfl⟩
          · have E := Lib.hid (fun q (h2 : Srt a2 b2 f1) => show SwPost n g a b f W (Srt a b) (.returned (.tuple #[])) (wc.drewN q) from ⟨rfl, f1, HS.out, HB.out.srt h2, R2.out.drewN q, K2.out.drewN q⟩)
            go_wp2_with (go_at_call 72; refine (pins_any (cap := cap) R2.out I1.out (show a2 < b2 by omega) (show b2 ≤ n by omega) (by omega) (by omega)).mono ?_; rintro e w3 ⟨r, rfl, hr3, q3, rfl⟩; have HR3 := Lib.hid hr3; clear hr3)
            · go_end0
              exact E.out _ (HR3.out (by assumption))
            · go_meet
              exact ⟨_, rfl⟩
        case rest =>
          obtain ⟨q, hq⟩ := hcut
          have R3 := Lib.hid (show Row n wc g f1 from hq ▸ R2.out.drewN q)
          have K3 := Lib.hid (show Keep (fun j => j = g) W wc from hq ▸ K2.out.drewN q)
          clear hq R2 K2 R1 K1
          go_upto_region 17 with fail
          go_cut [87] from 73 to 87 (fun v wx => v = .bool false ∧ ∃ q, wx = wc.drewN q)
          case first =>
            by_cases ha0 : a2 = 0
            · subst ha0
              go_wp2_with fail
              go_quiet (fail)
              go_wp2_with fail
              go_meet
              exact ⟨rfl, _, rfl⟩
            · obtain ⟨a1, ea⟩ : ∃ x, a2 = x + 1 := ⟨a2 - 1, by omega⟩
              have w1 : IntKind.i64.wrap ((a2 : Int) - 1) = (a1 : Int) := by rw [wrapN (by omega)]; omega
              have hlt := A1.out (by omega) p (by omega) hp2
              rw [show a2 - 1 = a1 by omega] at hlt
              have hb' : decide (((f1 a1 : Nat) : Int) < ((f1 p : Nat) : Int)) = true := decide_eq_true (by omega)
              have dg : decide ((a2 : Int) > 0) = true := decide_eq_true (by omega)
              have dg2 : decide (0 < a2) = true := decide_eq_true (by omega)
              have z0 : (0 : Int) ≤ (a1 : Int) := by omega
              have z1 : (a1 : Int) < (n : Int) := by omega
              have z2 : (0 : Int) ≤ (p : Int) := by omega
              have z3 : (p : Int) < (n : Int) := by omega
              have c0 := R3.out.at (i := a1) (by omega)
              have c1 := R3.out.at (i := p) (by omega)
              clear ea hlt
              generalize f1 a1 = x at *
              generalize f1 p = y at *
              go_wp2_with fail
              go_quiet ((go_at_call 73; exact Calls.quiet_of_same (less_any _ _ _ hb' _)))
              go_wp2_with fail
              go_meet
              exact ⟨rfl, _, rfl⟩
          case rest =>
            obtain ⟨rfl, q, hq⟩ := hcut
            have R4 := Lib.hid (show Row n wc g f1 from hq ▸ R3.out.drewN q)
            have K4 := Lib.hid (show Keep (fun j => j = g) W wc from hq ▸ K3.out.drewN q)
            clear hq R3 K3
            have dq : (l : Int).tdiv 8 = 1 := by
              have h : l = 13 ∨ l = 14 ∨ l = 15 := by omega
              rcases h with rfl | rfl | rfl <;> rfl
            go_upto_region 22 with (go_at_call 75; refine (part_any (cap := cap) R4.out hp1 hp2 (show b2 ≤ n by omega) (by omega)).mono ?_; rintro e w5 ⟨mid, f2, r5, rfl, hm1, hm2, hs2, he, hlo, hhi, hR2, hK2⟩; have S2 := Lib.hid hs2; have EE := Lib.hid he; have LO := Lib.hid hlo; have HI := Lib.hid hhi; have R5 := Lib.hid hR2; have K5 := Lib.hid (K4.out.trans hK2 (fun _ _ h => h)); clear hs2 he hlo hhi hR2 hK2)
            have I2 := Lib.hid (S2.out.inj (show b2 ≤ n by omega) I1.out)
            have B2 := Lib.hid (HB.out.sw S2.out ha hb2)
            have T2 := Lib.hid (HS.out.trans (S2.out.mono ha hb2))
            have A2 := Lib.hid (ahead_sw A1.out S2.out)
            have hmid : a2 < mid := by
              obtain ⟨x, x1, x2, x3⟩ := X1.out
              obtain ⟨y, y1, y2, e⟩ := S2.out.is x x1 x2
              rcases Nat.lt_or_ge y mid with h | h
              · omega
              · exfalso
                rcases Nat.eq_or_lt_of_le h with h | h
                · rw [← h, EE.out] at e; omega
                · have := HI.out y h y2; omega
            obtain ⟨x1, hx1⟩ : ∃ x, x = mid - a2 := ⟨_, rfl⟩
            obtain ⟨x2, hx2⟩ : ∃ x, x = b2 - mid := ⟨_, rfl⟩
            obtain ⟨m1, hm1'⟩ : ∃ x, x = mid + 1 := ⟨_, rfl⟩
            have wx1 : IntKind.i64.wrap ((mid : Int) - (a2 : Int)) = (x1 : Int) := by rw [wrapN (by omega)]; omega
            have wx2 : IntKind.i64.wrap ((b2 : Int) - (mid : Int)) = (x2 : Int) := by rw [wrapN (by omega)]; omega
            have wm1 : IntKind.i64.wrap ((mid : Int) + 1) = (m1 : Int) := by rw [wrapN (by omega)]; omega
            have g1 : decide ((x1 : Int) ≥ 1) = true := decide_eq_true (by omega)
            have g2 : decide ((x2 : Int) ≥ 1) = true := decide_eq_true (by omega)
            have wq1 : IntKind.i64.wrap 1 = 1 := by decide
            clear X1 X2 A1 HS HB S2
            by_cases hx : x1 < x2
            · have g3 : decide ((x1 : Int) < (x2 : Int)) = true := decide_eq_true (by omega)
              have N1 := Lib.hid (fun (h : Nat → Nat) (p : Sw a2 mid f2 h) (hS : Srt a2 mid h) => part_left B2.out ha hb2 (by omega) hm2 LO.out EE.out HI.out I2.out (show b2 ≤ n by omega) p hS)
              have C := Lib.hid (fun (h0 : Row n w5 g f2) => IH.out (mid - a2) (by have := LL.out; omega) a2 mid lim f2 w5 (Nat.le_refl _) h0 I2.out (by omega) (by omega) (fun _ => hlim1) hlim2 (fun h k h1 h2 => A2.out h k h1 (by omega)))
              have MM := Lib.hid hm1'
              clear hx1 hx2 hm1' IH
              go_wp2_with (go_at_call 64; refine (C.out R5.out).mono ?_; rintro e w6 ⟨rfl, f3, s3, t3, r3, k3⟩; have F3 := Lib.hid (show Sw a b f f3 from T2.out.trans (s3.mono ha (show mid ≤ b by omega))); have B3 := Lib.hid (N1.out f3 s3 t3); have R6 := Lib.hid r3; have K6 := Lib.hid (K5.out.trans k3 (fun _ _ h => h)); clear s3 t3 r3 k3)
              go_roundw
              case rel => exact ⟨m1, b2, f3, r5, rfl, rfl, rfl, by first | rfl | simp_all, rfl, by have := MM.out; omega, by have := MM.out; omega, hb2, F3.out, MM.out ▸ B3.out, R6.out, K6.out⟩
              case measure => simp only [intOf]; have := MM.out; omega
            · have g3 : decide ((x1 : Int) < (x2 : Int)) = false := decide_eq_false (by omega)
              have N1 := Lib.hid (fun (h : Nat → Nat) (p : Sw m1 b2 f2 h) (hS : Srt m1 b2 h) => part_right B2.out ha hb2 (by omega) hm2 LO.out EE.out HI.out I2.out (show b2 ≤ n by omega) (hm1' ▸ p) (hm1' ▸ hS))
              have C := Lib.hid (fun (h0 : Row n w5 g f2) => IH.out (b2 - m1) (by have := LL.out; omega) m1 b2 lim f2 w5 (Nat.le_refl _) h0 I2.out (by omega) (by omega) (fun _ => hlim1) hlim2 (hm1' ▸ ahead_right EE.out HI.out I2.out (show b2 ≤ n by omega)))
              have MM := Lib.hid hm1'
              clear hx1 hx2 hm1' IH
              go_wp2_with (go_at_call 64; refine (C.out R5.out).mono ?_; rintro e w6 ⟨rfl, f3, s3, t3, r3, k3⟩; have F3 := Lib.hid (show Sw a b f f3 from T2.out.trans (s3.mono (show a ≤ m1 by have := MM.out; omega) hb2)); have B3 := Lib.hid (N1.out f3 s3 t3); have R6 := Lib.hid r3; have K6 := Lib.hid (K5.out.trans k3 (fun _ _ h => h)); clear s3 t3 r3 k3)
              go_roundw
              case rel => exact ⟨a2, mid, f3, r5, rfl, rfl, rfl, by first | rfl | simp_all, rfl, ha, by omega, by omega, F3.out, B3.out, R6.out, K6.out⟩
              case measure => simp only [intOf]; omega

end Go.Proofs.Ytfbojcaedcimcaa

/-
  A short row of unlike numbers, sorted by the library.
-/
namespace Go.Proofs.Ytfbojcaedcimcaa
open Go.RowKit

theorem pdq_any {n g cap : Nat} (hn : n ≤ 15) : ∀ m, PdqIs n g cap m := fun m => Nat.strongRecOn m (fun _ ih => pdq_step hn ih)

theorem sort_any {n g cap : Nat} {f : Nat → Nat} {W : World} (hr : Row n W g f) (hf : Inj n f) (hn : n ≤ 15) :
    Calls Try.prog 58 #[.slice (some ⟨g, 0, none⟩) n cap] W (SwPost n g 0 n f W (Srt 0 n)) := by
  have C := Lib.hid (fun (L : Nat) (h1 : 0 < n → 1 ≤ L) (h2 : L ≤ 8) => pdq_any (g := g) (cap := cap) hn n 0 n L f W (by omega) hr hf (Nat.zero_le _) (Nat.le_refl _) (fun h => h1 (by omega)) (by omega) (fun h => by omega))
  have wn : IntKind.u64.wrap (n : Int) = (n : Int) := by
    simp only [IntKind.wrap, IntKind.bits, IntKind.signed]
    simp
    omega
  clear hr hf
  go_enter Try.func58, Try.ntmps58
  go_wp2_with (first
    | (go_at_call 65; refine (len_any n _ (by omega)).mono ?_; rintro e w' ⟨L, rfl, h1, h2, rfl⟩)
    | (go_at_call 64; refine (C.out L h1 h2).mono ?_; rintro e w' ⟨rfl, f2, h3, h4, h5, h6⟩))
  go_end0
  exact ⟨rfl, f2, h3, h4, h5, h6⟩

/-- Of no numbers. -/
theorem ins_none (W : World) : Calls Try.prog 67 #[.slice none 0 0, .int .i64 0, .int .i64 0] W fun e w' => e = .returned (.tuple #[]) ∧ w' = W := by
  go_enter Try.func67, Try.ntmps67
  go_wp2_with fail
  go_loopw [6] (fun v wr => v = .int .i64 1 ∧ wr = W) (fun _ _ => 0)
  case atStart => exact ⟨rfl, rfl⟩
  case round =>
    obtain ⟨rfl, rfl⟩ := hrel
    go_wp2_with fail
    go_end0
    exact ⟨rfl, rfl⟩
set_option maxRecDepth 20000 in
theorem pdq_none (L : Nat) (W : World) : Calls Try.prog 64 #[.slice none 0 0, .int .i64 0, .int .i64 0, .int .i64 (L : Nat)] W fun e w' => e = .returned (.tuple #[]) ∧ w' = W := by
  go_enter Try.func64, Try.ntmps64
  go_wp2_with fail
  go_loopw [1, 2, 3, 8, 9] (fun va vb _ _ _ wr => va = .int .i64 0 ∧ vb = .int .i64 0 ∧ wr = W) (fun _ _ _ _ _ _ => 0)
  case atStart => exact ⟨rfl, rfl, rfl⟩
  case round =>
    obtain ⟨rfl, rfl, rfl⟩ := hrel
    go_wp2_with (go_at_call 67; refine (ins_none _).mono ?_; rintro e w' ⟨rfl, rfl⟩)
    refine bodyPost_ret (results_none rfl _ _ _) rfl ?_
    exact ⟨rfl, rfl⟩
theorem sort_none (W : World) : Calls Try.prog 58 #[.slice none 0 0] W fun e w' => e = .returned (.tuple #[]) ∧ w' = W := by
  go_enter Try.func58, Try.ntmps58
  go_wp2_with (first
    | (go_at_call 65; refine (len_any 0 _ (by omega)).mono ?_; rintro e w' ⟨L, rfl, h1, h2, rfl⟩)
    | (go_at_call 64; refine (pdq_none L _).mono ?_; rintro e w' ⟨rfl, rfl⟩))
  go_end0
  exact ⟨rfl, rfl⟩

end Go.Proofs.Ytfbojcaedcimcaa
