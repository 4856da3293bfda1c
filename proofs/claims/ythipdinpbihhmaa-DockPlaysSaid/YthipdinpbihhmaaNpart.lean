/-
  A row of numbers, parted by its pivot.
-/
import Derived.Test.YthipdinpbihhmaaNpins
import Derived.Deep.CutBlock
import Derived.Deep.CutRange
namespace Go.Proofs.Ythipdinpbihhmaa
open Go.RowKit

/-- What an exchange reads and writes. -/
theorem swap_facts {n g x y : Nat} {w : World} {f : Nat → Nat} (h : Row n w g f) (hx : x < n) (hy : y < n) :
    w.drew.cell? ⟨g, x, none⟩ = some (.int .u64 ((f x : Nat) : Int)) ∧ w.drew.cell? ⟨g, y, none⟩ = some (.int .u64 ((f y : Nat) : Int)) ∧ w.drew.frozen? ⟨g, x, none⟩ = false ∧
    (∃ u, (w.setCell ⟨g, x, none⟩ (.int .u64 ((f y : Nat) : Int))).drew.cell? ⟨g, y, none⟩ = some u) ∧ (w.setCell ⟨g, x, none⟩ (.int .u64 ((f y : Nat) : Int))).drew.frozen? ⟨g, y, none⟩ = false :=
  ⟨h.drew.at hx, h.drew.at hy, h.drew.fz x, ⟨_, (Cel.put h x (.int .u64 ((f y : Nat) : Int))).drew.c y hy⟩, (Cel.put h x (.int .u64 ((f y : Nat) : Int))).drew.fz y⟩

/-- On the way: what is below i is less, what is above j is not; s: the one at i is not less; t: the one at j is. -/
def PR (n g a b : Nat) (f : Nat → Nat) (pv : Nat) (W : World) (s t : Bool) (i j : Nat) (wr : World) : Prop :=
  ∃ f', Sw a b f f' ∧ f' a = pv ∧ (∀ x, a < x → x < i → f' x < pv) ∧ (∀ x, j < x → x < b → pv ≤ f' x) ∧ (s = true → i ≤ j → pv ≤ f' i) ∧ (t = true → i ≤ j → f' j < pv) ∧ Row n wr g f' ∧ Keep (fun k => k = g) W wr
def PartPost (n g a b : Nat) (f : Nat → Nat) (pv : Nat) (W : World) (e : Ending) (w : World) : Prop :=
  ∃ (mid : Nat) (f' : Nat → Nat) (r : Bool), e = .returned (.tuple #[.int .i64 (mid : Nat), .bool r]) ∧ a ≤ mid ∧ mid < b ∧ Sw a b f f' ∧ f' mid = pv ∧ (∀ x, a ≤ x → x < mid → f' x < pv) ∧ (∀ x, mid < x → x < b → pv ≤ f' x) ∧ Row n w g f' ∧ Keep (fun k => k = g) W w

section
variable {n g a b pv i j : Nat} {f f' : Nat → Nat} {W wr w2 : World} {s t : Bool}
theorem part_start {p : Nat} (hr : Row n W g f) (hp : a < p) (hb : p < b) (e : i = a + 1) (e2 : j + 1 = b) (h : Alike ((W.setCell ⟨g, a, none⟩ (.int .u64 ((f p : Nat) : Int))).setCell ⟨g, p, none⟩ (.int .u64 ((f a : Nat) : Int))) w2) : PR n g a b f (f p) W false false i j w2 :=
  ⟨swp f a p, (Sw.refl f).step a p (Nat.le_refl _) (by omega) (by omega) hb, swp_left .., fun x h1 h2 => (by omega), fun x h1 h2 => (by omega), (fun h => by cases h), (fun h => by cases h), h.row hr.swp, h.keep (((Keep.refl _ W).put _ _).put _ _)⟩
theorem PR.weak (h : PR n g a b f pv W s t i j wr) : PR n g a b f pv W false false i j wr := by
  obtain ⟨f', h1, h2, h3, h4, _, _, h7, h8⟩ := h
  exact ⟨f', h1, h2, h3, h4, (fun h => by cases h), (fun h => by cases h), h7, h8⟩
theorem part_up (h1 : Sw a b f f') (h2 : f' a = pv) (h3 : ∀ x, a < x → x < i → f' x < pv) (h4 : ∀ x, j < x → x < b → pv ≤ f' x) (h7 : Row n w2 g f') (h8 : Keep (fun k => k = g) W w2) (hl : f' i < pv) : PR n g a b f pv W false false (i + 1) j w2 :=
  ⟨f', h1, h2, fun x h5 h6 => (by
    by_cases e : x = i
    · rw [e]; exact hl
    · exact h3 x h5 (by omega)), h4, (fun h => by cases h), (fun h => by cases h), h7, h8⟩
theorem part_down {j1 : Nat} (e : j = j1 + 1) (h1 : Sw a b f f') (h2 : f' a = pv) (h3 : ∀ x, a < x → x < i → f' x < pv) (h4 : ∀ x, j < x → x < b → pv ≤ f' x) (h5 : i ≤ j → pv ≤ f' i) (h7 : Row n w2 g f') (h8 : Keep (fun k => k = g) W w2) (hl : pv ≤ f' j) : PR n g a b f pv W true false i j1 w2 :=
  ⟨f', h1, h2, h3, fun x h6 h9 => (by
    by_cases e2 : x = j
    · rw [e2]; exact hl
    · exact h4 x (by omega) h9), fun _ h => h5 (by omega), (fun h => by cases h), h7, h8⟩
theorem part_swap {j1 : Nat} (e : j = j1 + 1) (hi : a < i) (hij : i ≤ j) (hj : j < b) (h1 : Sw a b f f') (h2 : f' a = pv) (h3 : ∀ x, a < x → x < i → f' x < pv) (h4 : ∀ x, j < x → x < b → pv ≤ f' x) (h5 : pv ≤ f' i) (h6 : f' j < pv) (h7 : Row n wr g f') (h8 : Keep (fun k => k = g) W wr)
    (h : Alike ((wr.setCell ⟨g, i, none⟩ (.int .u64 ((f' j : Nat) : Int))).setCell ⟨g, j, none⟩ (.int .u64 ((f' i : Nat) : Int))) w2) : i < j ∧ PR n g a b f pv W false false (i + 1) j1 w2 := by
  have hne : i ≠ j := fun e => by rw [e] at h5; omega
  refine ⟨by omega, swp f' i j, h1.step i j (by omega) (by omega) (by omega) hj, by rw [swp_out (by omega) (by omega)]; exact h2, fun x h9 h10 => ?_, fun x h9 h10 => ?_, (fun h => by cases h), (fun h => by cases h), h.row h7.swp, h.keep ((h8.put _ _).put _ _)⟩
  · by_cases e : x = i
    · rw [e, swp_left]; exact h6
    · rw [swp_out e (by omega)]; exact h3 x h9 (by omega)
  · by_cases e : x = j
    · rw [e, swp_right]; exact h5
    · rw [swp_out (by omega) e]; exact h4 x (by omega) h10
theorem part_end (r : Bool) (hi : a < i) (hij : i = j + 1) (hj : j < b) (h1 : Sw a b f f') (h2 : f' a = pv) (h3 : ∀ x, a < x → x < i → f' x < pv) (h4 : ∀ x, j < x → x < b → pv ≤ f' x) (h7 : Row n wr g f') (h8 : Keep (fun k => k = g) W wr)
    (h : Alike ((wr.setCell ⟨g, j, none⟩ (.int .u64 ((f' a : Nat) : Int))).setCell ⟨g, a, none⟩ (.int .u64 ((f' j : Nat) : Int))) w2) : PartPost n g a b f pv W (.returned (.tuple #[.int .i64 (j : Nat), .bool r])) w2 := by
  refine ⟨j, swp f' j a, r, rfl, by omega, hj, h1.step j a (by omega) hj (Nat.le_refl _) (by omega), by rw [swp_left]; exact h2, fun x h9 h10 => ?_, fun x h9 h10 => ?_, h.row h7.swp, h.keep ((h8.put _ _).put _ _)⟩
  · by_cases e : x = a
    · rw [e, swp_right]; exact h3 j (by omega) (by omega)
    · rw [swp_out (by omega) e]; exact h3 x (by omega) (by omega)
  · rw [swp_out (by omega) (by omega)]; exact h4 x h9 h10
end

set_option maxRecDepth 20000 in
set_option maxHeartbeats 8000000 in
theorem part_any {n g a b p cap : Nat} {f : Nat → Nat} {W : World} (hr : Row n W g f) (hp : a < p) (hpb : p < b) (hb : b ≤ n) (hn : n ≤ 1000) :
    Calls Try.prog 36 #[.slice (some ⟨g, 0, none⟩) n cap, .int .i64 (a : Nat), .int .i64 (b : Nat), .int .i64 (p : Nat)] W (PartPost n g a b f (f p) W) := by
  obtain ⟨i0, hi0⟩ : ∃ x, x = a + 1 := ⟨_, rfl⟩
  obtain ⟨j0, hj0⟩ : ∃ x, x + 1 = b := ⟨b - 1, by omega⟩
  have wi : IntKind.i64.wrap ((a : Int) + 1) = (i0 : Int) := by rw [wrapN (by omega)]; omega
  have wj : IntKind.i64.wrap ((b : Int) - 1) = (j0 : Int) := by rw [wrapN (by omega)]; omega
  have z0 : (0 : Int) ≤ (a : Int) := by omega
  have z1 : (0 : Int) ≤ (p : Int) := by omega
  have z2 : (a : Int) < (n : Int) := by omega
  have z3 : (p : Int) < (n : Int) := by omega
  obtain ⟨e0, e1, e2, ⟨u, e3⟩, e4⟩ := swap_facts hr (x := a) (y := p) (by omega) (by omega)
  have S0 := Lib.hid (fun w2 h => part_start (w2 := w2) hr hp hpb hi0 hj0 h)
  have hI0 : a < i0 ∧ i0 ≤ j0 + 1 ∧ j0 < b := by omega
  obtain ⟨k1, k2, k3⟩ := hI0
  clear hr hi0 hj0
  obtain ⟨pv, hpv⟩ : ∃ pv, pv = f p := ⟨_, rfl⟩
  obtain ⟨av, hav⟩ : ∃ av, av = f a := ⟨_, rfl⟩
  rw [← hpv] at e1 e3 e4 S0 ⊢
  rw [← hav] at e0 S0
  clear hpv hav
  go_enter Try.func36, Try.ntmps36
  go_upto_region 1 with fail
  go_cut [] from 12 to 25 (fun wx => PR n g a b f pv W false false i0 j0 wx)
  case first =>
    go_region
    all_goals go_wp2_with fail
    all_goals go_meet
    all_goals exact S0.out _ ⟨rfl, rfl, rfl, rfl⟩
  case rest =>
    have P0 := Lib.hid hcut
    clear hcut S0 e0 e1 e2 e3 e4
    go_upto_block 0 with fail
    go_cut [10] from 30 to 45 (fun v wx => ∃ i, v = .int .i64 ((i : Nat) : Int) ∧ a < i ∧ i ≤ j0 + 1 ∧ PR n g a b f pv W true false i j0 wx)
    case first =>
      go_wp2_with fail
      go_loopw [10] (fun v wx => ∃ i, v = .int .i64 ((i : Nat) : Int) ∧ a < i ∧ i ≤ j0 + 1 ∧ PR n g a b f pv W false false i j0 wx) (fun v _ => j0 + 1 - (intOf v).toNat)
      case atStart => exact ⟨i0, rfl, k1, k2, P0.out⟩
      case round =>
        obtain ⟨i, rfl, hi1, hi2, f', h1, h2, h3, h4, -, -, h7, h8⟩ := hrel
        have z4 : (0 : Int) ≤ (i : Int) := by omega
        by_cases hij : i ≤ j0
        · have hin : i < n := by omega
          have z5 : (i : Int) < (n : Int) := by omega
          have dg : decide ((i : Int) ≤ (j0 : Int)) = true := decide_eq_true (by omega)
          have dg2 : decide (i ≤ j0) = true := decide_eq_true (by omega)
          have c0 : ∀ q, (wr.drewN q).cell? ⟨g, i, none⟩ = some (.int .u64 ((f' i : Nat) : Int)) := fun q => (h7.drewN q).at hin
          have c1 : ∀ q, (wr.drewN q).cell? ⟨g, a, none⟩ = some (.int .u64 ((pv : Nat) : Int)) := fun q => by rw [← h2]; exact (h7.drewN q).at (by omega)
          have d0 := c0 0
          have d1 := c1 0
          by_cases hl : f' i < pv
          · have hb' : decide (((f' i : Nat) : Int) < ((pv : Nat) : Int)) = true := decide_eq_true (by omega)
            have E := Lib.hid (fun q => part_up (w2 := wr.drewN q) h1 h2 h3 h4 (h7.drewN q) (h8.drewN q) hl)
            have wk : IntKind.i64.wrap ((i : Int) + 1) = (i : Int) + 1 := wrapN (by omega)
            clear h1 h2 h3 h4 h7 h8 hl
            generalize f' i = y at *
            go_wp2_with fail
            go_quiet ((go_at_call 34; exact Calls.quiet_of_same (less_any _ _ _ hb' _)))
            go_wp2_with fail
            go_roundw
            case rel => exact ⟨i + 1, by go_num, by omega, by omega, E.out _⟩
            case measure => simp only [intOf]; omega
          · have hb' : decide (((f' i : Nat) : Int) < ((pv : Nat) : Int)) = false := decide_eq_false (by omega)
            have E := Lib.hid (fun q => show PR n g a b f pv W true false i j0 (wr.drewN q) from ⟨f', h1, h2, h3, h4, fun _ _ => (by omega), (fun h => by cases h), h7.drewN q, h8.drewN q⟩)
            clear h1 h2 h3 h4 h7 h8 hl
            generalize f' i = y at *
            go_wp2_with fail
            go_quiet ((go_at_call 34; exact Calls.quiet_of_same (less_any _ _ _ hb' _)))
            go_wp2_with fail
            go_meet
            exact ⟨i, rfl, hi1, hi2, E.out _⟩
        · have dg : decide ((i : Int) ≤ (j0 : Int)) = false := decide_eq_false (by omega)
          have dg2 : decide (i ≤ j0) = false := decide_eq_false (by omega)
          have E := Lib.hid (fun q => show PR n g a b f pv W true false i j0 (wr.drewN q) from ⟨f', h1, h2, h3, h4, fun _ h => absurd h hij, (fun h => by cases h), h7.drewN q, h8.drewN q⟩)
          clear h1 h2 h3 h4 h7 h8 hij
          go_wp2_with fail
          go_quiet (fail)
          go_wp2_with fail
          go_meet
          exact ⟨i, rfl, hi1, hi2, E.out _⟩
    case rest =>
      obtain ⟨i, rfl, hi1, hi2, hP⟩ := hcut
      have P1 := Lib.hid hP
      clear hP P0
      go_upto_block 2 with fail
      go_cut [11] from 46 to 62 (fun v wx => ∃ j, v = .int .i64 ((j : Nat) : Int) ∧ i ≤ j + 1 ∧ j < b ∧ j ≤ j0 ∧ PR n g a b f pv W true true i j wx)
      case first =>
        go_wp2_with fail
        go_loopw [11] (fun v wx => ∃ j, v = .int .i64 ((j : Nat) : Int) ∧ i ≤ j + 1 ∧ j < b ∧ j ≤ j0 ∧ PR n g a b f pv W true false i j wx) (fun v _ => (intOf v).toNat)
        case atStart => exact ⟨j0, rfl, hi2, k3, Nat.le_refl _, P1.out⟩
        case round =>
          obtain ⟨j, rfl, hj1, hj2, hj3, f', h1, h2, h3, h4, h5, -, h7, h8⟩ := hrel
          have z4 : (0 : Int) ≤ (j : Int) := by omega
          by_cases hij : i ≤ j
          · have hjn : j < n := by omega
            have z5 : (j : Int) < (n : Int) := by omega
            have dg : decide ((i : Int) ≤ (j : Int)) = true := decide_eq_true (by omega)
            have dg2 : decide (i ≤ j) = true := decide_eq_true (by omega)
            have c0 : ∀ q, (wr.drewN q).cell? ⟨g, j, none⟩ = some (.int .u64 ((f' j : Nat) : Int)) := fun q => (h7.drewN q).at hjn
            have c1 : ∀ q, (wr.drewN q).cell? ⟨g, a, none⟩ = some (.int .u64 ((pv : Nat) : Int)) := fun q => by rw [← h2]; exact (h7.drewN q).at (by omega)
            have d0 := c0 0
            have d1 := c1 0
            by_cases hl : f' j < pv
            · have hb' : decide (((f' j : Nat) : Int) < ((pv : Nat) : Int)) = true := decide_eq_true (by omega)
              have E := Lib.hid (fun q => show PR n g a b f pv W true true i j (wr.drewN q) from ⟨f', h1, h2, h3, h4, h5, fun _ _ => hl, h7.drewN q, h8.drewN q⟩)
              clear h1 h2 h3 h4 h5 h7 h8 hl
              generalize f' j = y at *
              go_wp2_with fail
              go_quiet ((go_at_call 34; exact Calls.quiet_of_same (less_any _ _ _ hb' _)))
              go_wp2_with fail
              go_meet
              exact ⟨j, rfl, hj1, hj2, hj3, E.out _⟩
            · have hb' : decide (((f' j : Nat) : Int) < ((pv : Nat) : Int)) = false := decide_eq_false (by omega)
              obtain ⟨j1, ej⟩ : ∃ x, j = x + 1 := ⟨j - 1, by omega⟩
              have E := Lib.hid (fun q => part_down (w2 := wr.drewN q) ej h1 h2 h3 h4 (h5 rfl) (h7.drewN q) (h8.drewN q) (by omega))
              have EJ := Lib.hid ej
              have wk : IntKind.i64.wrap ((j : Int) - 1) = (j1 : Int) := by rw [wrapN (by omega)]; omega
              clear h1 h2 h3 h4 h5 h7 h8 hl ej
              generalize f' j = y at *
              go_wp2_with fail
              go_quiet ((go_at_call 34; exact Calls.quiet_of_same (less_any _ _ _ hb' _)))
              go_wp2_with fail
              go_roundw
              case rel => exact ⟨j1, by go_num, by have := EJ.out; omega, by have := EJ.out; omega, by have := EJ.out; omega, E.out _⟩
              case measure => simp only [intOf]; have := EJ.out; omega
          · have dg : decide ((i : Int) ≤ (j : Int)) = false := decide_eq_false (by omega)
            have dg2 : decide (i ≤ j) = false := decide_eq_false (by omega)
            have E := Lib.hid (fun q => show PR n g a b f pv W true true i j (wr.drewN q) from ⟨f', h1, h2, h3, h4, h5, fun _ h => absurd h hij, h7.drewN q, h8.drewN q⟩)
            clear h1 h2 h3 h4 h5 h7 h8 hij
            go_wp2_with fail
            go_quiet (fail)
            go_wp2_with fail
            go_meet
            exact ⟨j, rfl, hj1, hj2, hj3, E.out _⟩
      case rest =>
        obtain ⟨j, rfl, hj1, hj2, hj3, f', h1, h2, h3, h4, h5, h6, h7, h8⟩ := hcut
        clear P1
        by_cases hij : i ≤ j
        · obtain ⟨j1, ej⟩ : ∃ x, j = x + 1 := ⟨j - 1, by omega⟩
          have dg : decide ((i : Int) > (j : Int)) = false := decide_eq_false (by omega)
          have dg2 : decide (j < i) = false := decide_eq_false (by omega)
          have z4 : (0 : Int) ≤ (j : Int) := by omega
          have z5 : (j : Int) < (n : Int) := by omega
          have z6 : (0 : Int) ≤ (i : Int) := by omega
          have z7 : (i : Int) < (n : Int) := by omega
          obtain ⟨e0, e1, e2, ⟨u, e3⟩, e4⟩ := swap_facts h7 (x := i) (y := j) (by omega) (by omega)
          have E := Lib.hid (fun w2 h => part_swap (w2 := w2) ej hi1 hij hj2 h1 h2 h3 h4 (h5 rfl hij) (h6 rfl hij) h7 h8 h)
          have EJ := Lib.hid ej
          have hlt : i < j := by
            rcases Nat.lt_or_ge i j with h | h
            · exact h
            · obtain rfl : i = j := by omega
              have := h5 rfl hij
              have := h6 rfl hij
              omega
          have wi2 : IntKind.i64.wrap ((i : Int) + 1) = (i : Int) + 1 := wrapN (by omega)
          have wj2 : IntKind.i64.wrap ((j : Int) - 1) = (j1 : Int) := by rw [wrapN (by omega)]; omega
          clear h1 h2 h3 h4 h5 h6 h7 h8 ej
          generalize f' i = x at *
          generalize f' j = y at *
          go_upto_region 10 with fail
          go_cut [] from 81 to 94 (fun wx => i < j ∧ PR n g a b f pv W false false (i + 1) j1 wx)
          case first =>
            go_region
            all_goals go_wp2_with fail
            all_goals go_meet
            all_goals exact E.out _ ⟨rfl, rfl, rfl, rfl⟩
          case rest =>
            obtain ⟨hlt, hP⟩ := hcut
            obtain ⟨i2, ei⟩ : ∃ x, x = i + 1 := ⟨_, rfl⟩
            rw [← ei] at hP
            have wi3 : IntKind.i64.wrap ((i : Int) + 1) = (i2 : Int) := by rw [wrapN (by omega)]; omega
            have P2 := Lib.hid hP
            have hI : a < i2 ∧ i2 ≤ j1 + 1 ∧ j1 < b := by have := EJ.out; omega
            obtain ⟨l1, l2, l3⟩ := hI
            clear hP ei e0 e1 e2 e3 e4 E dg dg2 wi2
            go_wp2_with fail
            go_loopw [10, 11] (fun v u wx => ∃ i j, v = .int .i64 ((i : Nat) : Int) ∧ u = .int .i64 ((j : Nat) : Int) ∧ a < i ∧ i ≤ j + 1 ∧ j < b ∧ PR n g a b f pv W false false i j wx) (fun _ u _ => (intOf u).toNat)
            case atStart => exact ⟨i2, j1, rfl, rfl, l1, l2, l3, P2.out⟩
            case round =>
              clear P2
              obtain ⟨i3, j3, rfl, rfl, m1, m2, m3, hP⟩ := hrel
              have P3 := Lib.hid hP
              clear hP
              go_upto_block 6 with fail
              go_cut [10] from 99 to 114 (fun v wx => ∃ i, v = .int .i64 ((i : Nat) : Int) ∧ a < i ∧ i ≤ j3 + 1 ∧ PR n g a b f pv W true false i j3 wx)
              case first =>
                go_wp2_with fail
                go_loopw [10] (fun v wx => ∃ i, v = .int .i64 ((i : Nat) : Int) ∧ a < i ∧ i ≤ j3 + 1 ∧ PR n g a b f pv W false false i j3 wx) (fun v _ => j3 + 1 - (intOf v).toNat)
                case atStart => exact ⟨i3, rfl, m1, m2, P3.out⟩
                case round =>
                  obtain ⟨i, rfl, hi1, hi2, f', h1, h2, h3, h4, -, -, h7, h8⟩ := hrel
                  have z4 : (0 : Int) ≤ (i : Int) := by omega
                  by_cases hij : i ≤ j3
                  · have hin : i < n := by omega
                    have z5 : (i : Int) < (n : Int) := by omega
                    have dg : decide ((i : Int) ≤ (j3 : Int)) = true := decide_eq_true (by omega)
                    have dg2 : decide (i ≤ j3) = true := decide_eq_true (by omega)
                    have c0 : ∀ q, (wr.drewN q).cell? ⟨g, i, none⟩ = some (.int .u64 ((f' i : Nat) : Int)) := fun q => (h7.drewN q).at hin
                    have c1 : ∀ q, (wr.drewN q).cell? ⟨g, a, none⟩ = some (.int .u64 ((pv : Nat) : Int)) := fun q => by rw [← h2]; exact (h7.drewN q).at (by omega)
                    have d0 := c0 0
                    have d1 := c1 0
                    by_cases hl : f' i < pv
                    · have hb' : decide (((f' i : Nat) : Int) < ((pv : Nat) : Int)) = true := decide_eq_true (by omega)
                      have E := Lib.hid (fun q => part_up (w2 := wr.drewN q) h1 h2 h3 h4 (h7.drewN q) (h8.drewN q) hl)
                      have wk : IntKind.i64.wrap ((i : Int) + 1) = (i : Int) + 1 := wrapN (by omega)
                      clear h1 h2 h3 h4 h7 h8 hl
                      generalize f' i = y at *
                      go_wp2_with fail
                      go_quiet ((go_at_call 34; exact Calls.quiet_of_same (less_any _ _ _ hb' _)))
                      go_wp2_with fail
                      go_roundw
                      case rel => exact ⟨i + 1, by go_num, by omega, by omega, E.out _⟩
                      case measure => simp only [intOf]; omega
                    · have hb' : decide (((f' i : Nat) : Int) < ((pv : Nat) : Int)) = false := decide_eq_false (by omega)
                      have E := Lib.hid (fun q => show PR n g a b f pv W true false i j3 (wr.drewN q) from ⟨f', h1, h2, h3, h4, fun _ _ => (by omega), (fun h => by cases h), h7.drewN q, h8.drewN q⟩)
                      clear h1 h2 h3 h4 h7 h8 hl
                      generalize f' i = y at *
                      go_wp2_with fail
                      go_quiet ((go_at_call 34; exact Calls.quiet_of_same (less_any _ _ _ hb' _)))
                      go_wp2_with fail
                      go_meet
                      exact ⟨i, rfl, hi1, hi2, E.out _⟩
                  · have dg : decide ((i : Int) ≤ (j3 : Int)) = false := decide_eq_false (by omega)
                    have dg2 : decide (i ≤ j3) = false := decide_eq_false (by omega)
                    have E := Lib.hid (fun q => show PR n g a b f pv W true false i j3 (wr.drewN q) from ⟨f', h1, h2, h3, h4, fun _ h => absurd h hij, (fun h => by cases h), h7.drewN q, h8.drewN q⟩)
                    clear h1 h2 h3 h4 h7 h8 hij
                    go_wp2_with fail
                    go_quiet (fail)
                    go_wp2_with fail
                    go_meet
                    exact ⟨i, rfl, hi1, hi2, E.out _⟩
              case rest =>
                obtain ⟨i, rfl, hi1, hi2, hP⟩ := hcut
                have P4 := Lib.hid hP
                clear hP P3
                go_upto_block 8 with fail
                go_cut [11] from 115 to 131 (fun v wx => ∃ j, v = .int .i64 ((j : Nat) : Int) ∧ i ≤ j + 1 ∧ j < b ∧ j ≤ j3 ∧ PR n g a b f pv W true true i j wx)
                case first =>
                  go_wp2_with fail
                  go_loopw [11] (fun v wx => ∃ j, v = .int .i64 ((j : Nat) : Int) ∧ i ≤ j + 1 ∧ j < b ∧ j ≤ j3 ∧ PR n g a b f pv W true false i j wx) (fun v _ => (intOf v).toNat)
                  case atStart => exact ⟨j3, rfl, hi2, m3, Nat.le_refl _, P4.out⟩
                  case round =>
                    obtain ⟨j, rfl, hj1, hj2, hj3, f', h1, h2, h3, h4, h5, -, h7, h8⟩ := hrel
                    have z4 : (0 : Int) ≤ (j : Int) := by omega
                    by_cases hij : i ≤ j
                    · have hjn : j < n := by omega
                      have z5 : (j : Int) < (n : Int) := by omega
                      have dg : decide ((i : Int) ≤ (j : Int)) = true := decide_eq_true (by omega)
                      have dg2 : decide (i ≤ j) = true := decide_eq_true (by omega)
                      have c0 : ∀ q, (wr.drewN q).cell? ⟨g, j, none⟩ = some (.int .u64 ((f' j : Nat) : Int)) := fun q => (h7.drewN q).at hjn
                      have c1 : ∀ q, (wr.drewN q).cell? ⟨g, a, none⟩ = some (.int .u64 ((pv : Nat) : Int)) := fun q => by rw [← h2]; exact (h7.drewN q).at (by omega)
                      have d0 := c0 0
                      have d1 := c1 0
                      by_cases hl : f' j < pv
                      · have hb' : decide (((f' j : Nat) : Int) < ((pv : Nat) : Int)) = true := decide_eq_true (by omega)
                        have E := Lib.hid (fun q => show PR n g a b f pv W true true i j (wr.drewN q) from ⟨f', h1, h2, h3, h4, h5, fun _ _ => hl, h7.drewN q, h8.drewN q⟩)
                        clear h1 h2 h3 h4 h5 h7 h8 hl
                        generalize f' j = y at *
                        go_wp2_with fail
                        go_quiet ((go_at_call 34; exact Calls.quiet_of_same (less_any _ _ _ hb' _)))
                        go_wp2_with fail
                        go_meet
                        exact ⟨j, rfl, hj1, hj2, hj3, E.out _⟩
                      · have hb' : decide (((f' j : Nat) : Int) < ((pv : Nat) : Int)) = false := decide_eq_false (by omega)
                        obtain ⟨j1, ej⟩ : ∃ x, j = x + 1 := ⟨j - 1, by omega⟩
                        have E := Lib.hid (fun q => part_down (w2 := wr.drewN q) ej h1 h2 h3 h4 (h5 rfl) (h7.drewN q) (h8.drewN q) (by omega))
                        have EJ := Lib.hid ej
                        have wk : IntKind.i64.wrap ((j : Int) - 1) = (j1 : Int) := by rw [wrapN (by omega)]; omega
                        clear h1 h2 h3 h4 h5 h7 h8 hl ej
                        generalize f' j = y at *
                        go_wp2_with fail
                        go_quiet ((go_at_call 34; exact Calls.quiet_of_same (less_any _ _ _ hb' _)))
                        go_wp2_with fail
                        go_roundw
                        case rel => exact ⟨j1, by go_num, by have := EJ.out; omega, by have := EJ.out; omega, by have := EJ.out; omega, E.out _⟩
                        case measure => simp only [intOf]; have := EJ.out; omega
                    · have dg : decide ((i : Int) ≤ (j : Int)) = false := decide_eq_false (by omega)
                      have dg2 : decide (i ≤ j) = false := decide_eq_false (by omega)
                      have E := Lib.hid (fun q => show PR n g a b f pv W true true i j (wr.drewN q) from ⟨f', h1, h2, h3, h4, h5, fun _ h => absurd h hij, h7.drewN q, h8.drewN q⟩)
                      clear h1 h2 h3 h4 h5 h7 h8 hij
                      go_wp2_with fail
                      go_quiet (fail)
                      go_wp2_with fail
                      go_meet
                      exact ⟨j, rfl, hj1, hj2, hj3, E.out _⟩
                case rest =>
                  obtain ⟨j, rfl, hj1, hj2, hj3, f', h1, h2, h3, h4, h5, h6, h7, h8⟩ := hcut
                  clear P4
                  by_cases hij : i ≤ j
                  · obtain ⟨j1, ej⟩ : ∃ x, j = x + 1 := ⟨j - 1, by omega⟩
                    have dg : decide ((i : Int) > (j : Int)) = false := decide_eq_false (by omega)
                    have dg2 : decide (j < i) = false := decide_eq_false (by omega)
                    have z4 : (0 : Int) ≤ (j : Int) := by omega
                    have z5 : (j : Int) < (n : Int) := by omega
                    have z6 : (0 : Int) ≤ (i : Int) := by omega
                    have z7 : (i : Int) < (n : Int) := by omega
                    obtain ⟨e0, e1, e2, ⟨u, e3⟩, e4⟩ := swap_facts h7 (x := i) (y := j) (by omega) (by omega)
                    have E := Lib.hid (fun w2 h => part_swap (w2 := w2) ej hi1 hij hj2 h1 h2 h3 h4 (h5 rfl hij) (h6 rfl hij) h7 h8 h)
                    have EJ := Lib.hid ej
                    have hlt : i < j := by
                      rcases Nat.lt_or_ge i j with h | h
                      · exact h
                      · obtain rfl : i = j := by omega
                        have := h5 rfl hij
                        have := h6 rfl hij
                        omega
                    have wi2 : IntKind.i64.wrap ((i : Int) + 1) = (i : Int) + 1 := wrapN (by omega)
                    have wj2 : IntKind.i64.wrap ((j : Int) - 1) = (j1 : Int) := by rw [wrapN (by omega)]; omega
                    clear h1 h2 h3 h4 h5 h6 h7 h8 ej
                    generalize f' i = x at *
                    generalize f' j = y at *
                    go_upto_region 18 with fail
                    go_region
                    go_wp2_with fail
                    go_roundw
                    case rel => exact ⟨i + 1, j1, by go_num, by go_num, by omega, by have := EJ.out; omega, by have := EJ.out; omega, And.right (E.out _ ⟨rfl, rfl, rfl, rfl⟩)⟩
                    case measure => simp only [intOf]; have := EJ.out; omega
                  · have hij' : i = j + 1 := by omega
                    have dg : decide ((i : Int) > (j : Int)) = true := decide_eq_true (by omega)
                    have dg2 : decide (j < i) = true := decide_eq_true (by omega)
                    have z4 : (0 : Int) ≤ (j : Int) := by omega
                    have z5 : (j : Int) < (n : Int) := by omega
                    obtain ⟨e0, e1, e2, ⟨u, e3⟩, e4⟩ := swap_facts h7 (x := j) (y := a) (by omega) (by omega)
                    have E := Lib.hid (fun w2 h => part_end (w2 := w2) false hi1 hij' hj2 h1 h2 h3 h4 h7 h8 h)
                    rw [h2] at e1 e3 e4 E
                    clear h1 h2 h3 h4 h5 h6 h7 h8 hij'
                    generalize f' j = y at *
                    go_wp2_with fail
                    go_region
                    all_goals go_wp2_with fail
                    all_goals go_ret2
                    all_goals exact E.out _ ⟨rfl, rfl, rfl, rfl⟩
        · have hij' : i = j + 1 := by omega
          have dg : decide ((i : Int) > (j : Int)) = true := decide_eq_true (by omega)
          have dg2 : decide (j < i) = true := decide_eq_true (by omega)
          have z4 : (0 : Int) ≤ (j : Int) := by omega
          have z5 : (j : Int) < (n : Int) := by omega
          obtain ⟨e0, e1, e2, ⟨u, e3⟩, e4⟩ := swap_facts h7 (x := j) (y := a) (by omega) (by omega)
          have E := Lib.hid (fun w2 h => part_end (w2 := w2) true hi1 hij' hj2 h1 h2 h3 h4 h7 h8 h)
          rw [h2] at e1 e3 e4 E
          clear h1 h2 h3 h4 h5 h6 h7 h8 hij'
          generalize f' j = y at *
          go_wp2_with fail
          go_region
          all_goals go_wp2_with fail
          all_goals go_ret2
          all_goals exact E.out _ ⟨rfl, rfl, rfl, rfl⟩

end Go.Proofs.Ythipdinpbihhmaa
