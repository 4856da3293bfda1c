/-
  Is it in order already? (A row of less than fifty: nothing is turned.)
-/
import Derived.Test.YthipdinpbihhmaaNins
namespace Go.Proofs.Ythipdinpbihhmaa
open Go.RowKit

def PinsPost (a b : Nat) (f : Nat → Nat) (W : World) (e : Ending) (w : World) : Prop := ∃ r, e = .returned (.bool r) ∧ (r = true → Srt a b f) ∧ ∃ q, w = W.drewN q

theorem srt_more {a k : Nat} {f : Nat → Nat} (h : Srt a k f) (m1 : Nat) (e : k = m1 + 1) (hl : f m1 < f k) : Srt a (k + 1) f := by
  intro i j h1 h2 h3
  by_cases hj : j = k
  · subst hj
    by_cases hi : i = m1
    · subst hi; exact hl
    · exact Nat.lt_trans (h i m1 h1 (by omega) (by omega)) hl
  · exact h i j h1 h2 (by omega)

set_option maxHeartbeats 2000000 in
theorem pins_any {n g a b cap : Nat} {f : Nat → Nat} {W : World} (hr : Row n W g f) (hf : Inj n f) (hab : a < b) (hb : b ≤ n) (hn : n ≤ 1000) (h50 : b < a + 50) :
    Calls Try.prog 33 #[.slice (some ⟨g, 0, none⟩) n cap, .int .i64 (a : Nat), .int .i64 (b : Nat)] W (PinsPost a b f W) := by
  have R := Lib.hid hr
  have I := Lib.hid hf
  clear hr hf
  obtain ⟨a1, ha1⟩ : ∃ x, x = a + 1 := ⟨_, rfl⟩
  have wa : IntKind.i64.wrap ((a : Int) + 1) = (a1 : Int) := by rw [wrapN (by omega)]; omega
  obtain ⟨l, hl⟩ : ∃ l, l = b - a := ⟨_, rfl⟩
  have wl : IntKind.i64.wrap ((b : Int) - (a : Int)) = (l : Int) := by rw [wrapN (by omega)]; omega
  have d50 : decide ((l : Int) < 50) = true := decide_eq_true (by omega)
  have HA := Lib.hid ha1
  clear ha1 hl
  go_enter Try.func33, Try.ntmps33
  go_wp2_with fail
  go_loopw [7, 8] (fun v u wr => v = .int .i64 (a1 : Nat) ∧ u = .int .i64 0 ∧ wr = W) (fun _ _ _ => 0)
  case atStart => exact ⟨rfl, rfl, rfl⟩
  case round =>
    obtain ⟨rfl, rfl, rfl⟩ := hrel
    go_wp2_with fail
    go_loopw [7] (fun v w2 => ∃ (k q : Nat), v = .int .i64 (k : Nat) ∧ a < k ∧ k ≤ b ∧ w2 = wr.drewN q ∧ Hid (Srt a k f)) (fun v _ => b - (intOf v).toNat)
    case atStart => exact ⟨a1, 0, rfl, by have := HA.out; omega, by have := HA.out; omega, rfl, Lib.hid (fun i j h1 h2 h3 => (by have := HA.out; omega))⟩
    case round =>
      obtain ⟨k, q, rfl, hk1, hk2, rfl, HS⟩ := hrel
      by_cases hlt : k < b
      · obtain ⟨m1, em⟩ : ∃ x, k = x + 1 := ⟨k - 1, by omega⟩
        have EM := Lib.hid em
        have wm : IntKind.i64.wrap ((k : Int) - 1) = (m1 : Int) := by rw [wrapN (by omega)]; omega
        have dg : decide ((k : Int) < (b : Int)) = true := decide_eq_true (by omega)
        have x0 : (0 : Int) ≤ (k : Int) := by omega
        have x1 : (0 : Int) ≤ (m1 : Int) := by omega
        have y0 : (k : Int) < (n : Int) := by omega
        have y1 : (m1 : Int) < (n : Int) := by omega
        have c0 : (wr.drewN q).cell? ⟨g, k, none⟩ = some (.int .u64 ((f k : Nat) : Int)) := (R.out.drewN q).at (by omega)
        have c1 : (wr.drewN q).cell? ⟨g, m1, none⟩ = some (.int .u64 ((f m1 : Nat) : Int)) := (R.out.drewN q).at (by omega)
        have hQ := Lib.hid (fun m => (show ∃ q', (wr.drewN q).drewN m = wr.drewN q' from ⟨q + m, by rw [World.drewN_drewN]⟩))
        by_cases hl : f k < f m1
        · have hb' : decide (((f k : Nat) : Int) < ((f m1 : Nat) : Int)) = true := decide_eq_true (by omega)
          have eb : ((k : Int) == (b : Int)) = false := by simp; omega
          have E := Lib.hid (fun w2 (h : ∃ q', w2 = wr.drewN q') => show PinsPost a b f wr (.returned (.bool false)) w2 from ⟨false, rfl, (fun h => by cases h), h⟩)
          clear em
          generalize f k = u at *
          generalize f m1 = v at *
          generalize wr.drewN q = ww at *
          go_wp2_with fail
          go_quiet ((go_at_call 34; exact Calls.quiet_of_same (less_any _ _ _ hb' _)))
          go_wp2_with fail
          go_ret
          exact E.out _ (hQ.out _)
        · have hb' : decide (((f k : Nat) : Int) < ((f m1 : Nat) : Int)) = false := decide_eq_false (by omega)
          have hne : f m1 < f k := by
            rcases Nat.lt_or_ge (f m1) (f k) with h | h
            · exact h
            · have := I.out k m1 (by omega) (by omega) (by omega)
              omega
          have E := Lib.hid (srt_more HS.out m1 em hne)
          have wk : IntKind.i64.wrap ((k : Int) + 1) = (k : Int) + 1 := wrapN (by omega)
          clear em hne hl
          generalize f k = u at *
          generalize f m1 = v at *
          generalize wr.drewN q = ww at *
          go_wp2_with fail
          go_quiet ((go_at_call 34; exact Calls.quiet_of_same (less_any _ _ _ hb' _)))
          go_wp2_with fail
          go_roundw
          case rel => exact (hQ.out _).elim fun q' e => ⟨k + 1, q', by go_num, by omega, by omega, e, E⟩
          case measure => simp only [intOf]; omega
      · obtain rfl : k = b := by omega
        have dg : decide ((k : Int) < (k : Int)) = false := decide_eq_false (by omega)
        have E := Lib.hid (fun w2 (h : ∃ q', w2 = wr.drewN q') => show PinsPost a k f wr (.returned (.bool true)) w2 from ⟨true, rfl, (fun _ => HS.out), h⟩)
        have hQ := Lib.hid (fun m => (show ∃ q', (wr.drewN q).drewN m = wr.drewN q' from ⟨q + m, by rw [World.drewN_drewN]⟩))
        generalize wr.drewN q = ww at *
        go_wp2_with fail
        go_quiet (fail)
        go_wp2_with fail
        go_ret
        exact E.out _ (hQ.out _)

end Go.Proofs.Ythipdinpbihhmaa
