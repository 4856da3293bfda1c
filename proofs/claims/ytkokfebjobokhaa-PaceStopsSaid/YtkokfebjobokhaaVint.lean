/-
  Alike lists.
-/
import Derived.Test.YtkokfebjobokhaaVlan
import Derived.Deep.QuietTactic
import Derived.BigQuiet
namespace Go.Proofs.Ytkokfebjobokhaa
open Go.RowKit

theorem take_more {xs ys : List Int} {k : Nat} (h : xs.take k = ys.take k) (hx : k < xs.length) (hy : k < ys.length) (e : xs[k] = ys[k]) : xs.take (k + 1) = ys.take (k + 1) := by
  rw [List.take_succ_eq_append_getElem hx, List.take_succ_eq_append_getElem hy, h, e]
theorem take_less {xs ys : List Int} {k : Nat} (hx : k < xs.length) (hy : k < ys.length) (e : ¬ xs[k] = ys[k]) : ¬ xs = ys := by
  rintro rfl
  exact e rfl

set_option maxRecDepth 20000 in
set_option maxHeartbeats 2000000 in
theorem ints_any (xs ys : List Int) (ao bo : Option Addr) (ca cb : Nat) (W : World) (ha : SlV W ao ca (xs.map iV)) (hb : SlV W bo cb (ys.map iV)) :
    Calls Try.prog 19 #[.slice ao xs.length ca, .slice bo ys.length cb] W fun e w' => e = .returned (.bool (decide (xs = ys))) ∧ ∃ q, w' = W.drewN q := by
  have hfa := ha.fit
  have hma := ha.max
  have hfb := hb.fit
  have hmb := hb.max
  unfold maxLen at hma hmb
  rw [List.length_map] at hfa hfb
  have A := Lib.hid ha
  have B := Lib.hid hb
  clear ha hb
  go_enter Try.func19, Try.ntmps19
  by_cases hl : xs.length = ys.length
  · go_wp2_with fail
    go_loopw [5] (fun i wr => ∃ (k q : Nat), k ≤ xs.length ∧ i = .int .i64 (k : Nat) ∧ wr = W.drewN q ∧ Hid (xs.take k = ys.take k)) (fun i _ => xs.length - (intOf i).toNat)
    case atStart => exact ⟨0, 0, Nat.zero_le _, rfl, rfl, rfl⟩
    case round =>
      obtain ⟨k, q, hk, rfl, rfl, hc⟩ := hrel
      by_cases hlt : k < xs.length
      · obtain ⟨b, off, rfl, hbW, hcx⟩ := A.out.at k hlt
        obtain ⟨b2, off2, rfl, hbW2, hcy⟩ := B.out.at k (by omega)
        have k1 : (W.drewN q).cell? ⟨b, off + k, none⟩ = some (.int .i64 xs[k]) := hcx
        have k2 : (W.drewN q).cell? ⟨b2, off2 + k, none⟩ = some (.int .i64 ys[k]) := hcy
        clear hcx hcy
        have hQ := Lib.hid (fun n => (show ∃ q', (W.drewN q).drewN n = W.drewN q' from ⟨q + n, by rw [World.drewN_drewN]⟩))
        have H1 := Lib.hid (fun (h : xs[k] = ys[k]) => take_more hc.out hlt (by omega) h)
        have H2 := Lib.hid (fun (h : ¬ xs[k] = ys[k]) => take_less hlt (by omega) h)
        generalize xs[k] = x at *
        generalize ys[k] = y at *
        generalize W.drewN q = ww at *
        have ib : (k : Int) < (xs.length : Int) := by omega
        have ib2 : (k : Int) < (ys.length : Int) := by omega
        cases d : (x != y)
        · have R := Lib.hid (H1.out (by simpa using d))
          go_wp2_with fail
          go_quiet (fail)
          go_wp2_with fail
          go_roundw
          case rel => exact (hQ.out _).elim fun q' e => ⟨k + 1, q', by omega, by go_num, e, R⟩
          case measure => simp only [intOf]; omega
        · have R := Lib.hid (H2.out (by simpa using d))
          go_wp2_with fail
          go_quiet (fail)
          go_wp2_with fail
          go_ret
          exact ⟨by rw [decide_eq_false R.out]; rfl, hQ.out _⟩
      · have R := Lib.hid (show xs = ys by have h := hc.out; rwa [List.take_of_length_le (by omega), List.take_of_length_le (by omega)] at h)
        go_wp2_with fail
        go_ret
        exact ⟨by rw [decide_eq_true R.out]; rfl, _, rfl⟩
  · have R := Lib.hid (show ¬ xs = ys by rintro rfl; exact hl rfl)
    go_wp2_with fail
    go_ret
    exact ⟨by rw [decide_eq_false R.out]; rfl, 0, rfl⟩

theorem ints_is {xs ys : List Int} {n m : Nat} {r : Bool} {ao bo : Option Addr} {ca cb : Nat} {W : World} (ha : SlV W ao ca (xs.map iV)) (hb : SlV W bo cb (ys.map iV)) (hn : xs.length = n) (hm : ys.length = m) (hr : decide (xs = ys) = r) :
    Calls Try.prog 19 #[.slice ao n ca, .slice bo m cb] W fun e w' => e = .returned (.bool r) ∧ ∃ q, w' = W.drewN q := by
  subst hn hm hr
  exact ints_any xs ys ao bo ca cb W ha hb
theorem drewN_below {N : Nat} {w w' : World} (h : Below N w w') (q : Nat) : Below N w (w'.drewN q) := ⟨h.os, h.tape, h.output, h.size, h.block⟩
theorem SlV.drewN {w : World} {a : Option Addr} {cap : Nat} {vs : List Value} (h : SlV w a cap vs) (q : Nat) : SlV (w.drewN q) a cap vs :=
  ⟨h.fit, h.max, h.nil, fun i hi => h.cell i hi⟩

end Go.Proofs.Ytkokfebjobokhaa
