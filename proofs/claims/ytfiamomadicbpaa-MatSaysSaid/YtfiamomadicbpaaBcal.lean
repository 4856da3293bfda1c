/-
  Counts read; whether one row is at most another; rows compared; alike.
-/
import Derived.Test.YtfiamomadicbpaaBmem
import Derived.Deep.QuietTactic
import Derived.BigQuiet
namespace Go.Proofs.Ytfiamomadicbpaa
open Go.RowKit



set_option maxRecDepth 20000 in
set_option maxHeartbeats 2000000 in
theorem vat_any {W : World} {a : Option Addr} {cap n : Nat} {xs : List Nat} {z : Int} (h : SlAt qV QM W a cap xs) (hn : xs.length = n) {v : Nat} (hv : atZ xs z = v) :
    Calls Try.prog 36 #[.slice a n cap, .int .i64 z] W fun e w' => e = .returned (.int .u64 (v : Int)) ∧ W = w' := by
  subst hn hv
  have hfit := h.fit
  have hmax := h.max
  unfold maxLen at hmax
  have S := Lib.hid h
  clear h
  by_cases h0 : z < 0
  · have d0 : decide (z < 0) = true := decide_eq_true h0
    rw [atZ_neg h0]
    clear h0
    go_enter Try.func36, Try.ntmps36
    go_wp2_with fail
    go_ret
    exact ⟨rfl, rfl⟩
  · obtain ⟨i, rfl⟩ : ∃ i : Nat, z = i := ⟨z.toNat, by omega⟩
    have d0 : decide ((i : Int) < 0) = false := decide_eq_false h0
    rw [atZ_nat]
    by_cases h1 : i < xs.length
    · obtain ⟨b, off, rfl, hb, hc⟩ := S.out.at h1
      have d1 : decide ((i : Int) ≥ (xs.length : Int)) = false := decide_eq_false (by omega)
      have i0 : (0 : Int) ≤ (i : Int) := by omega
      have i1 : (i : Int) < (xs.length : Int) := by omega
      have hc' : W.cell? ⟨b, off + i, none⟩ = some (.int .u64 ((atN xs i : Nat) : Int)) := hc
      clear hc
      generalize atN xs i = v at *
      go_enter Try.func36, Try.ntmps36
      go_wp2_with fail
      go_ret
      exact ⟨rfl, rfl⟩
    · have d1 : decide ((i : Int) ≥ (xs.length : Int)) = true := decide_eq_true (by omega)
      rw [atN_out (by omega)]
      go_enter Try.func36, Try.ntmps36
      go_wp2_with fail
      go_ret
      exact ⟨rfl, rfl⟩

set_option maxRecDepth 20000 in
set_option maxHeartbeats 2000000 in
theorem vwithin_any {W : World} {a1 a2 : Option Addr} {c1 c2 n m : Nat} {xs ys : List Nat} (h1 : SlAt qV QM W a1 c1 xs) (h2 : SlAt qV QM W a2 c2 ys) (hn : xs.length = n) (hm : ys.length = m) {r : Bool} (hr : wiB xs ys = r) :
    Calls Try.prog 43 #[.slice a1 n c1, .slice a2 m c2] W fun e w' => e = .returned (.bool r) ∧ W = w' := by
  have hfit := h1.fit
  have hmax := h1.max
  unfold maxLen at hmax
  have A := Lib.hid h1
  have B := Lib.hid h2
  have HN := Lib.hid hn
  have HM := Lib.hid hm
  have HR := Lib.hid hr
  clear h1 h2 hm hr
  subst hn
  go_enter Try.func43, Try.ntmps43
  go_wp2_with fail
  go_loop [9] (fun v => ∃ k : Nat, k ≤ xs.length ∧ v = .int .i64 (k : Nat) ∧ Hid (∀ j, j < k → atN xs j ≤ atN ys j)) (fun v => xs.length - (intOf v).toNat)
  case atStart => exact ⟨0, Nat.zero_le _, rfl, Lib.hid fun j hj => by omega⟩
  case round =>
    obtain ⟨k, hk, rfl, hT⟩ := hrel
    by_cases hlt : k < xs.length
    · obtain ⟨b, off, rfl, hb, hc⟩ := A.out.at hlt
      have hc' : W.cell? ⟨b, off + k, none⟩ = some (.int .u64 ((atN xs k : Nat) : Int)) := hc
      clear hc
      have CA := Lib.hid (vat_any (z := (k : Int)) B.out HM.out (atZ_nat ys k))
      have i0 : (0 : Int) ≤ (k : Int) := by omega
      have i1 : (k : Int) < (xs.length : Int) := by omega
      
      have hle := Lib.hid (fun (h : atN xs k ≤ atN ys k) => show ∀ j, j < k + 1 → atN xs j ≤ atN ys j from fun j hj => by
        by_cases e : j = k
        · subst e; exact h
        · exact hT.out j (by omega))
      have hgt := Lib.hid (fun (h : atN ys k < atN xs k) => show r = false from by rw [← HR.out]; exact wiB_no h)
      generalize atN xs k = x at *
      generalize atN ys k = y at *
      by_cases hxy : y < x
      · have d : decide ((x : Int) > (y : Int)) = true := decide_eq_true (by omega)
        have d' : decide (y < x) = true := decide_eq_true hxy
        have R := Lib.hid (hgt.out hxy)
        clear hxy
        go_wp2_with (go_at_call 36; refine CA.out.mono ?_; rintro e w' ⟨rfl, rfl⟩)
        go_ret
        exact ⟨by rw [R.out]; rfl, rfl⟩
      · have d : decide ((x : Int) > (y : Int)) = false := decide_eq_false (by omega)
        have d' : decide (y < x) = false := decide_eq_false hxy
        have R := Lib.hid (hle.out (by omega))
        clear hxy
        go_wp2_with (go_at_call 36; refine CA.out.mono ?_; rintro e w' ⟨rfl, rfl⟩)
        go_round
        case rel => exact ⟨k + 1, by omega, by go_num, R⟩
        case measure => simp only [intOf]; omega
    · have R := Lib.hid (show r = true from by
        rw [← HR.out]
        refine wiB_iff.2 fun i => ?_
        by_cases hi : i < xs.length
        · exact hT.out i (by omega)
        · rw [atN_out (by omega)]; exact Nat.zero_le _)
      go_wp2_with fail
      go_ret
      exact ⟨by rw [R.out]; rfl, rfl⟩

set_option maxRecDepth 20000 in
set_option maxHeartbeats 2000000 in
theorem vcmp_any {W : World} {a1 a2 : Option Addr} {c1 c2 n m : Nat} {xs ys : List Nat} (h1 : SlAt qV QM W a1 c1 xs) (h2 : SlAt qV QM W a2 c2 ys) (hn : xs.length = n) (hm : ys.length = m) {z : Int} (hz : cmpZ xs ys = z) :
    Calls Try.prog 26 #[.slice a1 n c1, .slice a2 m c2] W fun e w' => e = .returned (.int .i64 z) ∧ W = w' := by
  have C1 := Lib.hid (vwithin_any h1 h2 hn hm rfl)
  have C2 := Lib.hid (vwithin_any h2 h1 hm hn rfl)
  have HZ := Lib.hid (show z = if wiB xs ys then if wiB ys xs then 0 else -1 else if wiB ys xs then 1 else 2 from by rw [← hz]; exact cmpZ_of rfl rfl)
  clear h1 h2 hn hm hz
  generalize wiB xs ys = p at *
  generalize wiB ys xs = q at *
  go_enter Try.func26, Try.ntmps26
  go_wp2_with fail
  refine C1.out.mono ?_
  rintro e w' ⟨rfl, rfl⟩
  go_wp2_with fail
  refine C2.out.mono ?_
  rintro e w' ⟨rfl, rfl⟩
  clear C1 C2
  cases p <;> cases q
  all_goals go_wp2_with fail
  all_goals go_ret
  all_goals exact ⟨by rw [HZ.out]; rfl, rfl⟩

theorem rows_same {xs ys : List Nat} {k : Nat} (h : xs.take k = ys.take k) (hx : k < xs.length) (hy : k < ys.length) (e : atN xs k = atN ys k) : xs.take (k + 1) = ys.take (k + 1) := by
  rw [atN_of hx, atN_of hy] at e
  rw [List.take_succ_eq_append_getElem hx, List.take_succ_eq_append_getElem hy, h, e]

set_option maxRecDepth 20000 in
set_option maxHeartbeats 2000000 in
theorem longs_any {W : World} {a1 a2 : Option Addr} {c1 c2 n m : Nat} {xs ys : List Nat} (h1 : SlAt qV QM W a1 c1 xs) (h2 : SlAt qV QM W a2 c2 ys) (hn : xs.length = n) (hm : ys.length = m) {r : Bool} (hr : decide (xs = ys) = r) :
    Calls Try.prog 14 #[.slice a1 n c1, .slice a2 m c2] W fun e w' => e = .returned (.bool r) ∧ ∃ q, w' = W.drewN q := by
  have hfa := h1.fit
  have hma := h1.max
  have hfb := h2.fit
  have hmb := h2.max
  unfold maxLen at hma hmb
  have A := Lib.hid h1
  have B := Lib.hid h2
  clear h1 h2
  subst hn hm hr
  go_enter Try.func14, Try.ntmps14
  by_cases hl : xs.length = ys.length
  · go_wp2_with fail
    go_loopw [5] (fun i wr => ∃ (k q : Nat), k ≤ xs.length ∧ i = .int .i64 (k : Nat) ∧ wr = W.drewN q ∧ Hid (xs.take k = ys.take k)) (fun i _ => xs.length - (intOf i).toNat)
    case atStart => exact ⟨0, 0, Nat.zero_le _, rfl, rfl, rfl⟩
    case round =>
      obtain ⟨k, q, hk, rfl, rfl, hc⟩ := hrel
      by_cases hlt : k < xs.length
      · obtain ⟨b, off, rfl, hbW, hcx⟩ := A.out.at hlt
        obtain ⟨b2, off2, rfl, hbW2, hcy⟩ := B.out.at (show k < ys.length by omega)
        have k1 : (W.drewN q).cell? ⟨b, off + k, none⟩ = some (.int .u64 ((atN xs k : Nat) : Int)) := hcx
        have k2 : (W.drewN q).cell? ⟨b2, off2 + k, none⟩ = some (.int .u64 ((atN ys k : Nat) : Int)) := hcy
        clear hcx hcy
        have hQ := Lib.hid (fun n => (show ∃ q', (W.drewN q).drewN n = W.drewN q' from ⟨q + n, by rw [World.drewN_drewN]⟩))
        have H1 := Lib.hid (fun (h : atN xs k = atN ys k) => rows_same hc.out hlt (by omega) h)
        have H2 := Lib.hid (fun (h : ¬ atN xs k = atN ys k) => show ¬ xs = ys from fun e => h (by rw [e]))
        generalize atN xs k = x at *
        generalize atN ys k = y at *
        generalize W.drewN q = ww at *
        have ib : (k : Int) < (xs.length : Int) := by omega
        have ib2 : (k : Int) < (ys.length : Int) := by omega
        cases d : (x != y)
        · have R := Lib.hid (H1.out (by simpa using d))
          go_wp2_with fail
          go_quiet (fail)
          go_wp2_with fail
          go_roundw
          case rel => exact (hQ.out _).elim fun q' e => ⟨k + 1, q', by omega, by go_num, e, R⟩
          case measure => simp only [intOf]; omega
        · have R := Lib.hid (H2.out (by simpa using d))
          go_wp2_with fail
          go_quiet (fail)
          go_wp2_with fail
          go_ret
          exact ⟨by rw [decide_eq_false R.out]; rfl, hQ.out _⟩
      · have R := Lib.hid (show xs = ys by have h := hc.out; rwa [List.take_of_length_le (by omega), List.take_of_length_le (by omega)] at h)
        go_wp2_with fail
        go_ret
        exact ⟨by rw [decide_eq_true R.out]; rfl, _, rfl⟩
  · have R := Lib.hid (show ¬ xs = ys by rintro rfl; exact hl rfl)
    go_wp2_with fail
    go_ret
    exact ⟨by rw [decide_eq_false R.out]; rfl, 0, rfl⟩

end Go.Proofs.Ytfiamomadicbpaa
