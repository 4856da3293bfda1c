/-
  A box takes as many as it has rooms.
-/
import Derived.Test.YtedfiejocajpkaaYaw
namespace Go.Proofs.Ytedfiejocajpkaa
open Go.RowKit

/-- i were put into box 1. -/
def fullB (R : Nat) (l : List Int) (i : Nat) : Nat → List Int := upd (fun _ => []) 1 (l.take (min i R))
theorem fullB_one (R : Nat) (l : List Int) (i : Nat) : fullB R l i 1 = l.take (min i R) := upd_at _ _ _
theorem full_len {R i : Nat} {l : List Int} (h : i < l.length) : (fullB R l i 1).length = min i R := by
  rw [fullB_one, List.length_take]
  omega
theorem full_can {R i : Nat} {l : List Int} (h : i < l.length) (hR : i < R) : canB 2 R (fullB R l i) 1 = true := by
  unfold canB
  rw [show (1 : Int) = ((1 : Nat) : Int) from rfl, hasZ_lt (by decide), Int.toNat_natCast, full_len h, decide_eq_true (by omega)]
  rfl
theorem full_cannot {R i : Nat} {l : List Int} (h : i < l.length) (hR : ¬ i < R) : canB 2 R (fullB R l i) 1 = false := by
  unfold canB
  rw [show (1 : Int) = ((1 : Nat) : Int) from rfl, hasZ_lt (by decide), Int.toNat_natCast, full_len h, decide_eq_false (by omega)]
  rfl
theorem full_put {R i : Nat} {l : List Int} (h : i < l.length) (hR : i < R) : putB 2 R (fullB R l i) 1 l[i] = fullB R l (i + 1) := by
  rw [show (1 : Int) = ((1 : Nat) : Int) from rfl, putB_ok (by decide) (by rw [full_len h]; omega), fullB_one]
  unfold fullB
  rw [show min i R = i by omega, show min (i + 1) R = i + 1 by omega, List.take_succ_eq_append_getElem h]
  funext j
  by_cases e : j = 1
  · subst e
    rw [upd_at, upd_at]
  · rw [upd_ne e, upd_ne e, upd_ne e]
theorem full_stay {R i : Nat} {l : List Int} (h : i < l.length) (hR : ¬ i < R) : putB 2 R (fullB R l i) 1 l[i] = fullB R l (i + 1) := by
  rw [putB_no (full_cannot h hR)]
  unfold fullB
  rw [show min i R = R by omega, show min (i + 1) R = R by omega]
theorem full_end {R : Nat} {l : List Int} (h : l.length ≤ R) : fullB R l l.length = upd (fun _ => []) 1 l := by
  unfold fullB
  rw [show min l.length R = l.length by omega, List.take_length]
theorem full_over {r : Nat} {x : Int} {t : List Int} (h : r ≤ t.length) : fullB (r + 1) (x :: t) (x :: t).length = upd (fun _ => []) 1 (x :: t.take r) := by
  unfold fullB
  rw [show min (x :: t).length (r + 1) = r + 1 by rw [List.length_cons]; omega, List.take_succ_cons]
theorem upd_upd {β : Type} (B : Nat → β) (k : Nat) (x y : β) : upd (upd B k x) k y = upd B k y := by
  funext j
  by_cases e : j = k
  · subst e
    rw [upd_at, upd_at]
  · rw [upd_ne e, upd_ne e, upd_ne e]

theorem full_pop {x : Int} {t : List Int} {r : Nat} : popB 2 (upd (fun _ => []) 1 (x :: t.take r)) 1 = upd (fun _ => []) 1 (t.take r) := by
  rw [show (1 : Int) = ((1 : Nat) : Int) from rfl, popB_cons (by decide) (upd_at _ _ _), upd_upd]
theorem full_can2 {t : List Int} {r : Nat} : canB 2 (r + 1) (upd (fun _ => []) 1 (t.take r)) 1 = true := by
  unfold canB
  rw [show (1 : Int) = ((1 : Nat) : Int) from rfl, hasZ_lt (by decide), Int.toNat_natCast, upd_at, decide_eq_true (by rw [List.length_take]; omega)]
  rfl
theorem full_put2 {t : List Int} {r : Nat} (y : Int) : putB 2 (r + 1) (upd (fun _ => []) 1 (t.take r)) 1 y = upd (fun _ => []) 1 (t.take r ++ [y]) := by
  rw [show (1 : Int) = ((1 : Nat) : Int) from rfl, putB_ok (by decide) (by rw [upd_at, List.length_take]; omega), upd_at, upd_upd]
theorem full_can3 {t : List Int} {r : Nat} (h : r ≤ t.length) (y : Int) : canB 2 (r + 1) (upd (fun _ => []) 1 (t.take r ++ [y])) 1 = false := by
  unfold canB
  rw [show (1 : Int) = ((1 : Nat) : Int) from rfl, hasZ_lt (by decide), Int.toNat_natCast, upd_at, decide_eq_false (by rw [List.length_append, List.length_take, List.length_singleton]; omega)]
  rfl

def FullRel (W : World) (N p R : Nat) (l : List Int) (i : Value) (wr : World) : Prop :=
  ∃ j, j ≤ l.length ∧ i = .int .i64 (j : Nat) ∧ PoOn iV W N p 2 R (fullB R l j) wr

set_option maxRecDepth 20000 in
set_option maxHeartbeats 4000000 in
theorem law_PostFull (room : Int) (l : List Int) (ao : Option Addr) (cap : Nat) (W : World) (hs : SlV W ao cap (l.map iV)) : Calls Try.prog 6 #[.int .i64 room, .slice ao l.length cap] W (PoOk W) := by
  have HS := Lib.hid hs
  have hfit := hs.fit
  have hmax := hs.max
  rw [List.length_map] at hfit
  unfold maxLen at hmax
  clear hs
  go_enter Try.func6, Try.ntmps6
  go_wp2_with fail
  refine (po_awake W).mono ?_
  rintro e w0 ⟨rfl, hb0⟩
  have B0 := Lib.hid hb0
  clear hb0
  by_cases h1 : room < 1
  · have d1 : decide (room < 1) = true := decide_eq_true h1
    clear h1
    go_wp2_with fail
    go_ret
    exact ⟨rfl, B0.out⟩
  · have d1 : decide (room < 1) = false := decide_eq_false h1
    by_cases h2 : room > 64
    · have d2 : decide (room > 64) = true := decide_eq_true h2
      clear h1 h2
      go_wp2_with fail
      go_ret
      exact ⟨rfl, B0.out⟩
    · have d2 : decide (room > 64) = false := decide_eq_false h2
      by_cases h3 : 80 < l.length
      · have d3 : decide ((l.length : Int) > 80) = true := decide_eq_true (by omega)
        clear h1 h2
        go_wp2_with fail
        go_ret
        exact ⟨rfl, B0.out⟩
      · have d3 : decide ((l.length : Int) > 80) = false := decide_eq_false (by omega)
        obtain ⟨R, rfl⟩ : ∃ R : Nat, room = R := ⟨room.toNat, by omega⟩
        have hR : 0 < R ∧ R ≤ 64 := by omega
        have HR := Lib.hid hR
        clear h1 h2 hR
        go_wp2_with fail
        refine (pi_on_new 2 R B0.out (Nat.le_refl _) (by decide) HR.out).mono ?_
        rintro e w1 ⟨p, rfl, hL1⟩
        have L1 := Lib.hid (show PoOn iV W W.heap.size p 2 R (fullB R l 0) w1 by
          have e : fullB R l 0 = fun _ => [] := by
            unfold fullB
            rw [Nat.zero_min, List.take_zero]
            exact upd_same rfl
          rw [e]
          exact hL1)
        clear hL1
        go_wp2_with fail
        go_loopw [7] (fun i wr => FullRel W W.heap.size p R l i wr) (fun i _ => l.length - (intOf i).toNat)
        case atStart => exact ⟨0, Nat.zero_le _, rfl, L1.out⟩
        case round =>
          obtain ⟨j, hj, rfl, hL⟩ := hrel
          by_cases hlt : j < l.length
          · obtain ⟨b, off, rfl, hbW, hcx⟩ := HS.out.at j hlt
            have k1 : wr.cell? ⟨b, off + j, none⟩ = some (.int .i64 l[j]) := (hL.be.cell (p := ⟨b, off + j, none⟩) hbW).trans hcx
            have L := Lib.hid hL
            have jb : (j : Int) < (l.length : Int) := by omega
            have j0 : (0 : Int) ≤ (j : Int) := by omega
            clear hL hcx
            by_cases hjR : j < R
            · have ST := Lib.hid (full_put (R := R) hlt hjR)
              have SC := Lib.hid (full_can (R := R) hlt hjR)
              have d4 : decide ((j : Int) < (R : Int)) = true := decide_eq_true (by omega)
              generalize l[j] = x at *
              go_wp2_with (go_at_call 15; refine (pi_on_put (k := 1) L.out SC.out).mono ?_; rintro e w2 ⟨rfl, h2⟩; rw [ST.out] at h2; have L2 := Lib.hid h2; clear h2)
              go_roundw
              case rel => exact ⟨j + 1, by omega, by go_num, L2.out⟩
              case measure => simp only [intOf]; omega
            · have ST := Lib.hid (full_stay (R := R) hlt hjR)
              have SC := Lib.hid (full_cannot (R := R) hlt hjR)
              have d4 : decide ((j : Int) < (R : Int)) = false := decide_eq_false (by omega)
              generalize l[j] = x at *
              go_wp2_with (go_at_call 15; refine (pi_on_put (k := 1) L.out SC.out).mono ?_; rintro e w2 ⟨rfl, h2⟩; rw [ST.out] at h2; have L2 := Lib.hid h2; clear h2)
              go_roundw
              case rel => exact ⟨j + 1, by omega, by go_num, L2.out⟩
              case measure => simp only [intOf]; omega
          · obtain rfl : j = l.length := by omega
            by_cases hlR : l.length < R
            · have L := Lib.hid (show PoOn iV W W.heap.size p 2 R (upd (fun _ => []) 1 l) wr by rw [full_end (by omega)] at hL; exact hL)
              have E1 := Lib.hid (show (lenB 2 (upd (fun _ => ([] : List Int)) 1 l) 1 : Int) = (l.length : Int) from rfl)
              have E0 := Lib.hid (show (lenB 2 (upd (fun _ => ([] : List Int)) 1 l) 0 : Int) = 0 from rfl)
              have d4 : decide ((l.length : Int) < (R : Int)) = true := decide_eq_true (by omega)
              clear hL
              go_wp2_with (go_at_call 23; first
                | (refine (pi_on_len (k := 1) L.out E1.out).mono ?_; rintro e w2 ⟨rfl, rfl⟩)
                | (refine (pi_on_len (k := 0) L.out E0.out).mono ?_; rintro e w2 ⟨rfl, rfl⟩))
              go_ret
              exact ⟨rfl, L.out.be⟩
            · have d4 : decide ((l.length : Int) < (R : Int)) = false := decide_eq_false (by omega)
              obtain ⟨r, rfl⟩ : ∃ r, R = r + 1 := ⟨R - 1, by have := HR.out; omega⟩
              cases l with
              | nil => exact absurd (show ([] : List Int).length < r + 1 by simp) hlR
              | cons x t =>
                have hrt : r ≤ t.length := by rw [List.length_cons] at hlR; omega
                obtain ⟨b, off, rfl, hbW, hcx⟩ := HS.out.at 0 (by simp)
                have hx0 : W.cell? ⟨b, off, none⟩ = some (.int .i64 x) := hcx
                have HX := Lib.hid hx0
                have L := Lib.hid (show PoOn iV W W.heap.size p 2 (r + 1) (upd (fun _ => []) 1 (x :: t.take r)) wr by rw [full_over hrt] at hL; exact hL)
                have P1 := Lib.hid (full_pop (x := x) (t := t) (r := r))
                have C2 := Lib.hid (full_can2 (t := t) (r := r))
                have P2 := Lib.hid (full_put2 (t := t) (r := r) 7)
                have C3 := Lib.hid (full_can3 (t := t) (r := r) hrt 7)
                have C4 := Lib.hid (show canB 2 (r + 1) (upd (fun _ => ([] : List Int)) 1 (t.take r ++ [7])) 0 = true from rfl)
                have j1 : (0 : Int) < ((x :: t).length : Int) := by rw [List.length_cons]; omega
                clear hL hcx hx0
                go_wp2_with fail
                refine (pi_on_get (k := 1) (x := x) (r := true) L.out rfl rfl).mono ?_
                rintro e w2 ⟨rfl, h2⟩
                rw [P1.out] at h2
                have k1 : w2.cell? ⟨b, off, none⟩ = some (.int .i64 x) := (h2.be.cell (p := ⟨b, off, none⟩) hbW).trans HX.out
                have L2 := Lib.hid h2
                clear h2
                go_wp2_with fail
                refine (pi_on_put (k := 1) (x := 7) L2.out C2.out).mono ?_
                rintro e w3 ⟨rfl, h3⟩
                rw [P2.out] at h3
                have L3 := Lib.hid h3
                clear h3
                go_wp2_with fail
                refine (pi_on_put (k := 1) (x := 8) L3.out C3.out).mono ?_
                rintro e w4 ⟨rfl, h4⟩
                rw [putB_no C3.out] at h4
                have L4 := Lib.hid h4
                clear h4
                go_wp2_with fail
                refine (pi_on_put (k := 0) (x := 9) L4.out C4.out).mono ?_
                rintro e w5 ⟨rfl, h5⟩
                have L5 := Lib.hid h5
                clear h5
                go_wp2_with fail
                go_ret
                exact ⟨rfl, L5.out.be⟩

end Go.Proofs.Ytedfiejocajpkaa
