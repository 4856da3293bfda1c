/-
  Held back one by one all is as it was.
-/
import Derived.Test.YtkbenpfcnhijnaaVque
namespace Go.Proofs.Ytkbenpfcnhijnaa
open Go.RowKit

theorem held_has {l : List Int} {j : Nat} (h : j < l.length) : hasZ (⟨l.drop j ++ l.take j, l.length, 0, 0, 0⟩ : St Int).l.length 0 = true := by
  show hasZ (l.drop j ++ l.take j).length 0 = true
  exact decide_eq_true (by rw [List.length_append, List.length_drop]; omega)
theorem front_hold {l : List Int} {j : Nat} (h : j < l.length) : (⟨l.drop j ++ l.take j, l.length, 0, 0, 0⟩ : St Int).hold 0 0 = ⟨l.drop (j + 1) ++ l.take (j + 1), l.length, 0, 0, 0⟩ := by
  unfold St.hold St.got
  rw [held_has h, List.drop_eq_getElem_cons h, List.take_succ_eq_append_getElem h, ← List.append_assoc]
  rfl

def HeldRel (W : World) (N p : Nat) (l : List Int) (i : Value) (wr : World) : Prop :=
  ∃ j, j ≤ l.length ∧ i = .int .i64 (j : Nat) ∧ LnOn iV 3 W N p ⟨l.drop j ++ l.take j, l.length, 0, 0, 0⟩ wr

set_option maxRecDepth 20000 in
set_option maxHeartbeats 4000000 in
theorem law_LaneHolds (l : List Int) (ao : Option Addr) (cap : Nat) (W : World) (hs : SlV W ao cap (l.map iV)) : Calls Try.prog 7 #[.slice ao l.length cap] W (LnOk W) := by
  have HS := Lib.hid hs
  have hfit := hs.fit
  have hmax := hs.max
  rw [List.length_map] at hfit
  unfold maxLen at hmax
  clear hs
  go_enter Try.func7, Try.ntmps7
  go_wp2_with fail
  refine (ln_awake W).mono ?_
  rintro e w0 ⟨rfl, hb0⟩
  have B0 := Lib.hid hb0
  clear hb0
  by_cases hlen : 60 < l.length
  · go_wp2_with fail
    go_ret
    exact ⟨rfl, B0.out⟩
  · go_wp2_with fail
    refine (li_on_new B0.out (Nat.le_refl _)).mono ?_
    rintro e w1 ⟨p, rfl, h1, _⟩
    have L1 := Lib.hid h1
    clear h1
    go_wp2_with fail
    go_loopw [4] (fun i wr => SentRel W W.heap.size p l i wr) (fun i _ => l.length - (intOf i).toNat)
    case atStart => exact ⟨0, Nat.zero_le _, rfl, L1.out⟩
    case round =>
      obtain ⟨j, hj, rfl, hL⟩ := hrel
      by_cases hlt : j < l.length
      · obtain ⟨b, off, rfl, hbW, hcx⟩ := HS.out.at j hlt
        have k1 : wr.cell? ⟨b, off + j, none⟩ = some (.int .i64 l[j]) := (hL.be.cell (p := ⟨b, off + j, none⟩) hbW).trans hcx
        have ST := Lib.hid (sent_take hlt (by omega))
        have L := Lib.hid hL
        have jb : (j : Int) < (l.length : Int) := by omega
        have j0 : (0 : Int) ≤ (j : Int) := by omega
        clear hL hcx
        generalize l[j] = x at *
        go_wp2_with (go_at_call 14; refine (li_on_send L.out (by show j ≤ 5000; omega) (sent_room hlt (by omega)) ST.out).mono ?_; rintro e w2 ⟨rfl, h2⟩; have L2 := Lib.hid h2; clear h2)
        go_roundw
        case rel => exact ⟨j + 1, by omega, by go_num, L2.out⟩
        case measure => simp only [intOf]; omega
      · obtain rfl : j = l.length := by omega
        have L := Lib.hid (show LnOn iV 3 W W.heap.size p ⟨l.drop 0 ++ l.take 0, l.length, 0, 0, 0⟩ wr by rw [List.take_length] at hL; rw [List.take_zero, List.append_nil]; exact hL)
        clear hL
        go_wp2_with fail
        go_loopw [5] (fun i wr => HeldRel W W.heap.size p l i wr) (fun i _ => l.length - (intOf i).toNat)
        case atStart => exact ⟨0, Nat.zero_le _, rfl, L.out⟩
        case round =>
          obtain ⟨j, hj, rfl, hL⟩ := hrel
          by_cases hlt : j < l.length
          · have ST := Lib.hid (front_hold hlt)
            have L := Lib.hid hL
            have jb : (j : Int) < (l.length : Int) := by omega
            have j0 : (0 : Int) ≤ (j : Int) := by omega
            clear hL
            go_wp2_with (go_at_call 13; refine (li_on_hold L.out (by show (l.drop j ++ l.take j).length ≤ 5000; rw [List.length_append, List.length_drop, List.length_take]; omega) (held_has hlt) ST.out).mono ?_
                         rintro e w2 ⟨rfl, h2⟩
                         have L2 := Lib.hid h2
                         clear h2)
            go_roundw
            case rel => exact ⟨j + 1, by omega, by go_num, L2.out⟩
            case measure => simp only [intOf]; omega
          · obtain rfl : j = l.length := by omega
            have L := Lib.hid (show LnOn iV 3 W W.heap.size p ⟨l, l.length, 0, 0, 0⟩ wr by rw [List.drop_length, List.take_length, List.nil_append] at hL; exact hL)
            clear hL
            go_wp2_with fail
            refine (li_on_all (l := l) (n := l.length) L.out rfl rfl (by omega)).mono ?_
            rintro e w3 ⟨a3, c3, rfl, hs3, h3, _⟩
            have S3 := Lib.hid hs3
            have S4 := Lib.hid (HS.out.below h3.be)
            have B3 := Lib.hid h3.be
            clear hs3 h3
            go_wp2_with fail
            refine (ints_is (xs := l) (ys := l) (r := true) S3.out S4.out rfl rfl (decide_eq_true rfl)).mono ?_
            rintro e w4 ⟨rfl, q, rfl⟩
            go_wp2_with fail
            go_ret
            exact ⟨rfl, drewN_below B3.out q⟩

end Go.Proofs.Ytkbenpfcnhijnaa
