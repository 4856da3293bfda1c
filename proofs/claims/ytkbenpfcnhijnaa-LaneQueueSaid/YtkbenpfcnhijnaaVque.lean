/-
  Taken from the front all is as sent; held back one by one all is as it was.
-/
import Derived.Test.YtkbenpfcnhijnaaVaw
namespace Go.Proofs.Ytkbenpfcnhijnaa
open Go.RowKit

theorem sent_take {l : List Int} {j : Nat} (h : j < l.length) (hl : l.length ≤ 4096) : (⟨l.take j, j, 0, 0, 0⟩ : St Int).send l[j] = ⟨l.take (j + 1), j + 1, 0, 0, 0⟩ := by
  unfold St.send
  rw [if_pos (by rw [List.length_take]; omega), List.take_succ_eq_append_getElem h]
theorem sent_room {l : List Int} {j : Nat} (h : j < l.length) (hl : l.length ≤ 4096) : decide ((⟨l.take j, j, 0, 0, 0⟩ : St Int).l.length < 4096) = true :=
  decide_eq_true (by show (l.take j).length < 4096; rw [List.length_take]; omega)

theorem front_has {l : List Int} {j n : Nat} (h : j < l.length) : hasZ (⟨l.drop j, n, j, 0, 0⟩ : St Int).l.length 0 = true := by
  show hasZ (l.drop j).length 0 = true
  exact decide_eq_true (by rw [List.length_drop]; omega)
theorem front_got {l : List Int} {j n : Nat} (h : j < l.length) : (⟨l.drop j, n, j, 0, 0⟩ : St Int).got 0 0 = l[j] := by
  unfold St.got
  rw [front_has h, List.drop_eq_getElem_cons h]
  rfl
theorem front_take {l : List Int} {j n : Nat} (h : j < l.length) : (⟨l.drop j, n, j, 0, 0⟩ : St Int).take 0 = ⟨l.drop (j + 1), n, j + 1, 0, 0⟩ := by
  unfold St.take
  rw [front_has h, List.drop_eq_getElem_cons h]
  rfl

def SentRel (W : World) (N p : Nat) (l : List Int) (i : Value) (wr : World) : Prop :=
  ∃ j, j ≤ l.length ∧ i = .int .i64 (j : Nat) ∧ LnOn iV 3 W N p ⟨l.take j, j, 0, 0, 0⟩ wr
def TookRel (W : World) (N p : Nat) (l : List Int) (i : Value) (wr : World) : Prop :=
  ∃ j, j ≤ l.length ∧ i = .int .i64 (j : Nat) ∧ LnOn iV 3 W N p ⟨l.drop j, l.length, j, 0, 0⟩ wr

set_option maxRecDepth 20000 in
set_option maxHeartbeats 4000000 in
theorem law_LaneQueue (l : List Int) (ao : Option Addr) (cap : Nat) (W : World) (hs : SlV W ao cap (l.map iV)) : Calls Try.prog 6 #[.slice ao l.length cap] W (LnOk W) := by
  have HS := Lib.hid hs
  have hfit := hs.fit
  have hmax := hs.max
  rw [List.length_map] at hfit
  unfold maxLen at hmax
  clear hs
  go_enter Try.func6, Try.ntmps6
  go_wp2_with fail
  refine (ln_awake W).mono ?_
  rintro e w0 ⟨rfl, hb0⟩
  have B0 := Lib.hid hb0
  clear hb0
  by_cases hlen : 100 < l.length
  · go_wp2_with fail
    go_ret
    exact ⟨rfl, B0.out⟩
  · go_wp2_with fail
    refine (li_on_new B0.out (Nat.le_refl _)).mono ?_
    rintro e w1 ⟨p, rfl, h1, _⟩
    have L1 := Lib.hid h1
    clear h1
    go_wp2_with fail
    go_loopw [4] (fun i wr => SentRel W W.heap.size p l i wr) (fun i _ => l.length - (intOf i).toNat)
    case atStart => exact ⟨0, Nat.zero_le _, rfl, L1.out⟩
    case round =>
      obtain ⟨j, hj, rfl, hL⟩ := hrel
      by_cases hlt : j < l.length
      · obtain ⟨b, off, rfl, hbW, hcx⟩ := HS.out.at j hlt
        have k1 : wr.cell? ⟨b, off + j, none⟩ = some (.int .i64 l[j]) := (hL.be.cell (p := ⟨b, off + j, none⟩) hbW).trans hcx
        have ST := Lib.hid (sent_take hlt (by omega))
        have L := Lib.hid hL
        have jb : (j : Int) < (l.length : Int) := by omega
        have j0 : (0 : Int) ≤ (j : Int) := by omega
        clear hL hcx
        generalize l[j] = x at *
        go_wp2_with (go_at_call 14; refine (li_on_send L.out (by show j ≤ 5000; omega) (sent_room hlt (by omega)) ST.out).mono ?_; rintro e w2 ⟨rfl, h2⟩; have L2 := Lib.hid h2; clear h2)
        go_roundw
        case rel => exact ⟨j + 1, by omega, by go_num, L2.out⟩
        case measure => simp only [intOf]; omega
      · obtain rfl : j = l.length := by omega
        have L := Lib.hid (show LnOn iV 3 W W.heap.size p ⟨l.drop 0, l.length, 0, 0, 0⟩ wr by rw [List.take_length] at hL; exact hL)
        clear hL
        go_wp2_with fail
        go_loopw [5] (fun i wr => TookRel W W.heap.size p l i wr) (fun i _ => l.length - (intOf i).toNat)
        case atStart => exact ⟨0, Nat.zero_le _, rfl, L.out⟩
        case round =>
          obtain ⟨j, hj, rfl, hL⟩ := hrel
          by_cases hlt : j < l.length
          · obtain ⟨b, off, rfl, hbW, hcx⟩ := HS.out.at j hlt
            have ST := Lib.hid (front_take (n := l.length) hlt)
            have SG := Lib.hid (front_got (n := l.length) hlt)
            have LL := Lib.hid (show (⟨l.drop (j + 1), l.length, j + 1, 0, 0⟩ : St Int).l.length = l.length - 1 - j by show (l.drop (j + 1)).length = _; rw [List.length_drop]; omega)
            have L := Lib.hid hL
            have HX := Lib.hid hcx
            have e1 : (((l.length - 1 - j : Nat) : Int) != (l.length : Int) - 1 - (j : Int)) = false := by simp; omega
            have jb : (j : Int) < (l.length : Int) := by omega
            have j0 : (0 : Int) ≤ (j : Int) := by omega
            clear hL hcx
            generalize l[j] = x at *
            go_wp2_with (first
              | (go_at_call 10; refine (li_on_take L.out (by show (l.drop j).length ≤ 5000; rw [List.length_drop]; omega) (by show j ≤ 5000; omega) (front_has hlt) SG.out ST.out).mono ?_
                 rintro e w2 ⟨rfl, h2⟩
                 have k1 : w2.cell? ⟨b, off + j, none⟩ = some (.int .i64 x) := (h2.be.cell (p := ⟨b, off + j, none⟩) hbW).trans HX.out
                 have L2 := Lib.hid h2
                 clear h2)
              | (go_at_call 16; refine (li_on_len L2.out LL.out).mono ?_
                 rintro e w3 ⟨rfl, h3⟩
                 have L3 := Lib.hid h3
                 clear h3))
            go_roundw
            case rel => exact ⟨j + 1, by omega, by go_num, L3.out⟩
            case measure => simp only [intOf]; omega
          · obtain rfl : j = l.length := by omega
            have L := Lib.hid (show LnOn iV 3 W W.heap.size p ⟨[], l.length, l.length, 0, 0⟩ wr by rw [List.drop_length] at hL; exact hL)
            clear hL
            go_wp2_with (go_at_call 10; refine (li_on_take (b := false) (x := 0) L.out (by show (0 : Nat) ≤ 5000; omega) (by show l.length ≤ 5000; omega) rfl rfl rfl).mono ?_; rintro e w2 ⟨rfl, h2⟩; have L2 := Lib.hid h2; clear h2)
            go_ret
            exact ⟨rfl, L2.out.be⟩

end Go.Proofs.Ytkbenpfcnhijnaa
