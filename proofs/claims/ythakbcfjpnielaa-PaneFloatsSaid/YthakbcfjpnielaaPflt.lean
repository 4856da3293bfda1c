/-
  Floats are written and read again.
-/
import Derived.Test.YthakbcfjpnielaaPaw
import Derived.Deep.QuietTactic
import Derived.BigQuiet
namespace Go.Proofs.Ythakbcfjpnielaa
open Go.RowKit

/-- Floats, written one behind the other. -/
def fltL : List Nat → List Nat
  | [] => []
  | x :: r => beL (keyN x) ++ fltL r
theorem fltL_snoc : ∀ (l : List Nat) (x : Nat), fltL (l ++ [x]) = fltL l ++ beL (keyN x)
  | [], x => by simp [fltL]
  | y :: r, x => by show beL (keyN y) ++ fltL (r ++ [x]) = (beL (keyN y) ++ fltL r) ++ beL (keyN x); rw [fltL_snoc r x, List.append_assoc]
theorem fltL_len : ∀ (l : List Nat), (fltL l).length = 8 * l.length
  | [] => rfl
  | x :: r => by show (beL (keyN x) ++ fltL r).length = _; rw [List.length_append, beL_len, fltL_len r, List.length_cons]; omega
theorem fltL_take {l : List Nat} {k : Nat} (h : k < l.length) : fltL (l.take (k + 1)) = fltL (l.take k) ++ beL (keyN l[k]) := by
  rw [List.take_succ_eq_append_getElem h, fltL_snoc]
theorem fltL_drop {l : List Nat} {k : Nat} (h : k < l.length) : fltL (l.drop k) = beL (keyN l[k]) ++ fltL (l.drop (k + 1)) := by
  rw [List.drop_eq_getElem_cons h]; rfl

theorem ord_nan {a b : Nat} (ha : a < 18446744073709551616) (hb : b < 18446744073709551616) (h : nanB a = true ∨ nanB b = true) : FloatKind.f64.format.order a b = none := by
  show Ieee.double.order a b = none
  rw [Fl.order_eq a b ha hb]
  unfold nanB at h
  rw [if_pos (h.imp of_decide_eq_true of_decide_eq_true)]

def FltRel2 (W : World) (N p : Nat) (l : List Nat) (i : Value) (wr : World) : Prop :=
  ∃ j : Nat, j ≤ l.length ∧ i = .int .i64 (j : Nat) ∧ WrOn W N p (fltL (l.take j)) wr
def FltRel3 (W : World) (N p : Nat) (S : Nat → Prop) (l : List Nat) (i : Value) (wr : World) : Prop :=
  ∃ j : Nat, j ≤ l.length ∧ i = .int .i64 (j : Nat) ∧ RdOn W N p S (some (fltL (l.drop j))) wr

theorem flt_cell {l : List Nat} {ao : Option Addr} {cap j : Nat} {W wr : World} (hs : SlAt fV 18446744073709551616 W ao cap l) (hB : Below W.heap.size W wr) (hj : j < l.length) :
    ∃ b off, ao = some ⟨b, off, none⟩ ∧ wr.cell? ⟨b, off + j, none⟩ = some (.float .f64 l[j]) ∧ l[j] < 18446744073709551616 := by
  obtain ⟨b, off, e, _, hc⟩ := (hs.below hB).cell j hj
  exact ⟨b, off, e, hc, hs.lt _ (List.getElem_mem hj)⟩

set_option maxRecDepth 20000 in
set_option maxHeartbeats 4000000 in
theorem law_PaneFloats (l : List Nat) (ao : Option Addr) (cap : Nat) (W : World) (hs : SlAt fV 18446744073709551616 W ao cap l) : Calls Try.prog 7 #[.slice ao l.length cap] W (Ok W) := by
  have HS := Lib.hid hs
  have hfit := hs.fit
  have hmax := hs.max
  unfold maxLen at hmax
  clear hs
  go_enter Try.func7, Try.ntmps7
  go_wp2_with fail
  refine (awake_any W).mono ?_
  rintro e w0 ⟨rfl, hb0⟩
  have B0 := Lib.hid hb0
  clear hb0
  by_cases hlen : 30 < l.length
  · go_wp2_with fail
    go_ret
    exact ⟨rfl, B0.out⟩
  · go_wp2_with fail
    refine (wnew_any w0 W.heap.size B0.out.size).mono ?_
    rintro e w1 ⟨rfl, hA, hB⟩
    obtain ⟨p, hp⟩ : ∃ p, w0.heap.size = p := ⟨_, rfl⟩
    rw [hp] at hA ⊢
    have H1 := Lib.hid (show WrOn W W.heap.size p [] w1 from ⟨⟨_, hA⟩, B0.out.trans (hB.mono B0.out.size)⟩)
    clear hA hB hp
    go_wp2_with fail
    go_loopw [4] (fun i wr => FltRel2 W W.heap.size p l i wr) (fun i _ => l.length - (intOf i).toNat)
    case atStart => exact ⟨0, Nat.zero_le _, rfl, H1.out⟩
    case round =>
      obtain ⟨j, hj, rfl, hW⟩ := hrel
      by_cases hlt : j < l.length
      · obtain ⟨b, off, rfl, k1, hx⟩ := flt_cell HS.out hW.2 hlt
        have S1 := Lib.hid (fltL_take hlt)
        have hl8 : (fltL (l.take j)).length ≤ 1000000 := by rw [fltL_len, List.length_take]; omega
        have HW := Lib.hid hW
        clear hW
        generalize l[j] = x at *
        go_wp2_with (go_at_call 10; refine (on_float HW.out hx hl8).mono ?_; rintro e w2 ⟨rfl, h2⟩; have R := Lib.hid h2; clear h2)
        go_roundw
        case rel => exact ⟨j + 1, by omega, by go_num, by rw [S1.out]; exact R.out⟩
        case measure => simp only [intOf]; omega
      · have HW := Lib.hid (show WrOn W W.heap.size p (fltL l) wr by rw [List.take_of_length_le (by omega)] at hW; exact hW)
        have hlf := fltL_len l
        have HL := Lib.hid hlf
        clear hW hlf
        go_wp2_with fail
        refine (on_done HW.out (by rw [HL.out]; omega)).mono ?_
        rintro e w3 ⟨a3, cap3, rfl, hs3, h3, _, _⟩
        have hB3 := h3.2
        have hN3 : W.heap.size ≤ w3.heap.size := hB3.size
        rw [HL.out]
        go_wp2_with fail
        refine (on_rnew hB3 hN3 hs3 HL.out (by omega)).mono ?_
        rintro e w4 ⟨q, S, rfl, hR, _, _, _⟩
        have R4 := Lib.hid hR
        clear hs3 h3 hB3 hN3 hR HW
        go_wp2_with fail
        go_loopw [7] (fun i wr => FltRel3 W W.heap.size q S l i wr) (fun i _ => l.length - (intOf i).toNat)
        case atStart => exact ⟨0, Nat.zero_le _, rfl, R4.out⟩
        case round =>
          obtain ⟨j, hj, rfl, hR⟩ := hrel
          by_cases hlt : j < l.length
          · obtain ⟨b, off, rfl, k1, hx⟩ := flt_cell HS.out hR.2.1 hlt
            have HR := Lib.hid hR
            have S1 := Lib.hid (fltL_drop hlt)
            clear hR k1
            have hj2 : (j : Int) < (l.length : Int) := by omega
            have hj0 : (0 : Int) ≤ (j : Int) := by omega
            have KC := Lib.hid (fun (w : World) (hB : Below W.heap.size W w) => (flt_cell HS.out hB hlt))
            generalize hxe : l[j] = x at *
            clear hxe
            have FB := Lib.hid (show fltR (some (fltL (l.drop j))) = (backN x, some (fltL (l.drop (j + 1)))) by rw [S1.out]; exact flt_back hx _)
            have hbl := back_lt hx
            go_wp2_with fail
            refine (on_rfloat HR.out FB.out).mono ?_
            rintro e w5 ⟨rfl, hR5⟩
            obtain ⟨b2, off2, e2, k5, _⟩ := KC.out w5 hR5.2.1
            cases e2
            have R5 := Lib.hid hR5
            clear hR5 KC
            cases hn : nanB x
            · have hbx : backN x = x := by unfold backN; rw [hn]; rfl
              rw [hbx]
              have t1 := nan_self x hx
              rw [hn] at t1
              clear hbx hbl
              go_wp2_with fail
              go_quiet (fail)
              have D5 := Lib.hid (R5.out.below ((⟨rfl, rfl, rfl, Nat.le_refl _, fun _ _ => rfl⟩ : Below w5.heap.size w5 (w5.drewN nq))))
              go_wp2_with fail
              go_roundw
              case rel => exact ⟨j + 1, by omega, by go_num, D5.out⟩
              case measure => simp only [intOf]; omega
            · have hbx : backN x = nanW := by unfold backN; rw [hn]; rfl
              rw [hbx]
              have t1 : (FloatKind.f64.format.order nanW x != some .eq) = true := by rw [ord_nan (by decide) hx (Or.inr hn)]; rfl
              have t2 : (FloatKind.f64.format.order nanW nanW == some .eq) = false := by rw [ord_nan (by decide) (by decide) (Or.inl nan_w)]; rfl
              have t3 : (FloatKind.f64.format.order x x == some .eq) = false := by rw [ord_nan hx hx (Or.inl hn)]; rfl
              clear hbx hbl hn
              generalize nanW = nw at *
              go_wp2_with fail
              go_quiet (fail)
              have D5 := Lib.hid (R5.out.below ((⟨rfl, rfl, rfl, Nat.le_refl _, fun _ _ => rfl⟩ : Below w5.heap.size w5 (w5.drewN nq))))
              go_wp2_with fail
              go_roundw
              case rel => exact ⟨j + 1, by omega, by go_num, D5.out⟩
              case measure => simp only [intOf]; omega
          · have HR := Lib.hid (show RdOn W W.heap.size q S (some []) wr by rw [List.drop_eq_nil_of_le (by omega)] at hR; exact hR)
            clear hR
            go_wp2_with (go_at_call 18; refine (on_rend (b := true) HR.out rfl).mono ?_; rintro e w' ⟨rfl, rfl⟩)
            go_ret
            exact ⟨rfl, HR.out.2.1⟩

end Go.Proofs.Ythakbcfjpnielaa
