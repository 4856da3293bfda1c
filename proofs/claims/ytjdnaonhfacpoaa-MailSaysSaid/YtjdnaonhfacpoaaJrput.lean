/-
  The document's own: a message as bytes.
-/
import Derived.Test.YtjdnaonhfacpoaaJput
import Derived.Test.YtjdnaonhfacpoaaJrg
namespace Go.Proofs.Ytjdnaonhfacpoaa
open Go.RowKit

set_option maxRecDepth 20000 in
set_option maxHeartbeats 16000000 in
theorem rputm_any (m : Msg) (ba : Option Addr) (bc : Nat) (sa : Option Addr) (sc : Nat) (W : World) (hs : MsgS W m ba bc sa sc) (hk : MsgOk m) :
    Calls Try.prog 17 #[.agg (msgA m ba bc sa sc)] W (PutPost W (bytesM m)) := by
  have hf := hs.fits
  have X1 := Mun.new hs 41
  have O := Lib.hid hk
  clear hk hs
  obtain ⟨r, hr⟩ : ∃ r, goodM m = r := ⟨_, rfl⟩
  have R := Lib.hid hr
  clear hr
  go_enter Try.func17, Try.ntmps17
  go_wp2_with fail
  generalize W.alloc (.cells (msgA m ba bc sa sc) 41) = w1 at X1 ⊢
  obtain ⟨j0, j1, j2, j3, j4, j5, j6, j7, j8, j9⟩ := X1.out.bx
  go_wp2_with fail
  refine (rgood_is X1.out.sl O.out R.out).mono ?_
  rintro e w2 ⟨rfl, hb⟩
  have X2 := Mun.of hb X1
  clear hb X1 j0 j1 j2 j3 j4 j5 j6 j7 j8 j9
  cases r
  · have E := Lib.hid (show bytesM m = [] by unfold bytesM; rw [R.out]; rfl)
    go_wp2_with fail
    go_ret
    rw [E.out]
    exact put_none W w2 X2.out.be
  have G := Lib.hid (of_decide_eq_true R.out)
  obtain ⟨⟨f1, f2⟩, ⟨k1, k2⟩, ⟨v1, v2⟩, ⟨z1, z2⟩, b1, s1, _⟩ := good_nums G.out
  have L0 := Lib.hid (show ((lebL m.frm.toNat).length ≤ 10 ∧ (lebL m.num).length ≤ 10 ∧ (lebL m.to).length ≤ 10 ∧ (lebL m.kind.toNat).length ≤ 10 ∧ (lebL m.vr.toNat).length ≤ 10 ∧ (lebL (m.wri + 1).toNat).length ≤ 10 ∧ (lebL m.tag).length ≤ 10 ∧ (lebL m.bod.length).length ≤ 10 ∧ (lebL m.stp.length).length ≤ 10) ∧ m.bod.length ≤ 256 from
    ⟨⟨lens _ (by omega), lens _ O.out.num, lens _ O.out.to, lens _ (by omega), lens _ (by omega), lens _ (by omega), lens _ O.out.tag, lens _ (by omega), lens _ (by omega)⟩, b1⟩)
  have E := Lib.hid (show bytesM m = putL m by unfold bytesM; rw [R.out]; rfl)
  obtain ⟨j0, j1, j2, j3, j4, j5, j6, j7, j8, j9⟩ := X2.out.bx
  obtain ⟨p, hp⟩ : ∃ p, w2.heap.size = p := ⟨_, rfl⟩
  have B3 := below_alloc (Below.refl _ w2) (.cells #[.slice none 0 0] 65)
  have H0 := Lib.hid (show WrOn w2 w2.heap.size p [] (w2.alloc (.cells #[.slice none 0 0] 65)) from hp ▸ ⟨⟨_, _, new_wr w2 w2.heap.size (Nat.le_refl _) _⟩, B3⟩)
  have Y := (X2.out.bx.below B3)
  clear j0 j1 j2 j3 j4 j5 j6 j7 j8 j9
  obtain ⟨j0, j1, j2, j3, j4, j5, j6, j7, j8, j9⟩ := Y
  rcases (show m.kind = 0 ∨ m.kind = 1 ∨ m.kind = 2 ∨ m.kind = 3 by omega) with hk | hk | hk | hk
  · have K := Lib.hid hk
    have e0 : (m.kind == 0) = true := by rw [hk]; rfl
    have e1 : (m.kind == 1) = false := by rw [hk]; rfl
    have e3 : (m.kind == 3) = false := by rw [hk]; rfl
    have TG := Lib.hid (show tagged m.kind = false by rw [hk]; rfl)
    clear hk
    go_wp2_with fail
    generalize w2.alloc (.cells #[.slice none 0 0] 65) = w3 at H0 j0 j1 j2 j3 j4 j5 j6 j7 j8 j9 ⊢
    refine (ron_num (n := m.frm.toNat) H0.out (by omega) (by omega) (by simp only [List.length_nil]; omega)).mono ?_
    rintro e w3 ⟨rfl, h⟩
    have H1 := Lib.hid h
    have Y := (X2.out.bx.below h.2)
    obtain ⟨j0, j1, j2, j3, j4, j5, j6, j7, j8, j9⟩ := Y
    clear h H0
    go_wp2_with fail
    refine (ron_num (n := m.num) H1.out rfl (O.out.num) (by simp only [List.length_append, List.length_nil]; have := L0.out; omega)).mono ?_
    rintro e w4 ⟨rfl, h⟩
    have H2 := Lib.hid h
    have Y := (X2.out.bx.below h.2)
    obtain ⟨j0, j1, j2, j3, j4, j5, j6, j7, j8, j9⟩ := Y
    clear h H1
    go_wp2_with fail
    refine (ron_num (n := m.to) H2.out rfl (O.out.to) (by simp only [List.length_append, List.length_nil]; have := L0.out; omega)).mono ?_
    rintro e w5 ⟨rfl, h⟩
    have H3 := Lib.hid h
    have Y := (X2.out.bx.below h.2)
    obtain ⟨j0, j1, j2, j3, j4, j5, j6, j7, j8, j9⟩ := Y
    clear h H2
    go_wp2_with fail
    refine (ron_num (n := m.kind.toNat) H3.out (by omega) (by omega) (by simp only [List.length_append, List.length_nil]; have := L0.out; omega)).mono ?_
    rintro e w6 ⟨rfl, h⟩
    have H4 := Lib.hid h
    have Y := (X2.out.bx.below h.2)
    obtain ⟨j0, j1, j2, j3, j4, j5, j6, j7, j8, j9⟩ := Y
    clear h H3
    go_wp2_with fail
    refine (ron_bytes H4.out X2.out.sl.b rfl (by simp only [List.length_append, List.length_nil]; have := L0.out; omega) (by omega)).mono ?_
    rintro e w7 ⟨rfl, h⟩
    have H5 := Lib.hid h
    have Y := (X2.out.bx.below h.2)
    obtain ⟨j0, j1, j2, j3, j4, j5, j6, j7, j8, j9⟩ := Y
    clear h H4
    go_wp2_with fail
    refine (ron_bytes H5.out X2.out.sl.s rfl (by simp only [List.length_append, List.length_nil]; have := L0.out; omega) (by omega)).mono ?_
    rintro e w8 ⟨rfl, h⟩
    have H6 := Lib.hid h
    have Y := (X2.out.bx.below h.2)
    obtain ⟨j0, j1, j2, j3, j4, j5, j6, j7, j8, j9⟩ := Y
    clear h H5
    have EP : Hid (putL m = [] ++ lebL m.frm.toNat ++ lebL m.num ++ lebL m.to ++ lebL m.kind.toNat ++ (lebL m.bod.length ++ m.bod) ++ (lebL m.stp.length ++ m.stp)) := Lib.hid (by unfold putL; rw [if_pos K.out, TG.out]; simp)
    obtain ⟨⟨F, v, hV⟩, hB⟩ := (show WrOn w2 w2.heap.size p (putL m) w8 by rw [EP.out]; exact H6.out)
    clear EP
    have c0 := hV.cell
    obtain ⟨a, cap, rfl, hsl⟩ := hV.slice
    have R2 := Lib.hid hsl
    have R3 := Lib.hid hB
    clear hV hsl hB
    go_wp2_with fail
    go_ret
    refine ⟨a, cap, ?_, ?_, X2.out.be.trans (R3.out.mono X2.out.le)⟩
    · rw [E.out]; rfl
    · rw [E.out]; exact R2.out
  · have K := Lib.hid hk
    have e0 : (m.kind == 0) = false := by rw [hk]; rfl
    have e1 : (m.kind == 1) = true := by rw [hk]; rfl
    have e3 : (m.kind == 3) = false := by rw [hk]; rfl
    have TG := Lib.hid (show tagged m.kind = true by rw [hk]; rfl)
    clear hk
    go_wp2_with fail
    generalize w2.alloc (.cells #[.slice none 0 0] 65) = w3 at H0 j0 j1 j2 j3 j4 j5 j6 j7 j8 j9 ⊢
    refine (ron_num (n := m.frm.toNat) H0.out (by omega) (by omega) (by simp only [List.length_nil]; omega)).mono ?_
    rintro e w3 ⟨rfl, h⟩
    have H1 := Lib.hid h
    have Y := (X2.out.bx.below h.2)
    obtain ⟨j0, j1, j2, j3, j4, j5, j6, j7, j8, j9⟩ := Y
    clear h H0
    go_wp2_with fail
    refine (ron_num (n := m.num) H1.out rfl (O.out.num) (by simp only [List.length_append, List.length_nil]; have := L0.out; omega)).mono ?_
    rintro e w4 ⟨rfl, h⟩
    have H2 := Lib.hid h
    have Y := (X2.out.bx.below h.2)
    obtain ⟨j0, j1, j2, j3, j4, j5, j6, j7, j8, j9⟩ := Y
    clear h H1
    go_wp2_with fail
    refine (ron_num (n := m.to) H2.out rfl (O.out.to) (by simp only [List.length_append, List.length_nil]; have := L0.out; omega)).mono ?_
    rintro e w5 ⟨rfl, h⟩
    have H3 := Lib.hid h
    have Y := (X2.out.bx.below h.2)
    obtain ⟨j0, j1, j2, j3, j4, j5, j6, j7, j8, j9⟩ := Y
    clear h H2
    go_wp2_with fail
    refine (ron_num (n := m.kind.toNat) H3.out (by omega) (by omega) (by simp only [List.length_append, List.length_nil]; have := L0.out; omega)).mono ?_
    rintro e w6 ⟨rfl, h⟩
    have H4 := Lib.hid h
    have Y := (X2.out.bx.below h.2)
    obtain ⟨j0, j1, j2, j3, j4, j5, j6, j7, j8, j9⟩ := Y
    clear h H3
    go_wp2_with fail
    refine (ron_num (n := m.vr.toNat) H4.out (by omega) (by omega) (by simp only [List.length_append, List.length_nil]; have := L0.out; omega)).mono ?_
    rintro e w7 ⟨rfl, h⟩
    have H5 := Lib.hid h
    have Y := (X2.out.bx.below h.2)
    obtain ⟨j0, j1, j2, j3, j4, j5, j6, j7, j8, j9⟩ := Y
    clear h H4
    go_wp2_with fail
    refine (ron_float (x := m.val) H5.out O.out.val (by simp only [List.length_append, List.length_nil]; have := L0.out; omega)).mono ?_
    rintro e w8 ⟨rfl, h⟩
    have H6 := Lib.hid h
    have Y := (X2.out.bx.below h.2)
    obtain ⟨j0, j1, j2, j3, j4, j5, j6, j7, j8, j9⟩ := Y
    clear h H5
    go_wp2_with fail
    refine (ron_num (n := (m.wri + 1).toNat) H6.out (by omega) (by omega) (by simp only [List.length_append, List.length_nil, beL_len]; have := L0.out; omega)).mono ?_
    rintro e w9 ⟨rfl, h⟩
    have H7 := Lib.hid h
    have Y := (X2.out.bx.below h.2)
    obtain ⟨j0, j1, j2, j3, j4, j5, j6, j7, j8, j9⟩ := Y
    clear h H6
    go_wp2_with fail
    refine (ron_num (n := m.tag) H7.out rfl (O.out.tag) (by simp only [List.length_append, List.length_nil, beL_len]; have := L0.out; omega)).mono ?_
    rintro e w10 ⟨rfl, h⟩
    have H8 := Lib.hid h
    have Y := (X2.out.bx.below h.2)
    obtain ⟨j0, j1, j2, j3, j4, j5, j6, j7, j8, j9⟩ := Y
    clear h H7
    go_wp2_with fail
    refine (ron_bytes H8.out X2.out.sl.s rfl (by simp only [List.length_append, List.length_nil, beL_len]; have := L0.out; omega) (by omega)).mono ?_
    rintro e w11 ⟨rfl, h⟩
    have H9 := Lib.hid h
    have Y := (X2.out.bx.below h.2)
    obtain ⟨j0, j1, j2, j3, j4, j5, j6, j7, j8, j9⟩ := Y
    clear h H8
    have EP : Hid (putL m = [] ++ lebL m.frm.toNat ++ lebL m.num ++ lebL m.to ++ lebL m.kind.toNat ++ lebL m.vr.toNat ++ beL (keyN m.val) ++ lebL (m.wri + 1).toNat ++ lebL m.tag ++ (lebL m.stp.length ++ m.stp)) := Lib.hid (by unfold putL; rw [if_neg (by rw [K.out]; decide), TG.out]; simp)
    obtain ⟨⟨F, v, hV⟩, hB⟩ := (show WrOn w2 w2.heap.size p (putL m) w11 by rw [EP.out]; exact H9.out)
    clear EP
    have c0 := hV.cell
    obtain ⟨a, cap, rfl, hsl⟩ := hV.slice
    have R2 := Lib.hid hsl
    have R3 := Lib.hid hB
    clear hV hsl hB
    go_wp2_with fail
    go_ret
    refine ⟨a, cap, ?_, ?_, X2.out.be.trans (R3.out.mono X2.out.le)⟩
    · rw [E.out]; rfl
    · rw [E.out]; exact R2.out
  · have K := Lib.hid hk
    have e0 : (m.kind == 0) = false := by rw [hk]; rfl
    have e1 : (m.kind == 1) = false := by rw [hk]; rfl
    have e3 : (m.kind == 3) = false := by rw [hk]; rfl
    have TG := Lib.hid (show tagged m.kind = false by rw [hk]; rfl)
    clear hk
    go_wp2_with fail
    generalize w2.alloc (.cells #[.slice none 0 0] 65) = w3 at H0 j0 j1 j2 j3 j4 j5 j6 j7 j8 j9 ⊢
    refine (ron_num (n := m.frm.toNat) H0.out (by omega) (by omega) (by simp only [List.length_nil]; omega)).mono ?_
    rintro e w3 ⟨rfl, h⟩
    have H1 := Lib.hid h
    have Y := (X2.out.bx.below h.2)
    obtain ⟨j0, j1, j2, j3, j4, j5, j6, j7, j8, j9⟩ := Y
    clear h H0
    go_wp2_with fail
    refine (ron_num (n := m.num) H1.out rfl (O.out.num) (by simp only [List.length_append, List.length_nil]; have := L0.out; omega)).mono ?_
    rintro e w4 ⟨rfl, h⟩
    have H2 := Lib.hid h
    have Y := (X2.out.bx.below h.2)
    obtain ⟨j0, j1, j2, j3, j4, j5, j6, j7, j8, j9⟩ := Y
    clear h H1
    go_wp2_with fail
    refine (ron_num (n := m.to) H2.out rfl (O.out.to) (by simp only [List.length_append, List.length_nil]; have := L0.out; omega)).mono ?_
    rintro e w5 ⟨rfl, h⟩
    have H3 := Lib.hid h
    have Y := (X2.out.bx.below h.2)
    obtain ⟨j0, j1, j2, j3, j4, j5, j6, j7, j8, j9⟩ := Y
    clear h H2
    go_wp2_with fail
    refine (ron_num (n := m.kind.toNat) H3.out (by omega) (by omega) (by simp only [List.length_append, List.length_nil]; have := L0.out; omega)).mono ?_
    rintro e w6 ⟨rfl, h⟩
    have H4 := Lib.hid h
    have Y := (X2.out.bx.below h.2)
    obtain ⟨j0, j1, j2, j3, j4, j5, j6, j7, j8, j9⟩ := Y
    clear h H3
    go_wp2_with fail
    refine (ron_num (n := m.vr.toNat) H4.out (by omega) (by omega) (by simp only [List.length_append, List.length_nil]; have := L0.out; omega)).mono ?_
    rintro e w7 ⟨rfl, h⟩
    have H5 := Lib.hid h
    have Y := (X2.out.bx.below h.2)
    obtain ⟨j0, j1, j2, j3, j4, j5, j6, j7, j8, j9⟩ := Y
    clear h H4
    go_wp2_with fail
    refine (ron_bytes H5.out X2.out.sl.s rfl (by simp only [List.length_append, List.length_nil]; have := L0.out; omega) (by omega)).mono ?_
    rintro e w8 ⟨rfl, h⟩
    have H6 := Lib.hid h
    have Y := (X2.out.bx.below h.2)
    obtain ⟨j0, j1, j2, j3, j4, j5, j6, j7, j8, j9⟩ := Y
    clear h H5
    have EP : Hid (putL m = [] ++ lebL m.frm.toNat ++ lebL m.num ++ lebL m.to ++ lebL m.kind.toNat ++ lebL m.vr.toNat ++ (lebL m.stp.length ++ m.stp)) := Lib.hid (by unfold putL; rw [if_neg (by rw [K.out]; decide), TG.out]; simp)
    obtain ⟨⟨F, v, hV⟩, hB⟩ := (show WrOn w2 w2.heap.size p (putL m) w8 by rw [EP.out]; exact H6.out)
    clear EP
    have c0 := hV.cell
    obtain ⟨a, cap, rfl, hsl⟩ := hV.slice
    have R2 := Lib.hid hsl
    have R3 := Lib.hid hB
    clear hV hsl hB
    go_wp2_with fail
    go_ret
    refine ⟨a, cap, ?_, ?_, X2.out.be.trans (R3.out.mono X2.out.le)⟩
    · rw [E.out]; rfl
    · rw [E.out]; exact R2.out
  · have K := Lib.hid hk
    have e0 : (m.kind == 0) = false := by rw [hk]; rfl
    have e1 : (m.kind == 1) = false := by rw [hk]; rfl
    have e3 : (m.kind == 3) = true := by rw [hk]; rfl
    have TG := Lib.hid (show tagged m.kind = true by rw [hk]; rfl)
    clear hk
    go_wp2_with fail
    generalize w2.alloc (.cells #[.slice none 0 0] 65) = w3 at H0 j0 j1 j2 j3 j4 j5 j6 j7 j8 j9 ⊢
    refine (ron_num (n := m.frm.toNat) H0.out (by omega) (by omega) (by simp only [List.length_nil]; omega)).mono ?_
    rintro e w3 ⟨rfl, h⟩
    have H1 := Lib.hid h
    have Y := (X2.out.bx.below h.2)
    obtain ⟨j0, j1, j2, j3, j4, j5, j6, j7, j8, j9⟩ := Y
    clear h H0
    go_wp2_with fail
    refine (ron_num (n := m.num) H1.out rfl (O.out.num) (by simp only [List.length_append, List.length_nil]; have := L0.out; omega)).mono ?_
    rintro e w4 ⟨rfl, h⟩
    have H2 := Lib.hid h
    have Y := (X2.out.bx.below h.2)
    obtain ⟨j0, j1, j2, j3, j4, j5, j6, j7, j8, j9⟩ := Y
    clear h H1
    go_wp2_with fail
    refine (ron_num (n := m.to) H2.out rfl (O.out.to) (by simp only [List.length_append, List.length_nil]; have := L0.out; omega)).mono ?_
    rintro e w5 ⟨rfl, h⟩
    have H3 := Lib.hid h
    have Y := (X2.out.bx.below h.2)
    obtain ⟨j0, j1, j2, j3, j4, j5, j6, j7, j8, j9⟩ := Y
    clear h H2
    go_wp2_with fail
    refine (ron_num (n := m.kind.toNat) H3.out (by omega) (by omega) (by simp only [List.length_append, List.length_nil]; have := L0.out; omega)).mono ?_
    rintro e w6 ⟨rfl, h⟩
    have H4 := Lib.hid h
    have Y := (X2.out.bx.below h.2)
    obtain ⟨j0, j1, j2, j3, j4, j5, j6, j7, j8, j9⟩ := Y
    clear h H3
    go_wp2_with fail
    refine (ron_num (n := m.vr.toNat) H4.out (by omega) (by omega) (by simp only [List.length_append, List.length_nil]; have := L0.out; omega)).mono ?_
    rintro e w7 ⟨rfl, h⟩
    have H5 := Lib.hid h
    have Y := (X2.out.bx.below h.2)
    obtain ⟨j0, j1, j2, j3, j4, j5, j6, j7, j8, j9⟩ := Y
    clear h H4
    go_wp2_with fail
    refine (ron_float (x := m.val) H5.out O.out.val (by simp only [List.length_append, List.length_nil]; have := L0.out; omega)).mono ?_
    rintro e w8 ⟨rfl, h⟩
    have H6 := Lib.hid h
    have Y := (X2.out.bx.below h.2)
    obtain ⟨j0, j1, j2, j3, j4, j5, j6, j7, j8, j9⟩ := Y
    clear h H5
    go_wp2_with fail
    refine (ron_num (n := (m.wri + 1).toNat) H6.out (by omega) (by omega) (by simp only [List.length_append, List.length_nil, beL_len]; have := L0.out; omega)).mono ?_
    rintro e w9 ⟨rfl, h⟩
    have H7 := Lib.hid h
    have Y := (X2.out.bx.below h.2)
    obtain ⟨j0, j1, j2, j3, j4, j5, j6, j7, j8, j9⟩ := Y
    clear h H6
    go_wp2_with fail
    refine (ron_num (n := m.tag) H7.out rfl (O.out.tag) (by simp only [List.length_append, List.length_nil, beL_len]; have := L0.out; omega)).mono ?_
    rintro e w10 ⟨rfl, h⟩
    have H8 := Lib.hid h
    have Y := (X2.out.bx.below h.2)
    obtain ⟨j0, j1, j2, j3, j4, j5, j6, j7, j8, j9⟩ := Y
    clear h H7
    go_wp2_with fail
    refine (ron_bytes H8.out X2.out.sl.s rfl (by simp only [List.length_append, List.length_nil, beL_len]; have := L0.out; omega) (by omega)).mono ?_
    rintro e w11 ⟨rfl, h⟩
    have H9 := Lib.hid h
    have Y := (X2.out.bx.below h.2)
    obtain ⟨j0, j1, j2, j3, j4, j5, j6, j7, j8, j9⟩ := Y
    clear h H8
    have EP : Hid (putL m = [] ++ lebL m.frm.toNat ++ lebL m.num ++ lebL m.to ++ lebL m.kind.toNat ++ lebL m.vr.toNat ++ beL (keyN m.val) ++ lebL (m.wri + 1).toNat ++ lebL m.tag ++ (lebL m.stp.length ++ m.stp)) := Lib.hid (by unfold putL; rw [if_neg (by rw [K.out]; decide), TG.out]; simp)
    obtain ⟨⟨F, v, hV⟩, hB⟩ := (show WrOn w2 w2.heap.size p (putL m) w11 by rw [EP.out]; exact H9.out)
    clear EP
    have c0 := hV.cell
    obtain ⟨a, cap, rfl, hsl⟩ := hV.slice
    have R2 := Lib.hid hsl
    have R3 := Lib.hid hB
    clear hV hsl hB
    go_wp2_with fail
    go_ret
    refine ⟨a, cap, ?_, ?_, X2.out.be.trans (R3.out.mono X2.out.le)⟩
    · rw [E.out]; rfl
    · rw [E.out]; exact R2.out

theorem rput_is {m : Msg} {ba : Option Addr} {bc : Nat} {sa : Option Addr} {sc : Nat} {bs : List Nat} {W : World} (hs : MsgS W m ba bc sa sc) (hk : MsgOk m) (h : bytesM m = bs) :
    Calls Try.prog 17 #[.agg (msgA m ba bc sa sc)] W (PutPost W bs) := by
  subst h; exact rputm_any m ba bc sa sc W hs hk

end Go.Proofs.Ytjdnaonhfacpoaa
