/-
  Put gives what the call itself has made.
-/
import Derived.Test.YtjdnaonhfacpoaaJput
namespace Go.Proofs.Ytjdnaonhfacpoaa
open Go.RowKit

def OwnedPost (W : World) (ys : List Nat) (e : Ending) (w' : World) : Prop :=
  ∃ a cap, e = .returned (.slice a ys.length cap) ∧ w'.ownsRow W.heap.size 5 1 (.slice a ys.length cap) ys.length (ys.map bV) ∧ Below W.heap.size W w'
theorem own_owned {W w' : World} {v : Value} {ys : List Nat} (h : w'.ownsRow W.heap.size 5 1 v ys.length (ys.map bV)) (hb : Below W.heap.size W w') : OwnedPost W ys (.returned v) w' := by
  obtain ⟨a, cap, rfl⟩ := own_form h
  exact ⟨a, cap, rfl, h, hb⟩

set_option maxRecDepth 20000 in
set_option maxHeartbeats 2000000 in
theorem clone_own (bs : List Nat) (ao : Option Addr) (cap : Nat) (W : World) (hs : SlAt bV 256 W ao cap bs) (hb : bs.length ≤ 2000000) :
    Calls Try.prog 52 #[.slice ao bs.length cap] W (OwnedPost W bs) := by
  obtain ⟨i0, hi0, hz0, hz1, hz2⟩ := info_parts Try.infoB
  cases ao with
  | none =>
    have hc := hs.nil rfl
    have hf := hs.fit
    obtain rfl : bs = [] := List.length_eq_zero_iff.1 (by omega)
    subst hc
    have he : ∀ w : World, (binOp .eql 27 (.slice none 0 0) (.slice none 0 0)).run Try.prog w = .ok (.bool true) w := fun _ => rfl
    go_enter Try.func52, Try.ntmps52
    go_wp2_with fail
    go_ret
    exact ⟨none, 0, rfl, World.ownsRow_nil .., Below.refl _ _⟩
  | some ad =>
    have S := Lib.hid hs
    clear hs
    have he : ∀ w : World, (binOp .eql 27 (.slice (some ad) bs.length cap) (.slice none 0 0)).run Try.prog w = .ok (.bool false) w := fun _ => rfl
    have O := Lib.hid (World.ownsRow_lit (base := W.heap.size) (e := 5) (size := 1) W #[] 0 (Nat.le_refl _) (by unfold maxLen; omega) rfl)
    go_enter Try.func52, Try.ntmps52
    go_wp2_with (at_builtin; refine wpList_append_at rfl (.tmp 5) (.tmp 6) 27 rfl W.heap.size 5 i0 (.int .u8 0) 1 1 Try.underlying27 hi0 hz0 hz1 hz2 rfl (by decide) _ _ _ rfl O.out _ _ _ (bs.map bV) rfl (by simp) S.out.empty (S.out.below ((Below.refl _ _).alloc (Nat.le_refl _) _)).news (ones_b _) (by unfold maxLen; omega) (by omega) (by simp) ?_
                 intro v2 w2 hown2 hgr2 hat2
                 have hb2 : Below W.heap.size W w2 := ((Below.refl _ _).alloc (Nat.le_refl _) _).grown hgr2 (by simp) (fun k h => (O.out.lt k h).1)
                 try rw [Nat.zero_add, List.nil_append] at hown2
                 have R := Lib.hid (own_owned hown2 hb2)
                 clear hown2 hgr2 hb2 hat2)
    go_ret
    exact R.out

set_option maxHeartbeats 2000000 in
theorem wdone_own (W : World) (N p : Nat) (F : Nat → Prop) (bs : List Nat) (hA : WrAt W N p F bs) (hl : bs.length ≤ 2000000) :
    Calls Try.prog 30 #[.pointer (some ⟨p, 0, none⟩)] W (OwnedPost W bs) := by
  obtain ⟨v, hV⟩ := hA
  have c0 := hV.cell
  obtain ⟨a, cap, rfl, hs⟩ := hV.slice
  have HS := Lib.hid hs
  clear hV hs
  go_enter Try.func30, Try.ntmps30
  go_wp2_with (go_at_call 52; refine (clone_own bs a cap W HS.out hl).mono ?_; rintro e w' ⟨a2, cap2, rfl, h2⟩; have R := Lib.hid h2; clear h2)
  go_ret
  exact ⟨a2, cap2, rfl, R.out⟩
theorem on_downed {W w : World} {N p : Nat} {bs : List Nat} (h : WrOn W N p bs w) (hl : bs.length ≤ 2000000) :
    Calls Try.prog 30 #[.pointer (some ⟨p, 0, none⟩)] w fun e w' => ∃ a cap, e = .returned (.slice a bs.length cap) ∧ w'.ownsRow w.heap.size 5 1 (.slice a bs.length cap) bs.length (bs.map bV) ∧ Below w.heap.size w w' := by
  obtain ⟨⟨F, hA⟩, hB⟩ := h
  exact wdone_own w N p F bs hA hl

set_option maxRecDepth 20000 in
set_option maxHeartbeats 16000000 in
theorem mput_own (m : Msg) (ba : Option Addr) (bc : Nat) (sa : Option Addr) (sc : Nat) (W : World) (hs : MsgS W m ba bc sa sc) (hk : MsgOk m) :
    Calls Try.prog 11 #[.agg (msgA m ba bc sa sc)] W (OwnedPost W (bytesM m)) := by
  have hf := hs.fits
  have X1 := Mun.new hs 29
  have O := Lib.hid hk
  clear hk hs
  obtain ⟨r, hr⟩ : ∃ r, goodM m = r := ⟨_, rfl⟩
  have R := Lib.hid hr
  clear hr
  go_enter Try.func11, Try.ntmps11
  go_wp2_with fail
  generalize W.alloc (.cells (msgA m ba bc sa sc) 29) = w1 at X1 ⊢
  obtain ⟨j0, j1, j2, j3, j4, j5, j6, j7, j8, j9⟩ := X1.out.bx
  go_wp2_with fail
  refine (good_is X1.out.sl O.out R.out).mono ?_
  rintro e w2 ⟨rfl, hb⟩
  have X2 := Mun.of hb X1
  clear hb X1 j0 j1 j2 j3 j4 j5 j6 j7 j8 j9
  cases r
  · have E := Lib.hid (show bytesM m = [] by unfold bytesM; rw [R.out]; rfl)
    go_wp2_with fail
    go_ret
    rw [E.out]
    exact ⟨none, 0, rfl, World.ownsRow_nil .., X2.out.be⟩
  have G := Lib.hid (of_decide_eq_true R.out)
  obtain ⟨⟨f1, f2⟩, ⟨k1, k2⟩, ⟨v1, v2⟩, ⟨z1, z2⟩, b1, s1, _⟩ := good_nums G.out
  have L0 := Lib.hid (show ((lebL m.frm.toNat).length ≤ 10 ∧ (lebL m.num).length ≤ 10 ∧ (lebL m.to).length ≤ 10 ∧ (lebL m.kind.toNat).length ≤ 10 ∧ (lebL m.vr.toNat).length ≤ 10 ∧ (lebL (m.wri + 1).toNat).length ≤ 10 ∧ (lebL m.tag).length ≤ 10 ∧ (lebL m.bod.length).length ≤ 10 ∧ (lebL m.stp.length).length ≤ 10) ∧ m.bod.length ≤ 256 from
    ⟨⟨lens _ (by omega), lens _ O.out.num, lens _ O.out.to, lens _ (by omega), lens _ (by omega), lens _ (by omega), lens _ O.out.tag, lens _ (by omega), lens _ (by omega)⟩, b1⟩)
  have E := Lib.hid (show bytesM m = putL m by unfold bytesM; rw [R.out]; rfl)
  obtain ⟨j0, j1, j2, j3, j4, j5, j6, j7, j8, j9⟩ := X2.out.bx
  go_wp2_with fail
  refine (wnew_any w2 w2.heap.size (Nat.le_refl _)).mono ?_
  rintro e w3 ⟨rfl, hA, hB⟩
  obtain ⟨p, hp⟩ : ∃ p, w2.heap.size = p := ⟨_, rfl⟩
  have H0 := Lib.hid (show WrOn w2 w2.heap.size w2.heap.size [] w3 from ⟨⟨_, hA⟩, hB⟩)
  have Y := (X2.out.bx.below hB)
  rw [hp] at H0 ⊢
  rw [← hp] at H0
  have H0 := Lib.hid (show WrOn w2 w2.heap.size p [] w3 by rw [← hp]; exact H0.out)
  clear j0 j1 j2 j3 j4 j5 j6 j7 j8 j9
  obtain ⟨j0, j1, j2, j3, j4, j5, j6, j7, j8, j9⟩ := Y
  clear hA hB hp
  rcases (show m.kind = 0 ∨ m.kind = 1 ∨ m.kind = 2 ∨ m.kind = 3 by omega) with hk | hk | hk | hk
  · have K := Lib.hid hk
    have e0 : (m.kind == 0) = true := by rw [hk]; rfl
    have e1 : (m.kind == 1) = false := by rw [hk]; rfl
    have e3 : (m.kind == 3) = false := by rw [hk]; rfl
    have TG := Lib.hid (show tagged m.kind = false by rw [hk]; rfl)
    clear hk
    go_wp2_with fail
    refine (on_numz (n := m.frm.toNat) H0.out (by omega) (by omega) (by simp only [List.length_nil]; omega)).mono ?_
    rintro e w3 ⟨rfl, h⟩
    have H1 := Lib.hid h
    have Y := (X2.out.bx.below h.2)
    obtain ⟨j0, j1, j2, j3, j4, j5, j6, j7, j8, j9⟩ := Y
    clear h H0
    go_wp2_with fail
    refine (on_numz (n := m.num) H1.out rfl (O.out.num) (by simp only [List.length_append, List.length_nil]; have := L0.out; omega)).mono ?_
    rintro e w4 ⟨rfl, h⟩
    have H2 := Lib.hid h
    have Y := (X2.out.bx.below h.2)
    obtain ⟨j0, j1, j2, j3, j4, j5, j6, j7, j8, j9⟩ := Y
    clear h H1
    go_wp2_with fail
    refine (on_setz (n := m.to) H2.out (O.out.to) (by simp only [List.length_append, List.length_nil]; have := L0.out; omega)).mono ?_
    rintro e w5 ⟨rfl, h⟩
    have H3 := Lib.hid h
    have Y := (X2.out.bx.below h.2)
    obtain ⟨j0, j1, j2, j3, j4, j5, j6, j7, j8, j9⟩ := Y
    clear h H2
    go_wp2_with fail
    refine (on_numz (n := m.kind.toNat) H3.out (by omega) (by omega) (by simp only [List.length_append, List.length_nil]; have := L0.out; omega)).mono ?_
    rintro e w6 ⟨rfl, h⟩
    have H4 := Lib.hid h
    have Y := (X2.out.bx.below h.2)
    obtain ⟨j0, j1, j2, j3, j4, j5, j6, j7, j8, j9⟩ := Y
    clear h H3
    go_wp2_with fail
    refine (on_bytesz H4.out X2.out.sl.b rfl (by simp only [List.length_append, List.length_nil]; have := L0.out; omega) (by omega)).mono ?_
    rintro e w7 ⟨rfl, h⟩
    have H5 := Lib.hid h
    have Y := (X2.out.bx.below h.2)
    obtain ⟨j0, j1, j2, j3, j4, j5, j6, j7, j8, j9⟩ := Y
    clear h H4
    go_wp2_with fail
    refine (hasv_is TG.out).mono ?_
    rintro e w' ⟨rfl, rfl⟩
    go_wp2_with fail
    refine (on_bytesz H5.out X2.out.sl.s rfl (by simp only [List.length_append, List.length_nil]; have := L0.out; omega) (by omega)).mono ?_
    rintro e w8 ⟨rfl, h⟩
    have H6 := Lib.hid h
    have Y := (X2.out.bx.below h.2)
    obtain ⟨j0, j1, j2, j3, j4, j5, j6, j7, j8, j9⟩ := Y
    clear h H5
    have EP : Hid (putL m = [] ++ lebL m.frm.toNat ++ lebL m.num ++ lebL m.to ++ lebL m.kind.toNat ++ (lebL m.bod.length ++ m.bod) ++ (lebL m.stp.length ++ m.stp)) := Lib.hid (by unfold putL; rw [if_pos K.out, TG.out]; simp)
    have PL : (putL m).length ≤ 30000 := by rw [EP.out]; simp only [List.length_append, List.length_nil]; have := L0.out; omega
    have HP := Lib.hid (show WrOn w2 w2.heap.size p (putL m) w8 by rw [EP.out]; exact H6.out)
    clear H6 EP
    go_wp2_with fail
    refine (on_downed HP.out (by omega)).mono ?_
    rintro e w' ⟨a, cap, rfl, hsl, hb⟩
    go_wp2_with fail
    go_ret
    refine ⟨a, cap, ?_, ?_, X2.out.be.trans ((HP.out.2.trans (hb.mono (HP.out.1.elim fun F h => h.size.1))).mono X2.out.le)⟩
    · rw [E.out]; rfl
    · rw [E.out]; exact own_mono hsl (Nat.le_trans X2.out.le HP.out.2.size)
  · have K := Lib.hid hk
    have e0 : (m.kind == 0) = false := by rw [hk]; rfl
    have e1 : (m.kind == 1) = true := by rw [hk]; rfl
    have e3 : (m.kind == 3) = false := by rw [hk]; rfl
    have TG := Lib.hid (show tagged m.kind = true by rw [hk]; rfl)
    clear hk
    go_wp2_with fail
    refine (on_numz (n := m.frm.toNat) H0.out (by omega) (by omega) (by simp only [List.length_nil]; omega)).mono ?_
    rintro e w3 ⟨rfl, h⟩
    have H1 := Lib.hid h
    have Y := (X2.out.bx.below h.2)
    obtain ⟨j0, j1, j2, j3, j4, j5, j6, j7, j8, j9⟩ := Y
    clear h H0
    go_wp2_with fail
    refine (on_numz (n := m.num) H1.out rfl (O.out.num) (by simp only [List.length_append, List.length_nil]; have := L0.out; omega)).mono ?_
    rintro e w4 ⟨rfl, h⟩
    have H2 := Lib.hid h
    have Y := (X2.out.bx.below h.2)
    obtain ⟨j0, j1, j2, j3, j4, j5, j6, j7, j8, j9⟩ := Y
    clear h H1
    go_wp2_with fail
    refine (on_setz (n := m.to) H2.out (O.out.to) (by simp only [List.length_append, List.length_nil]; have := L0.out; omega)).mono ?_
    rintro e w5 ⟨rfl, h⟩
    have H3 := Lib.hid h
    have Y := (X2.out.bx.below h.2)
    obtain ⟨j0, j1, j2, j3, j4, j5, j6, j7, j8, j9⟩ := Y
    clear h H2
    go_wp2_with fail
    refine (on_numz (n := m.kind.toNat) H3.out (by omega) (by omega) (by simp only [List.length_append, List.length_nil]; have := L0.out; omega)).mono ?_
    rintro e w6 ⟨rfl, h⟩
    have H4 := Lib.hid h
    have Y := (X2.out.bx.below h.2)
    obtain ⟨j0, j1, j2, j3, j4, j5, j6, j7, j8, j9⟩ := Y
    clear h H3
    go_wp2_with fail
    refine (on_numz (n := m.vr.toNat) H4.out (by omega) (by omega) (by simp only [List.length_append, List.length_nil]; have := L0.out; omega)).mono ?_
    rintro e w7 ⟨rfl, h⟩
    have H5 := Lib.hid h
    have Y := (X2.out.bx.below h.2)
    obtain ⟨j0, j1, j2, j3, j4, j5, j6, j7, j8, j9⟩ := Y
    clear h H4
    go_wp2_with fail
    refine (hasv_is TG.out).mono ?_
    rintro e w' ⟨rfl, rfl⟩
    go_wp2_with fail
    refine (on_float (x := m.val) H5.out O.out.val (by simp only [List.length_append, List.length_nil]; have := L0.out; omega)).mono ?_
    rintro e w8 ⟨rfl, h⟩
    have H6 := Lib.hid h
    have Y := (X2.out.bx.below h.2)
    obtain ⟨j0, j1, j2, j3, j4, j5, j6, j7, j8, j9⟩ := Y
    clear h H5
    go_wp2_with fail
    refine (on_numz (n := (m.wri + 1).toNat) H6.out (by omega) (by omega) (by simp only [List.length_append, List.length_nil, beL_len]; have := L0.out; omega)).mono ?_
    rintro e w9 ⟨rfl, h⟩
    have H7 := Lib.hid h
    have Y := (X2.out.bx.below h.2)
    obtain ⟨j0, j1, j2, j3, j4, j5, j6, j7, j8, j9⟩ := Y
    clear h H6
    go_wp2_with fail
    refine (on_numz (n := m.tag) H7.out rfl (O.out.tag) (by simp only [List.length_append, List.length_nil, beL_len]; have := L0.out; omega)).mono ?_
    rintro e w10 ⟨rfl, h⟩
    have H8 := Lib.hid h
    have Y := (X2.out.bx.below h.2)
    obtain ⟨j0, j1, j2, j3, j4, j5, j6, j7, j8, j9⟩ := Y
    clear h H7
    go_wp2_with fail
    refine (on_bytesz H8.out X2.out.sl.s rfl (by simp only [List.length_append, List.length_nil, beL_len]; have := L0.out; omega) (by omega)).mono ?_
    rintro e w11 ⟨rfl, h⟩
    have H9 := Lib.hid h
    have Y := (X2.out.bx.below h.2)
    obtain ⟨j0, j1, j2, j3, j4, j5, j6, j7, j8, j9⟩ := Y
    clear h H8
    have EP : Hid (putL m = [] ++ lebL m.frm.toNat ++ lebL m.num ++ lebL m.to ++ lebL m.kind.toNat ++ lebL m.vr.toNat ++ beL (keyN m.val) ++ lebL (m.wri + 1).toNat ++ lebL m.tag ++ (lebL m.stp.length ++ m.stp)) := Lib.hid (by unfold putL; rw [if_neg (by rw [K.out]; decide), TG.out]; simp)
    have PL : (putL m).length ≤ 30000 := by rw [EP.out]; simp only [List.length_append, List.length_nil, beL_len]; have := L0.out; omega
    have HP := Lib.hid (show WrOn w2 w2.heap.size p (putL m) w11 by rw [EP.out]; exact H9.out)
    clear H9 EP
    go_wp2_with fail
    refine (on_downed HP.out (by omega)).mono ?_
    rintro e w' ⟨a, cap, rfl, hsl, hb⟩
    go_wp2_with fail
    go_ret
    refine ⟨a, cap, ?_, ?_, X2.out.be.trans ((HP.out.2.trans (hb.mono (HP.out.1.elim fun F h => h.size.1))).mono X2.out.le)⟩
    · rw [E.out]; rfl
    · rw [E.out]; exact own_mono hsl (Nat.le_trans X2.out.le HP.out.2.size)
  · have K := Lib.hid hk
    have e0 : (m.kind == 0) = false := by rw [hk]; rfl
    have e1 : (m.kind == 1) = false := by rw [hk]; rfl
    have e3 : (m.kind == 3) = false := by rw [hk]; rfl
    have TG := Lib.hid (show tagged m.kind = false by rw [hk]; rfl)
    clear hk
    go_wp2_with fail
    refine (on_numz (n := m.frm.toNat) H0.out (by omega) (by omega) (by simp only [List.length_nil]; omega)).mono ?_
    rintro e w3 ⟨rfl, h⟩
    have H1 := Lib.hid h
    have Y := (X2.out.bx.below h.2)
    obtain ⟨j0, j1, j2, j3, j4, j5, j6, j7, j8, j9⟩ := Y
    clear h H0
    go_wp2_with fail
    refine (on_numz (n := m.num) H1.out rfl (O.out.num) (by simp only [List.length_append, List.length_nil]; have := L0.out; omega)).mono ?_
    rintro e w4 ⟨rfl, h⟩
    have H2 := Lib.hid h
    have Y := (X2.out.bx.below h.2)
    obtain ⟨j0, j1, j2, j3, j4, j5, j6, j7, j8, j9⟩ := Y
    clear h H1
    go_wp2_with fail
    refine (on_setz (n := m.to) H2.out (O.out.to) (by simp only [List.length_append, List.length_nil]; have := L0.out; omega)).mono ?_
    rintro e w5 ⟨rfl, h⟩
    have H3 := Lib.hid h
    have Y := (X2.out.bx.below h.2)
    obtain ⟨j0, j1, j2, j3, j4, j5, j6, j7, j8, j9⟩ := Y
    clear h H2
    go_wp2_with fail
    refine (on_numz (n := m.kind.toNat) H3.out (by omega) (by omega) (by simp only [List.length_append, List.length_nil]; have := L0.out; omega)).mono ?_
    rintro e w6 ⟨rfl, h⟩
    have H4 := Lib.hid h
    have Y := (X2.out.bx.below h.2)
    obtain ⟨j0, j1, j2, j3, j4, j5, j6, j7, j8, j9⟩ := Y
    clear h H3
    go_wp2_with fail
    refine (on_numz (n := m.vr.toNat) H4.out (by omega) (by omega) (by simp only [List.length_append, List.length_nil]; have := L0.out; omega)).mono ?_
    rintro e w7 ⟨rfl, h⟩
    have H5 := Lib.hid h
    have Y := (X2.out.bx.below h.2)
    obtain ⟨j0, j1, j2, j3, j4, j5, j6, j7, j8, j9⟩ := Y
    clear h H4
    go_wp2_with fail
    refine (hasv_is TG.out).mono ?_
    rintro e w' ⟨rfl, rfl⟩
    go_wp2_with fail
    refine (on_bytesz H5.out X2.out.sl.s rfl (by simp only [List.length_append, List.length_nil]; have := L0.out; omega) (by omega)).mono ?_
    rintro e w8 ⟨rfl, h⟩
    have H6 := Lib.hid h
    have Y := (X2.out.bx.below h.2)
    obtain ⟨j0, j1, j2, j3, j4, j5, j6, j7, j8, j9⟩ := Y
    clear h H5
    have EP : Hid (putL m = [] ++ lebL m.frm.toNat ++ lebL m.num ++ lebL m.to ++ lebL m.kind.toNat ++ lebL m.vr.toNat ++ (lebL m.stp.length ++ m.stp)) := Lib.hid (by unfold putL; rw [if_neg (by rw [K.out]; decide), TG.out]; simp)
    have PL : (putL m).length ≤ 30000 := by rw [EP.out]; simp only [List.length_append, List.length_nil]; have := L0.out; omega
    have HP := Lib.hid (show WrOn w2 w2.heap.size p (putL m) w8 by rw [EP.out]; exact H6.out)
    clear H6 EP
    go_wp2_with fail
    refine (on_downed HP.out (by omega)).mono ?_
    rintro e w' ⟨a, cap, rfl, hsl, hb⟩
    go_wp2_with fail
    go_ret
    refine ⟨a, cap, ?_, ?_, X2.out.be.trans ((HP.out.2.trans (hb.mono (HP.out.1.elim fun F h => h.size.1))).mono X2.out.le)⟩
    · rw [E.out]; rfl
    · rw [E.out]; exact own_mono hsl (Nat.le_trans X2.out.le HP.out.2.size)
  · have K := Lib.hid hk
    have e0 : (m.kind == 0) = false := by rw [hk]; rfl
    have e1 : (m.kind == 1) = false := by rw [hk]; rfl
    have e3 : (m.kind == 3) = true := by rw [hk]; rfl
    have TG := Lib.hid (show tagged m.kind = true by rw [hk]; rfl)
    clear hk
    go_wp2_with fail
    refine (on_numz (n := m.frm.toNat) H0.out (by omega) (by omega) (by simp only [List.length_nil]; omega)).mono ?_
    rintro e w3 ⟨rfl, h⟩
    have H1 := Lib.hid h
    have Y := (X2.out.bx.below h.2)
    obtain ⟨j0, j1, j2, j3, j4, j5, j6, j7, j8, j9⟩ := Y
    clear h H0
    go_wp2_with fail
    refine (on_numz (n := m.num) H1.out rfl (O.out.num) (by simp only [List.length_append, List.length_nil]; have := L0.out; omega)).mono ?_
    rintro e w4 ⟨rfl, h⟩
    have H2 := Lib.hid h
    have Y := (X2.out.bx.below h.2)
    obtain ⟨j0, j1, j2, j3, j4, j5, j6, j7, j8, j9⟩ := Y
    clear h H1
    go_wp2_with fail
    refine (on_setz (n := m.to) H2.out (O.out.to) (by simp only [List.length_append, List.length_nil]; have := L0.out; omega)).mono ?_
    rintro e w5 ⟨rfl, h⟩
    have H3 := Lib.hid h
    have Y := (X2.out.bx.below h.2)
    obtain ⟨j0, j1, j2, j3, j4, j5, j6, j7, j8, j9⟩ := Y
    clear h H2
    go_wp2_with fail
    refine (on_numz (n := m.kind.toNat) H3.out (by omega) (by omega) (by simp only [List.length_append, List.length_nil]; have := L0.out; omega)).mono ?_
    rintro e w6 ⟨rfl, h⟩
    have H4 := Lib.hid h
    have Y := (X2.out.bx.below h.2)
    obtain ⟨j0, j1, j2, j3, j4, j5, j6, j7, j8, j9⟩ := Y
    clear h H3
    go_wp2_with fail
    refine (on_numz (n := m.vr.toNat) H4.out (by omega) (by omega) (by simp only [List.length_append, List.length_nil]; have := L0.out; omega)).mono ?_
    rintro e w7 ⟨rfl, h⟩
    have H5 := Lib.hid h
    have Y := (X2.out.bx.below h.2)
    obtain ⟨j0, j1, j2, j3, j4, j5, j6, j7, j8, j9⟩ := Y
    clear h H4
    go_wp2_with fail
    refine (hasv_is TG.out).mono ?_
    rintro e w' ⟨rfl, rfl⟩
    go_wp2_with fail
    refine (on_float (x := m.val) H5.out O.out.val (by simp only [List.length_append, List.length_nil]; have := L0.out; omega)).mono ?_
    rintro e w8 ⟨rfl, h⟩
    have H6 := Lib.hid h
    have Y := (X2.out.bx.below h.2)
    obtain ⟨j0, j1, j2, j3, j4, j5, j6, j7, j8, j9⟩ := Y
    clear h H5
    go_wp2_with fail
    refine (on_numz (n := (m.wri + 1).toNat) H6.out (by omega) (by omega) (by simp only [List.length_append, List.length_nil, beL_len]; have := L0.out; omega)).mono ?_
    rintro e w9 ⟨rfl, h⟩
    have H7 := Lib.hid h
    have Y := (X2.out.bx.below h.2)
    obtain ⟨j0, j1, j2, j3, j4, j5, j6, j7, j8, j9⟩ := Y
    clear h H6
    go_wp2_with fail
    refine (on_numz (n := m.tag) H7.out rfl (O.out.tag) (by simp only [List.length_append, List.length_nil, beL_len]; have := L0.out; omega)).mono ?_
    rintro e w10 ⟨rfl, h⟩
    have H8 := Lib.hid h
    have Y := (X2.out.bx.below h.2)
    obtain ⟨j0, j1, j2, j3, j4, j5, j6, j7, j8, j9⟩ := Y
    clear h H7
    go_wp2_with fail
    refine (on_bytesz H8.out X2.out.sl.s rfl (by simp only [List.length_append, List.length_nil, beL_len]; have := L0.out; omega) (by omega)).mono ?_
    rintro e w11 ⟨rfl, h⟩
    have H9 := Lib.hid h
    have Y := (X2.out.bx.below h.2)
    obtain ⟨j0, j1, j2, j3, j4, j5, j6, j7, j8, j9⟩ := Y
    clear h H8
    have EP : Hid (putL m = [] ++ lebL m.frm.toNat ++ lebL m.num ++ lebL m.to ++ lebL m.kind.toNat ++ lebL m.vr.toNat ++ beL (keyN m.val) ++ lebL (m.wri + 1).toNat ++ lebL m.tag ++ (lebL m.stp.length ++ m.stp)) := Lib.hid (by unfold putL; rw [if_neg (by rw [K.out]; decide), TG.out]; simp)
    have PL : (putL m).length ≤ 30000 := by rw [EP.out]; simp only [List.length_append, List.length_nil, beL_len]; have := L0.out; omega
    have HP := Lib.hid (show WrOn w2 w2.heap.size p (putL m) w11 by rw [EP.out]; exact H9.out)
    clear H9 EP
    go_wp2_with fail
    refine (on_downed HP.out (by omega)).mono ?_
    rintro e w' ⟨a, cap, rfl, hsl, hb⟩
    go_wp2_with fail
    go_ret
    refine ⟨a, cap, ?_, ?_, X2.out.be.trans ((HP.out.2.trans (hb.mono (HP.out.1.elim fun F h => h.size.1))).mono X2.out.le)⟩
    · rw [E.out]; rfl
    · rw [E.out]; exact own_mono hsl (Nat.le_trans X2.out.le HP.out.2.size)

end Go.Proofs.Ytjdnaonhfacpoaa
