/-
  Put: a message as bytes.
-/
import Derived.Test.YtjdnaonhfacpoaaJgd
namespace Go.Proofs.Ytjdnaonhfacpoaa
open Go.RowKit

theorem on_numz {W w : World} {N p n : Nat} {z : Int} {bs : List Nat} (h : WrOn W N p bs w) (hz : (n : Int) = z) (hn : n < 18446744073709551616) (hl : bs.length ≤ 1000000) :
    Calls Try.prog 25 #[.pointer (some ⟨p, 0, none⟩), .int .u64 z] w fun e w' => e = .returned (.tuple #[]) ∧ WrOn W N p (bs ++ lebL n) w' := by
  subst hz; exact on_num h hn hl
theorem on_setz {W w : World} {N p n : Nat} {bs : List Nat} (h : WrOn W N p bs w) (hn : n < 18446744073709551616) (hl : bs.length ≤ 1000000) :
    Calls Try.prog 26 #[.pointer (some ⟨p, 0, none⟩), .int .u64 (n : Nat)] w fun e w' => e = .returned (.tuple #[]) ∧ WrOn W N p (bs ++ lebL n) w' := by
  obtain ⟨⟨F, hA⟩, hB⟩ := h
  exact (wset_any w N p F bs n hA hn hl).mono fun e w' h => ⟨h.1, WrOn.post hA hB h⟩
/-- Bytes that lay there ahead of the writer. -/
theorem on_bytesz {W w : World} {p len cap : Nat} {bs cs : List Nat} {ao : Option Addr} (h : WrOn W W.heap.size p bs w) (hs : SlAt bV 256 W ao cap cs) (hlen : cs.length = len) (hl : bs.length ≤ 900000) (hc : cs.length ≤ 100000) :
    Calls Try.prog 27 #[.pointer (some ⟨p, 0, none⟩), .slice ao len cap] w fun e w' => e = .returned (.tuple #[]) ∧ WrOn W W.heap.size p (bs ++ (lebL cs.length ++ cs)) w' := by
  refine (on_bytes h (Below.refl _ _) (hs.below h.2) hlen (fun ad e h0 => ?_) hl hc).mono fun e w' h => ?_
  · obtain ⟨b, off, e2, hl2, _⟩ := hs.cell 0 (List.length_pos_iff.2 h0)
    rw [e] at e2
    cases e2
    exact Or.inl hl2
  · rwa [List.append_assoc] at h

theorem ron_num {W w : World} {N p n : Nat} {z : Int} {bs : List Nat} (h : WrOn W N p bs w) (hz : (n : Int) = z) (hn : n < 18446744073709551616) (hl : bs.length ≤ 1000000) :
    Calls Try.prog 35 #[.pointer (some ⟨p, 0, none⟩), .int .u64 z] w fun e w' => e = .returned (.tuple #[]) ∧ WrOn W N p (bs ++ lebL n) w' := by
  subst hz
  obtain ⟨⟨F, hA⟩, hB⟩ := h
  exact (rwnum_any w N p F bs n hA hn hl).mono fun e w' h => ⟨h.1, WrOn.post hA hB h⟩
theorem ron_float {W w : World} {N p x : Nat} {bs : List Nat} (h : WrOn W N p bs w) (hx : x < 18446744073709551616) (hl : bs.length ≤ 1000000) :
    Calls Try.prog 37 #[.pointer (some ⟨p, 0, none⟩), .float .f64 x] w fun e w' => e = .returned (.tuple #[]) ∧ WrOn W N p (bs ++ beL (keyN x)) w' := by
  obtain ⟨⟨F, hA⟩, hB⟩ := h
  exact (rwfloat_any w N p F bs x hA hx hl).mono fun e w' h => ⟨h.1, WrOn.post hA hB h⟩
theorem ron_bytes {W w : World} {p len cap : Nat} {bs cs : List Nat} {ao : Option Addr} (h : WrOn W W.heap.size p bs w) (hs : SlAt bV 256 W ao cap cs) (hlen : cs.length = len) (hl : bs.length ≤ 900000) (hc : cs.length ≤ 100000) :
    Calls Try.prog 36 #[.pointer (some ⟨p, 0, none⟩), .slice ao len cap] w fun e w' => e = .returned (.tuple #[]) ∧ WrOn W W.heap.size p (bs ++ (lebL cs.length ++ cs)) w' := by
  subst hlen
  have hs1 := hs.below h.2
  obtain ⟨⟨F, hA⟩, hB⟩ := h
  refine (rwbytes_any w W.heap.size p F bs cs ao cap hA hs1 (fun ad e h0 f => ?_) hl hc).mono fun e w' h => ?_
  · obtain ⟨b, off, e2, hl2, _⟩ := hs.cell 0 (List.length_pos_iff.2 h0)
    rw [e] at e2
    cases e2
    have := hA.size.2.2 _ f
    simp only at this
    omega
  · have := (⟨h.1, WrOn.post hA hB h⟩ : e = .returned (.tuple #[]) ∧ WrOn W W.heap.size p _ w')
    rwa [List.append_assoc] at this

def PutPost (W : World) (bs : List Nat) (e : Ending) (w' : World) : Prop :=
  ∃ a cap, e = .returned (.slice a bs.length cap) ∧ SlAt bV 256 w' a cap bs ∧ Below W.heap.size W w'
theorem put_none (W w : World) (hb : Below W.heap.size W w) : PutPost W [] (.returned (.slice none 0 0)) w := ⟨none, 0, rfl, SlAt.none _ _ _, hb⟩

theorem good_nums {m : Msg} (h : GoodP m) : (0 ≤ m.frm ∧ m.frm ≤ 15) ∧ (0 ≤ m.kind ∧ m.kind ≤ 3) ∧ (0 ≤ m.vr ∧ m.vr ≤ 15) ∧ (-1 ≤ m.wri ∧ m.wri ≤ 15) ∧ m.bod.length ≤ 256 ∧ m.stp.length ≤ 20000 ∧ m.to < 18446744073709551616 := by
  obtain ⟨⟨h1, h2, h3, h4⟩, h5, h6, h7⟩ := h
  rcases h6 with ⟨k, a, b, c⟩ | ⟨k, a, b, c⟩ | ⟨k, a, b⟩ | ⟨k, a, b⟩
  · have := c.2.1
    omega
  · have := a.1
    have := a.2
    omega
  · have := a.1
    have := a.2
    have := b.2.1
    omega
  · have := a.1
    have := a.2
    have := b.1
    omega
theorem lens (n : Nat) (h : n < 18446744073709551616) : (lebL n).length ≤ 10 := (leb_len h).2

set_option maxRecDepth 20000 in
set_option maxHeartbeats 16000000 in
theorem mput_any (m : Msg) (ba : Option Addr) (bc : Nat) (sa : Option Addr) (sc : Nat) (W : World) (hs : MsgS W m ba bc sa sc) (hk : MsgOk m) :
    Calls Try.prog 11 #[.agg (msgA m ba bc sa sc)] W (PutPost W (bytesM m)) := by
  have hf := hs.fits
  have X1 := Mun.new hs 29
  have O := Lib.hid hk
  clear hk hs
  obtain ⟨r, hr⟩ : ∃ r, goodM m = r := ⟨_, rfl⟩
  have R := Lib.hid hr
  clear hr
  go_enter Try.func11, Try.ntmps11
  go_wp2_with fail
  generalize W.alloc (.cells (msgA m ba bc sa sc) 29) = w1 at X1 ⊢
  obtain ⟨j0, j1, j2, j3, j4, j5, j6, j7, j8, j9⟩ := X1.out.bx
  go_wp2_with fail
  refine (good_is X1.out.sl O.out R.out).mono ?_
  rintro e w2 ⟨rfl, hb⟩
  have X2 := Mun.of hb X1
  clear hb X1 j0 j1 j2 j3 j4 j5 j6 j7 j8 j9
  cases r
  · have E := Lib.hid (show bytesM m = [] by unfold bytesM; rw [R.out]; rfl)
    go_wp2_with fail
    go_ret
    rw [E.out]
    exact put_none W w2 X2.out.be
  have G := Lib.hid (of_decide_eq_true R.out)
  obtain ⟨⟨f1, f2⟩, ⟨k1, k2⟩, ⟨v1, v2⟩, ⟨z1, z2⟩, b1, s1, _⟩ := good_nums G.out
  have L0 := Lib.hid (show ((lebL m.frm.toNat).length ≤ 10 ∧ (lebL m.num).length ≤ 10 ∧ (lebL m.to).length ≤ 10 ∧ (lebL m.kind.toNat).length ≤ 10 ∧ (lebL m.vr.toNat).length ≤ 10 ∧ (lebL (m.wri + 1).toNat).length ≤ 10 ∧ (lebL m.tag).length ≤ 10 ∧ (lebL m.bod.length).length ≤ 10 ∧ (lebL m.stp.length).length ≤ 10) ∧ m.bod.length ≤ 256 from
    ⟨⟨lens _ (by omega), lens _ O.out.num, lens _ O.out.to, lens _ (by omega), lens _ (by omega), lens _ (by omega), lens _ O.out.tag, lens _ (by omega), lens _ (by omega)⟩, b1⟩)
  have E := Lib.hid (show bytesM m = putL m by unfold bytesM; rw [R.out]; rfl)
  obtain ⟨j0, j1, j2, j3, j4, j5, j6, j7, j8, j9⟩ := X2.out.bx
  go_wp2_with fail
  refine (wnew_any w2 w2.heap.size (Nat.le_refl _)).mono ?_
  rintro e w3 ⟨rfl, hA, hB⟩
  obtain ⟨p, hp⟩ : ∃ p, w2.heap.size = p := ⟨_, rfl⟩
  have H0 := Lib.hid (show WrOn w2 w2.heap.size w2.heap.size [] w3 from ⟨⟨_, hA⟩, hB⟩)
  have Y := (X2.out.bx.below hB)
  rw [hp] at H0 ⊢
  rw [← hp] at H0
  have H0 := Lib.hid (show WrOn w2 w2.heap.size p [] w3 by rw [← hp]; exact H0.out)
  clear j0 j1 j2 j3 j4 j5 j6 j7 j8 j9
  obtain ⟨j0, j1, j2, j3, j4, j5, j6, j7, j8, j9⟩ := Y
  clear hA hB hp
  rcases (show m.kind = 0 ∨ m.kind = 1 ∨ m.kind = 2 ∨ m.kind = 3 by omega) with hk | hk | hk | hk
  · have K := Lib.hid hk
    have e0 : (m.kind == 0) = true := by rw [hk]; rfl
    have e1 : (m.kind == 1) = false := by rw [hk]; rfl
    have e3 : (m.kind == 3) = false := by rw [hk]; rfl
    have TG := Lib.hid (show tagged m.kind = false by rw [hk]; rfl)
    clear hk
    go_wp2_with fail
    refine (on_numz (n := m.frm.toNat) H0.out (by omega) (by omega) (by simp only [List.length_nil]; omega)).mono ?_
    rintro e w3 ⟨rfl, h⟩
    have H1 := Lib.hid h
    have Y := (X2.out.bx.below h.2)
    obtain ⟨j0, j1, j2, j3, j4, j5, j6, j7, j8, j9⟩ := Y
    clear h H0
    go_wp2_with fail
    refine (on_numz (n := m.num) H1.out rfl (O.out.num) (by simp only [List.length_append, List.length_nil]; have := L0.out; omega)).mono ?_
    rintro e w4 ⟨rfl, h⟩
    have H2 := Lib.hid h
    have Y := (X2.out.bx.below h.2)
    obtain ⟨j0, j1, j2, j3, j4, j5, j6, j7, j8, j9⟩ := Y
    clear h H1
    go_wp2_with fail
    refine (on_setz (n := m.to) H2.out (O.out.to) (by simp only [List.length_append, List.length_nil]; have := L0.out; omega)).mono ?_
    rintro e w5 ⟨rfl, h⟩
    have H3 := Lib.hid h
    have Y := (X2.out.bx.below h.2)
    obtain ⟨j0, j1, j2, j3, j4, j5, j6, j7, j8, j9⟩ := Y
    clear h H2
    go_wp2_with fail
    refine (on_numz (n := m.kind.toNat) H3.out (by omega) (by omega) (by simp only [List.length_append, List.length_nil]; have := L0.out; omega)).mono ?_
    rintro e w6 ⟨rfl, h⟩
    have H4 := Lib.hid h
    have Y := (X2.out.bx.below h.2)
    obtain ⟨j0, j1, j2, j3, j4, j5, j6, j7, j8, j9⟩ := Y
    clear h H3
    go_wp2_with fail
    refine (on_bytesz H4.out X2.out.sl.b rfl (by simp only [List.length_append, List.length_nil]; have := L0.out; omega) (by omega)).mono ?_
    rintro e w7 ⟨rfl, h⟩
    have H5 := Lib.hid h
    have Y := (X2.out.bx.below h.2)
    obtain ⟨j0, j1, j2, j3, j4, j5, j6, j7, j8, j9⟩ := Y
    clear h H4
    go_wp2_with fail
    refine (hasv_is TG.out).mono ?_
    rintro e w' ⟨rfl, rfl⟩
    go_wp2_with fail
    refine (on_bytesz H5.out X2.out.sl.s rfl (by simp only [List.length_append, List.length_nil]; have := L0.out; omega) (by omega)).mono ?_
    rintro e w8 ⟨rfl, h⟩
    have H6 := Lib.hid h
    have Y := (X2.out.bx.below h.2)
    obtain ⟨j0, j1, j2, j3, j4, j5, j6, j7, j8, j9⟩ := Y
    clear h H5
    have EP : Hid (putL m = [] ++ lebL m.frm.toNat ++ lebL m.num ++ lebL m.to ++ lebL m.kind.toNat ++ (lebL m.bod.length ++ m.bod) ++ (lebL m.stp.length ++ m.stp)) := Lib.hid (by unfold putL; rw [if_pos K.out, TG.out]; simp)
    have PL : (putL m).length ≤ 30000 := by rw [EP.out]; simp only [List.length_append, List.length_nil]; have := L0.out; omega
    have HP := Lib.hid (show WrOn w2 w2.heap.size p (putL m) w8 by rw [EP.out]; exact H6.out)
    clear H6 EP
    go_wp2_with fail
    refine (on_done HP.out (by omega)).mono ?_
    rintro e w' ⟨a, cap, rfl, hsl, _, hb, _⟩
    go_wp2_with fail
    go_ret
    refine ⟨a, cap, ?_, ?_, X2.out.be.trans ((HP.out.2.trans (hb.mono (HP.out.1.elim fun F h => h.size.1))).mono X2.out.le)⟩
    · rw [E.out]; rfl
    · rw [E.out]; exact hsl
  · have K := Lib.hid hk
    have e0 : (m.kind == 0) = false := by rw [hk]; rfl
    have e1 : (m.kind == 1) = true := by rw [hk]; rfl
    have e3 : (m.kind == 3) = false := by rw [hk]; rfl
    have TG := Lib.hid (show tagged m.kind = true by rw [hk]; rfl)
    clear hk
    go_wp2_with fail
    refine (on_numz (n := m.frm.toNat) H0.out (by omega) (by omega) (by simp only [List.length_nil]; omega)).mono ?_
    rintro e w3 ⟨rfl, h⟩
    have H1 := Lib.hid h
    have Y := (X2.out.bx.below h.2)
    obtain ⟨j0, j1, j2, j3, j4, j5, j6, j7, j8, j9⟩ := Y
    clear h H0
    go_wp2_with fail
    refine (on_numz (n := m.num) H1.out rfl (O.out.num) (by simp only [List.length_append, List.length_nil]; have := L0.out; omega)).mono ?_
    rintro e w4 ⟨rfl, h⟩
    have H2 := Lib.hid h
    have Y := (X2.out.bx.below h.2)
    obtain ⟨j0, j1, j2, j3, j4, j5, j6, j7, j8, j9⟩ := Y
    clear h H1
    go_wp2_with fail
    refine (on_setz (n := m.to) H2.out (O.out.to) (by simp only [List.length_append, List.length_nil]; have := L0.out; omega)).mono ?_
    rintro e w5 ⟨rfl, h⟩
    have H3 := Lib.hid h
    have Y := (X2.out.bx.below h.2)
    obtain ⟨j0, j1, j2, j3, j4, j5, j6, j7, j8, j9⟩ := Y
    clear h H2
    go_wp2_with fail
    refine (on_numz (n := m.kind.toNat) H3.out (by omega) (by omega) (by simp only [List.length_append, List.length_nil]; have := L0.out; omega)).mono ?_
    rintro e w6 ⟨rfl, h⟩
    have H4 := Lib.hid h
    have Y := (X2.out.bx.below h.2)
    obtain ⟨j0, j1, j2, j3, j4, j5, j6, j7, j8, j9⟩ := Y
    clear h H3
    go_wp2_with fail
    refine (on_numz (n := m.vr.toNat) H4.out (by omega) (by omega) (by simp only [List.length_append, List.length_nil]; have := L0.out; omega)).mono ?_
    rintro e w7 ⟨rfl, h⟩
    have H5 := Lib.hid h
    have Y := (X2.out.bx.below h.2)
    obtain ⟨j0, j1, j2, j3, j4, j5, j6, j7, j8, j9⟩ := Y
    clear h H4
    go_wp2_with fail
    refine (hasv_is TG.out).mono ?_
    rintro e w' ⟨rfl, rfl⟩
    go_wp2_with fail
    refine (on_float (x := m.val) H5.out O.out.val (by simp only [List.length_append, List.length_nil]; have := L0.out; omega)).mono ?_
    rintro e w8 ⟨rfl, h⟩
    have H6 := Lib.hid h
    have Y := (X2.out.bx.below h.2)
    obtain ⟨j0, j1, j2, j3, j4, j5, j6, j7, j8, j9⟩ := Y
    clear h H5
    go_wp2_with fail
    refine (on_numz (n := (m.wri + 1).toNat) H6.out (by omega) (by omega) (by simp only [List.length_append, List.length_nil, beL_len]; have := L0.out; omega)).mono ?_
    rintro e w9 ⟨rfl, h⟩
    have H7 := Lib.hid h
    have Y := (X2.out.bx.below h.2)
    obtain ⟨j0, j1, j2, j3, j4, j5, j6, j7, j8, j9⟩ := Y
    clear h H6
    go_wp2_with fail
    refine (on_numz (n := m.tag) H7.out rfl (O.out.tag) (by simp only [List.length_append, List.length_nil, beL_len]; have := L0.out; omega)).mono ?_
    rintro e w10 ⟨rfl, h⟩
    have H8 := Lib.hid h
    have Y := (X2.out.bx.below h.2)
    obtain ⟨j0, j1, j2, j3, j4, j5, j6, j7, j8, j9⟩ := Y
    clear h H7
    go_wp2_with fail
    refine (on_bytesz H8.out X2.out.sl.s rfl (by simp only [List.length_append, List.length_nil, beL_len]; have := L0.out; omega) (by omega)).mono ?_
    rintro e w11 ⟨rfl, h⟩
    have H9 := Lib.hid h
    have Y := (X2.out.bx.below h.2)
    obtain ⟨j0, j1, j2, j3, j4, j5, j6, j7, j8, j9⟩ := Y
    clear h H8
    have EP : Hid (putL m = [] ++ lebL m.frm.toNat ++ lebL m.num ++ lebL m.to ++ lebL m.kind.toNat ++ lebL m.vr.toNat ++ beL (keyN m.val) ++ lebL (m.wri + 1).toNat ++ lebL m.tag ++ (lebL m.stp.length ++ m.stp)) := Lib.hid (by unfold putL; rw [if_neg (by rw [K.out]; decide), TG.out]; simp)
    have PL : (putL m).length ≤ 30000 := by rw [EP.out]; simp only [List.length_append, List.length_nil, beL_len]; have := L0.out; omega
    have HP := Lib.hid (show WrOn w2 w2.heap.size p (putL m) w11 by rw [EP.out]; exact H9.out)
    clear H9 EP
    go_wp2_with fail
    refine (on_done HP.out (by omega)).mono ?_
    rintro e w' ⟨a, cap, rfl, hsl, _, hb, _⟩
    go_wp2_with fail
    go_ret
    refine ⟨a, cap, ?_, ?_, X2.out.be.trans ((HP.out.2.trans (hb.mono (HP.out.1.elim fun F h => h.size.1))).mono X2.out.le)⟩
    · rw [E.out]; rfl
    · rw [E.out]; exact hsl
  · have K := Lib.hid hk
    have e0 : (m.kind == 0) = false := by rw [hk]; rfl
    have e1 : (m.kind == 1) = false := by rw [hk]; rfl
    have e3 : (m.kind == 3) = false := by rw [hk]; rfl
    have TG := Lib.hid (show tagged m.kind = false by rw [hk]; rfl)
    clear hk
    go_wp2_with fail
    refine (on_numz (n := m.frm.toNat) H0.out (by omega) (by omega) (by simp only [List.length_nil]; omega)).mono ?_
    rintro e w3 ⟨rfl, h⟩
    have H1 := Lib.hid h
    have Y := (X2.out.bx.below h.2)
    obtain ⟨j0, j1, j2, j3, j4, j5, j6, j7, j8, j9⟩ := Y
    clear h H0
    go_wp2_with fail
    refine (on_numz (n := m.num) H1.out rfl (O.out.num) (by simp only [List.length_append, List.length_nil]; have := L0.out; omega)).mono ?_
    rintro e w4 ⟨rfl, h⟩
    have H2 := Lib.hid h
    have Y := (X2.out.bx.below h.2)
    obtain ⟨j0, j1, j2, j3, j4, j5, j6, j7, j8, j9⟩ := Y
    clear h H1
    go_wp2_with fail
    refine (on_setz (n := m.to) H2.out (O.out.to) (by simp only [List.length_append, List.length_nil]; have := L0.out; omega)).mono ?_
    rintro e w5 ⟨rfl, h⟩
    have H3 := Lib.hid h
    have Y := (X2.out.bx.below h.2)
    obtain ⟨j0, j1, j2, j3, j4, j5, j6, j7, j8, j9⟩ := Y
    clear h H2
    go_wp2_with fail
    refine (on_numz (n := m.kind.toNat) H3.out (by omega) (by omega) (by simp only [List.length_append, List.length_nil]; have := L0.out; omega)).mono ?_
    rintro e w6 ⟨rfl, h⟩
    have H4 := Lib.hid h
    have Y := (X2.out.bx.below h.2)
    obtain ⟨j0, j1, j2, j3, j4, j5, j6, j7, j8, j9⟩ := Y
    clear h H3
    go_wp2_with fail
    refine (on_numz (n := m.vr.toNat) H4.out (by omega) (by omega) (by simp only [List.length_append, List.length_nil]; have := L0.out; omega)).mono ?_
    rintro e w7 ⟨rfl, h⟩
    have H5 := Lib.hid h
    have Y := (X2.out.bx.below h.2)
    obtain ⟨j0, j1, j2, j3, j4, j5, j6, j7, j8, j9⟩ := Y
    clear h H4
    go_wp2_with fail
    refine (hasv_is TG.out).mono ?_
    rintro e w' ⟨rfl, rfl⟩
    go_wp2_with fail
    refine (on_bytesz H5.out X2.out.sl.s rfl (by simp only [List.length_append, List.length_nil]; have := L0.out; omega) (by omega)).mono ?_
    rintro e w8 ⟨rfl, h⟩
    have H6 := Lib.hid h
    have Y := (X2.out.bx.below h.2)
    obtain ⟨j0, j1, j2, j3, j4, j5, j6, j7, j8, j9⟩ := Y
    clear h H5
    have EP : Hid (putL m = [] ++ lebL m.frm.toNat ++ lebL m.num ++ lebL m.to ++ lebL m.kind.toNat ++ lebL m.vr.toNat ++ (lebL m.stp.length ++ m.stp)) := Lib.hid (by unfold putL; rw [if_neg (by rw [K.out]; decide), TG.out]; simp)
    have PL : (putL m).length ≤ 30000 := by rw [EP.out]; simp only [List.length_append, List.length_nil]; have := L0.out; omega
    have HP := Lib.hid (show WrOn w2 w2.heap.size p (putL m) w8 by rw [EP.out]; exact H6.out)
    clear H6 EP
    go_wp2_with fail
    refine (on_done HP.out (by omega)).mono ?_
    rintro e w' ⟨a, cap, rfl, hsl, _, hb, _⟩
    go_wp2_with fail
    go_ret
    refine ⟨a, cap, ?_, ?_, X2.out.be.trans ((HP.out.2.trans (hb.mono (HP.out.1.elim fun F h => h.size.1))).mono X2.out.le)⟩
    · rw [E.out]; rfl
    · rw [E.out]; exact hsl
  · have K := Lib.hid hk
    have e0 : (m.kind == 0) = false := by rw [hk]; rfl
    have e1 : (m.kind == 1) = false := by rw [hk]; rfl
    have e3 : (m.kind == 3) = true := by rw [hk]; rfl
    have TG := Lib.hid (show tagged m.kind = true by rw [hk]; rfl)
    clear hk
    go_wp2_with fail
    refine (on_numz (n := m.frm.toNat) H0.out (by omega) (by omega) (by simp only [List.length_nil]; omega)).mono ?_
    rintro e w3 ⟨rfl, h⟩
    have H1 := Lib.hid h
    have Y := (X2.out.bx.below h.2)
    obtain ⟨j0, j1, j2, j3, j4, j5, j6, j7, j8, j9⟩ := Y
    clear h H0
    go_wp2_with fail
    refine (on_numz (n := m.num) H1.out rfl (O.out.num) (by simp only [List.length_append, List.length_nil]; have := L0.out; omega)).mono ?_
    rintro e w4 ⟨rfl, h⟩
    have H2 := Lib.hid h
    have Y := (X2.out.bx.below h.2)
    obtain ⟨j0, j1, j2, j3, j4, j5, j6, j7, j8, j9⟩ := Y
    clear h H1
    go_wp2_with fail
    refine (on_setz (n := m.to) H2.out (O.out.to) (by simp only [List.length_append, List.length_nil]; have := L0.out; omega)).mono ?_
    rintro e w5 ⟨rfl, h⟩
    have H3 := Lib.hid h
    have Y := (X2.out.bx.below h.2)
    obtain ⟨j0, j1, j2, j3, j4, j5, j6, j7, j8, j9⟩ := Y
    clear h H2
    go_wp2_with fail
    refine (on_numz (n := m.kind.toNat) H3.out (by omega) (by omega) (by simp only [List.length_append, List.length_nil]; have := L0.out; omega)).mono ?_
    rintro e w6 ⟨rfl, h⟩
    have H4 := Lib.hid h
    have Y := (X2.out.bx.below h.2)
    obtain ⟨j0, j1, j2, j3, j4, j5, j6, j7, j8, j9⟩ := Y
    clear h H3
    go_wp2_with fail
    refine (on_numz (n := m.vr.toNat) H4.out (by omega) (by omega) (by simp only [List.length_append, List.length_nil]; have := L0.out; omega)).mono ?_
    rintro e w7 ⟨rfl, h⟩
    have H5 := Lib.hid h
    have Y := (X2.out.bx.below h.2)
    obtain ⟨j0, j1, j2, j3, j4, j5, j6, j7, j8, j9⟩ := Y
    clear h H4
    go_wp2_with fail
    refine (hasv_is TG.out).mono ?_
    rintro e w' ⟨rfl, rfl⟩
    go_wp2_with fail
    refine (on_float (x := m.val) H5.out O.out.val (by simp only [List.length_append, List.length_nil]; have := L0.out; omega)).mono ?_
    rintro e w8 ⟨rfl, h⟩
    have H6 := Lib.hid h
    have Y := (X2.out.bx.below h.2)
    obtain ⟨j0, j1, j2, j3, j4, j5, j6, j7, j8, j9⟩ := Y
    clear h H5
    go_wp2_with fail
    refine (on_numz (n := (m.wri + 1).toNat) H6.out (by omega) (by omega) (by simp only [List.length_append, List.length_nil, beL_len]; have := L0.out; omega)).mono ?_
    rintro e w9 ⟨rfl, h⟩
    have H7 := Lib.hid h
    have Y := (X2.out.bx.below h.2)
    obtain ⟨j0, j1, j2, j3, j4, j5, j6, j7, j8, j9⟩ := Y
    clear h H6
    go_wp2_with fail
    refine (on_numz (n := m.tag) H7.out rfl (O.out.tag) (by simp only [List.length_append, List.length_nil, beL_len]; have := L0.out; omega)).mono ?_
    rintro e w10 ⟨rfl, h⟩
    have H8 := Lib.hid h
    have Y := (X2.out.bx.below h.2)
    obtain ⟨j0, j1, j2, j3, j4, j5, j6, j7, j8, j9⟩ := Y
    clear h H7
    go_wp2_with fail
    refine (on_bytesz H8.out X2.out.sl.s rfl (by simp only [List.length_append, List.length_nil, beL_len]; have := L0.out; omega) (by omega)).mono ?_
    rintro e w11 ⟨rfl, h⟩
    have H9 := Lib.hid h
    have Y := (X2.out.bx.below h.2)
    obtain ⟨j0, j1, j2, j3, j4, j5, j6, j7, j8, j9⟩ := Y
    clear h H8
    have EP : Hid (putL m = [] ++ lebL m.frm.toNat ++ lebL m.num ++ lebL m.to ++ lebL m.kind.toNat ++ lebL m.vr.toNat ++ beL (keyN m.val) ++ lebL (m.wri + 1).toNat ++ lebL m.tag ++ (lebL m.stp.length ++ m.stp)) := Lib.hid (by unfold putL; rw [if_neg (by rw [K.out]; decide), TG.out]; simp)
    have PL : (putL m).length ≤ 30000 := by rw [EP.out]; simp only [List.length_append, List.length_nil, beL_len]; have := L0.out; omega
    have HP := Lib.hid (show WrOn w2 w2.heap.size p (putL m) w11 by rw [EP.out]; exact H9.out)
    clear H9 EP
    go_wp2_with fail
    refine (on_done HP.out (by omega)).mono ?_
    rintro e w' ⟨a, cap, rfl, hsl, _, hb, _⟩
    go_wp2_with fail
    go_ret
    refine ⟨a, cap, ?_, ?_, X2.out.be.trans ((HP.out.2.trans (hb.mono (HP.out.1.elim fun F h => h.size.1))).mono X2.out.le)⟩
    · rw [E.out]; rfl
    · rw [E.out]; exact hsl

theorem mput_is {m : Msg} {ba : Option Addr} {bc : Nat} {sa : Option Addr} {sc : Nat} {bs : List Nat} {W : World} (hs : MsgS W m ba bc sa sc) (hk : MsgOk m) (h : bytesM m = bs) :
    Calls Try.prog 11 #[.agg (msgA m ba bc sa sc)] W (PutPost W bs) := by
  subst h; exact mput_any m ba bc sa sc W hs hk

end Go.Proofs.Ytjdnaonhfacpoaa
