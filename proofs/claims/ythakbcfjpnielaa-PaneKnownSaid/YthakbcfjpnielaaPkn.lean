/-
  What the chapter says of what is bad.
-/
import Derived.Test.YthakbcfjpnielaaPof
namespace Go.Proofs.Ythakbcfjpnielaa
open Go.RowKit

theorem on_set {W w : World} {N p n : Nat} {bs : List Nat} (h : WrOn W N p bs w) (hn : n < 18446744073709551616) (hl : bs.length ≤ 1000000) :
    Calls Try.prog 12 #[.pointer (some ⟨p, 0, none⟩), .int .u64 (n : Nat)] w fun e w' => e = .returned (.tuple #[]) ∧ WrOn W N p (bs ++ lebL n) w' := by
  obtain ⟨⟨F, hA⟩, hB⟩ := h
  exact (wset_any w N p F bs n hA hn hl).mono fun e w' h => ⟨h.1, WrOn.post hA hB h⟩

theorem copy_kn (w : World) : Calls Try.prog 11 #[.float .f64 0, .float .f64 13830554455654793216] w fun e w' => e = .returned (.float .f64 9223372036854775808) ∧ w = w' := by
  have := copysign_any 0 13830554455654793216 w (by decide) (by decide)
  rwa [show copyN 0 13830554455654793216 = 9223372036854775808 by decide +kernel] at this
theorem leb_33 : lebL 33 = [33] := by simp [lebL_lo]
theorem neg_zero : beL (keyN 9223372036854775808) = [127, 255, 255, 255, 255, 255, 255, 255] := by decide +kernel
theorem back_zero : backN 9223372036854775808 = 9223372036854775808 := by decide +kernel
theorem flt_kn : fltR (some [127, 255, 255, 255, 255, 255, 255, 255, 33]) = (9223372036854775808, some [33]) := by
  have := flt_back (x := 9223372036854775808) (by decide) [33]
  rwa [neg_zero, back_zero] at this
theorem set_kn : setR 1 (some [33]) = (0, none) := by decide +kernel
theorem num_kn : numR 4 (some [5, 5]) = (0, none) := by decide +kernel
theorem num_kn2 : numR 9 none = (0, none) := rfl
theorem byt_kn : bytR 1 (some [2, 1, 1]) = ([], none) := by decide +kernel
theorem byt_kn2 : bytR (-1) (some [0]) = ([], some []) := by decide +kernel
theorem flt_kn2 : fltR (some [0, 0, 0, 0, 0, 0, 0, 0]) = (0, none) := by decide +kernel
theorem cls_kn (w : World) : Calls Try.prog 21 #[.float .f64 9223372036854775808] w fun e w' => e = .returned (.int .i64 3) ∧ w = w' := by
  have := rclass_any 9223372036854775808 w (by decide)
  rwa [show cls 9223372036854775808 = 3 by decide +kernel] at this

/-- A reader that is done with, in a later world. -/
theorem RdOn.later {W w w' : World} {N p : Nat} {S : Nat → Prop} {s : Option (List Nat)} (h : RdOn W N p S s w) (hb : Below w.heap.size w w') : RdAt w' p S s := h.1.below hb
theorem end_of {w : World} {p : Nat} {S : Nat → Prop} {s : Option (List Nat)} {b : Bool} (h : RdAt w p S s) (hr : endR s = b) :
    Calls Try.prog 18 #[.pointer (some ⟨p, 0, none⟩)] w fun e w' => e = .returned (.bool b) ∧ w = w' := by
  subst hr
  exact rend_any w p S s h

/-- A reader of what is written out in the text. -/
theorem new_lit (w : World) (xs : List Nat) (cs : Array Value) (n : Nat) (hcs : cs = (xs.map bV).toArray) (hn : xs.length = n) (hl : ∀ x ∈ xs, x < 256) (hm : n ≤ 1000) :
    Calls Try.prog 15 #[.slice (some ⟨w.heap.size, 0, none⟩) n n] (w.alloc (.cells cs 5)) fun e w' => ∃ p S, e = .returned (.pointer (some ⟨p, 0, none⟩)) ∧ RdOn w w.heap.size p S (some xs) w' := by
  refine (on_rnew (W := w) (N := w.heap.size) ((Below.refl _ _).alloc (Nat.le_refl _) _) (by simp) (sl_lit bV 256 w xs cs 5 (0, 0) n hcs hn hl (by unfold maxLen; omega)) hn (by omega)).mono fun e w' hp => ?_
  obtain ⟨p, S, he, hR, _, _, _⟩ := hp
  exact ⟨p, S, he, hR⟩

set_option maxRecDepth 20000 in
set_option maxHeartbeats 8000000 in
theorem law_PaneKnown (W : World) : Calls Try.prog 3 #[] W (Ok W) := by
  go_enter Try.func3, Try.ntmps3
  go_wp2_with fail
  refine (awake_any W).mono ?_
  rintro e w0 ⟨rfl, hb0⟩
  have B0 := Lib.hid hb0
  clear hb0
  go_wp2_with fail
  refine (wnew_any w0 W.heap.size B0.out.size).mono ?_
  rintro e w1 ⟨rfl, hA, hB⟩
  obtain ⟨p, hp⟩ : ∃ p, w0.heap.size = p := ⟨_, rfl⟩
  rw [hp] at hA ⊢
  have H1 := Lib.hid (show WrOn W W.heap.size p [] w1 from ⟨⟨_, hA⟩, B0.out.trans (hB.mono B0.out.size)⟩)
  clear hA hB hp B0
  go_wp2_with (go_at_call 11; refine (copy_kn _).mono ?_; rintro e w' ⟨rfl, rfl⟩)
  refine (on_float H1.out (by decide) (by simp)).mono ?_
  rintro e w2 ⟨rfl, h2⟩
  rw [List.nil_append, neg_zero] at h2
  have H2 := Lib.hid h2
  have L2 := sl_lit lenV 64 w2 [0, 5] #[.int .i64 0, .int .i64 5] 3 (0, 0) 2 rfl rfl (by simp) (by unfold maxLen; omega)
  have H3 := Lib.hid (H2.out.below ((Below.refl _ _).alloc (Nat.le_refl _) (.cells #[.int .i64 0, .int .i64 5] 3)))
  clear h2 H1 H2
  go_wp2_with fail
  generalize (w2.alloc (.cells #[.int .i64 0, .int .i64 5] 3)) = w3 at L2 H3 ⊢
  refine (dof_any [0, 5] _ 2 2 33 w3 L2 rfl (by decide)).mono ?_
  rintro e w' ⟨rfl, rfl⟩
  clear L2
  go_wp2_with fail
  refine (on_set (n := 33) H3.out (by decide) (by simp)).mono ?_
  rintro e w4 ⟨rfl, h4⟩
  rw [leb_33] at h4
  have H4 := Lib.hid (show WrOn W W.heap.size p [127, 255, 255, 255, 255, 255, 255, 255, 33] w4 from h4)
  clear h4 H3
  go_wp2_with fail
  refine (on_done H4.out (by simp)).mono ?_
  rintro e w5 ⟨a5, cap5, rfl, hs5, h5, _, _⟩
  have hB5 := h5.2
  have hN5 : W.heap.size ≤ w5.heap.size := hB5.size
  have SB := Lib.hid hs5
  have B5 := Lib.hid hB5
  clear H4 hs5 h5
  go_wp2_with fail
  refine (on_rnew (Below.refl w5.heap.size w5) (Nat.le_refl _) SB.out rfl (by simp)).mono ?_
  rintro e w6 ⟨p1, S1, rfl, hR, _, _, _⟩
  have R6 := Lib.hid hR
  clear hR hB5
  go_wp2_with fail
  refine (on_rfloat R6.out flt_kn).mono ?_
  rintro e w7 ⟨rfl, hR⟩
  have L7 := sl_lit lenV 64 w7 [0] #[.int .i64 0] 3 (0, 0) 1 rfl rfl (by simp) (by unfold maxLen; omega)
  have R7 := Lib.hid (hR.below ((Below.refl _ _).alloc (Nat.le_refl _) (.cells #[.int .i64 0] 3)))
  clear hR R6
  go_wp2_with fail
  generalize (w7.alloc (.cells #[.int .i64 0] 3)) = w8 at L7 R7 ⊢
  refine (dof_any [0] _ 1 1 1 w8 L7 rfl (by decide)).mono ?_
  rintro e w' ⟨rfl, rfl⟩
  clear L7
  go_wp2_with fail
  refine (on_rset (t := 1) R7.out (by decide) set_kn).mono ?_
  rintro e w9 ⟨rfl, hR⟩
  have R9 := Lib.hid hR
  clear hR R7
  go_wp2_with (go_at_call 18; refine (on_rend (b := false) R9.out rfl).mono ?_; rintro e w' ⟨rfl, rfl⟩)
  refine (new_lit w9 [5, 5] _ 2 rfl rfl (by simp) (by decide)).mono ?_
  rintro e w10 ⟨p2, S2, rfl, hR⟩
  have R10 := Lib.hid hR
  have R9B := Lib.hid R9.out.2.1
  clear hR R9
  go_wp2_with fail
  refine (on_rnum (most := 4) R10.out num_kn).mono ?_
  rintro e w11 ⟨rfl, hR⟩
  have R11 := Lib.hid hR
  clear hR
  go_wp2_with fail
  refine (on_rnum (most := 9) R11.out num_kn2).mono ?_
  rintro e w12 ⟨rfl, hR⟩
  have R12 := Lib.hid hR
  clear hR R10 R11
  go_wp2_with fail
  refine (new_lit w12 [2, 1, 1] _ 3 rfl rfl (by simp) (by decide)).mono ?_
  rintro e w13 ⟨p3, S3, rfl, hR⟩
  have R13 := Lib.hid hR
  clear hR
  go_wp2_with fail
  refine (on_rbytes (most := 1) R13.out (by decide) (by simp) byt_kn).mono ?_
  rintro e w14 ⟨a14, c14, rfl, _, hR⟩
  have R14 := Lib.hid hR
  clear hR R13
  go_wp2_with fail
  refine (new_lit w14 [0] _ 1 rfl rfl (by simp) (by decide)).mono ?_
  rintro e w15 ⟨p4, S4, rfl, hR⟩
  have R15 := Lib.hid hR
  clear hR
  go_wp2_with fail
  refine (on_rbytes (most := -1) R15.out (by decide) (by simp) byt_kn2).mono ?_
  rintro e w16 ⟨a16, c16, rfl, _, hR⟩
  have R16 := Lib.hid hR
  clear hR R15
  go_wp2_with fail
  refine (new_lit w16 [0, 0, 0, 0, 0, 0, 0, 0] _ 8 rfl rfl (by simp) (by decide)).mono ?_
  rintro e w17 ⟨p5, S5, rfl, hR⟩
  have R17 := Lib.hid hR
  clear hR
  go_wp2_with fail
  refine (on_rfloat R17.out flt_kn2).mono ?_
  rintro e w18 ⟨rfl, hR⟩
  have D16 := hR.2.1
  have D14 := R16.out.2.1.trans (D16.mono R16.out.2.1.size)
  have D12 := R14.out.2.1.trans (D14.mono R14.out.2.1.size)
  have D9 := R12.out.2.1.trans (D12.mono R12.out.2.1.size)
  have D5 := R9B.out.trans (D9.mono R9B.out.size)
  have D0 := Lib.hid (B5.out.trans (D5.mono hN5))
  have T2 := Lib.hid (R12.out.later D12)
  have T3 := Lib.hid (R14.out.later D14)
  have T4 := Lib.hid (R16.out.later D16)
  have T5 := Lib.hid hR.1
  have SB18 := SB.out.below D5
  obtain ⟨b, off, rfl, _, k0⟩ := SB18.cell 0 (by decide)
  obtain ⟨b7, off7, e7, _, k7⟩ := SB18.cell 7 (by decide)
  cases e7
  obtain ⟨b8, off8, e8, _, k8⟩ := SB18.cell 8 (by decide)
  cases e8
  have k0' : w18.cell? ⟨b, off, none⟩ = some (.int .u8 127) := k0
  have k7' : w18.cell? ⟨b, off + 7, none⟩ = some (.int .u8 255) := k7
  have k8' : w18.cell? ⟨b, off + 8, none⟩ = some (.int .u8 33) := k8
  have hz : (FloatKind.f64.format.order 0 0 == some .eq) = true := by decide +kernel
  have C18 := Lib.hid (fun (w : World) (h : Below w18.heap.size w18 w) => D0.out.trans (h.mono (Nat.le_trans hN5 D5.size)))
  clear hR D16 D14 D12 D9 D5 k0 k7 k8 SB18 R17 R16 R14 R12 R9B SB B5 hN5 D0
  go_wp2_with (first
    | (go_at_call 21; refine (cls_kn _).mono ?_; rintro e w' ⟨rfl, rfl⟩)
    | (go_at_call 18; (with_reducible refine (end_of (b := false) T2.out rfl).mono ?_); rintro e w' ⟨rfl, rfl⟩)
    | (go_at_call 18; (with_reducible refine (end_of (b := false) T3.out rfl).mono ?_); rintro e w' ⟨rfl, rfl⟩)
    | (go_at_call 18; (with_reducible refine (end_of (b := true) T4.out rfl).mono ?_); rintro e w' ⟨rfl, rfl⟩)
    | (go_at_call 18; (with_reducible refine (end_of (b := false) T5.out rfl).mono ?_); rintro e w' ⟨rfl, rfl⟩)
    | (go_at_call 15; refine (on_rnew (W := w18) (N := w18.heap.size) (Below.refl _ _) (Nat.le_refl _) (SlAt.none bV 256 w18) rfl (by decide)).mono ?_
       rintro e w19 ⟨p6, S6, rfl, hR, _, _, _⟩
       have R19 := Lib.hid hR
       clear hR)
    | (go_at_call 18; refine (on_rend (b := true) R19.out rfl).mono ?_; rintro e w' ⟨rfl, rfl⟩))
  go_ret
  exact ⟨rfl, C18.out _ R19.out.2.1⟩

end Go.Proofs.Ythakbcfjpnielaa
