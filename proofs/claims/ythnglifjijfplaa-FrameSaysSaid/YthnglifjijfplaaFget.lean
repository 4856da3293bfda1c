/-
  Get: a frame out of bytes.
-/
import Derived.Test.YthnglifjijfplaaFput
namespace Go.Proofs.Ythnglifjijfplaa
open Go.RowKit

/-- Three cells, no frame yet. -/
def zfV : Nat → Value
  | 0 => .bool false
  | 1 => .int .u64 0
  | _ => .slice none 0 0
theorem zf_new (w : World) (t : TypeId) : Cel 3 (w.alloc (.cells zfA t)) w.heap.size zfV := by
  refine ⟨fun o ho => ?_, fun o => by simp, by simp⟩
  rcases (show o = 0 ∨ o = 1 ∨ o = 2 by omega) with rfl | rfl | rfl <;> simp [zfV]
/-- Three cells are written anew. -/
theorem three_set {F : Nat → Prop} {w : World} {B : Nat} (v0 v1 v2 : Value) (hB : F B) : Keep F w (((w.setCell ⟨B, 0, none⟩ v0).setCell ⟨B, 1, none⟩ v1).setCell ⟨B, 2, none⟩ v2) :=
  (((Keep.refl F w).setCell (p := ⟨B, 0, none⟩) hB v0).setCell (p := ⟨B, 1, none⟩) hB v1).setCell (p := ⟨B, 2, none⟩) hB v2
theorem Cel.three {w : World} {B : Nat} {V : Nat → Value} (h : Cel 3 w B V) (v0 v1 v2 : Value) :
    (((w.setCell ⟨B, 0, none⟩ v0).setCell ⟨B, 1, none⟩ v1).setCell ⟨B, 2, none⟩ v2).cell? ⟨B, 0, none⟩ = some v0 ∧ (((w.setCell ⟨B, 0, none⟩ v0).setCell ⟨B, 1, none⟩ v1).setCell ⟨B, 2, none⟩ v2).cell? ⟨B, 1, none⟩ = some v1 ∧ (((w.setCell ⟨B, 0, none⟩ v0).setCell ⟨B, 1, none⟩ v1).setCell ⟨B, 2, none⟩ v2).cell? ⟨B, 2, none⟩ = some v2 := by
  have T := ((h.put 0 v0).put 1 v1).put 2 v2
  exact ⟨T.c 0 (by decide), T.c 1 (by decide), T.c 2 (by decide)⟩

theorem readF_eq {bs : List Nat} {x n : Nat} {k : Bool} {s1 s2 : Option (List Nat)} (e1 : numR 1 (some bs) = (x, s1)) (e2 : numR 18446744073709551615 s1 = (n, s2)) (hk : ((x : Int) == 1) = k) : readF (some bs) = tailF k n s2 := by
  unfold readF
  rw [e1]
  simp only
  rw [e2]
  simp only
  rw [show decide (x = 1) = k by rw [← hk]; by_cases h : x = 1 <;> simp [h] <;> omega]

/-- What Get leaves. -/
def FGetPost (W : World) (bs : List Nat) (e : Ending) (w' : World) : Prop :=
  ∃ a c, e = .returned (.tuple #[.agg (frmA (gotF bs) a c), .int .i64 (if okF bs then 0 else 2)]) ∧ SlAt bV 256 w' a c (gotF bs).bod ∧ Below W.heap.size W w' ∧ ∀ ad, a = some ad → W.heap.size ≤ ad.block
def RFGetPost (W : World) (bs : List Nat) (e : Ending) (w' : World) : Prop :=
  ∃ a c, e = .returned (.tuple #[.agg (frmA (gotF bs) a c), .bool (okF bs)]) ∧ SlAt bV 256 w' a c (gotF bs).bod ∧ Below W.heap.size W w' ∧ ∀ ad, a = some ad → W.heap.size ≤ ad.block

set_option maxRecDepth 20000 in
set_option maxHeartbeats 16000000 in
theorem fget_any (W : World) (bs : List Nat) (ao : Option Addr) (cap : Nat) (hs : SlAt bV 256 W ao cap bs) (hl : bs.length ≤ 1000000) :
    Calls Try.prog 8 #[.slice ao bs.length cap] W (FGetPost W bs) := by
  have HS := Lib.hid hs
  clear hs
  have T0 := Lib.hid (zf_new W 27)
  have B1 := Lib.hid (below_alloc (Below.refl _ W) (.cells zfA 27))
  have SZ := Lib.hid (show (W.alloc (.cells zfA 27)).heap.size = W.heap.size + 1 by simp)
  obtain ⟨x, s1, e1⟩ : ∃ x s1, numR 1 (some bs) = (x, s1) := ⟨_, _, rfl⟩
  obtain ⟨n, s2, e2⟩ : ∃ n s2, numR 18446744073709551615 s1 = (n, s2) := ⟨_, _, rfl⟩
  have l1 := numR_len 1 (some bs)
  have l2 := numR_len 18446744073709551615 s1
  rw [e1] at l1
  rw [e2] at l2
  have L2 := Lib.hid (show (s2.getD []).length ≤ 1000000 by simp only [Option.getD_some] at l1 l2; omega)
  have NL := Lib.hid (show n < 18446744073709551616 by have := numR_lt 18446744073709551615 s1; rw [e2] at this; exact this)
  clear l1 l2
  obtain ⟨k, hk⟩ : ∃ k, ((x : Int) == 1) = k := ⟨_, rfl⟩
  have RE := Lib.hid (readF_eq e1 e2 hk)
  have E1 := Lib.hid e1
  have E2 := Lib.hid e2
  clear e1 e2
  go_enter Try.func8, Try.ntmps8
  go_wp2_with fail
  generalize W.alloc (.cells zfA 27) = w0 at T0 B1 SZ ⊢
  obtain ⟨A, hA⟩ : ∃ A, W.heap.size = A := ⟨_, rfl⟩
  rw [hA] at T0 ⊢
  have AA := Lib.hid hA
  clear hA
  refine (on_rnew (W := w0) (N := w0.heap.size) (Below.refl _ _) (Nat.le_refl _) (HS.out.below B1.out) rfl (by omega)).mono ?_
  rintro e w1 ⟨p, S, rfl, hR, hb, hp, hS⟩
  have PP := Lib.hid (show A = W.heap.size ∧ A < p ∧ p < w1.heap.size ∧ (∀ k, S k → k < p) ∧ w0.heap.size ≤ p ∧ W.heap.size ≤ w0.heap.size from ⟨AA.out.symm, by have := SZ.out; have := AA.out; omega, by obtain ⟨a, c, hv⟩ := hR.1; exact hv.inP, fun k f => (hS k f).2, hp, by have := SZ.out; omega⟩)
  have R0 : Hid (RdC 3 (w1.alloc (.cells zfA 27)) p w1.heap.size S (some bs) zfV none 0 [] (w1.alloc (.cells zfA 27))) :=
    Lib.hid ⟨hR.1.below (below_alloc (Below.refl _ _) _), zf_new w1 _, Keep.refl _ _, SlAt.none _ _ _, (fun ad e => by cases e), (by have := PP.out; omega), (fun k f => by have := PP.out.2.2.2.1 k f; have := PP.out; omega), (by have := PP.out; simp; omega)⟩
  have T1 := Lib.hid (T0.out.below (hb.trans ((below_alloc (Below.refl _ w1) (.cells zfA 27)).mono hb.size)))
  have B2 := Lib.hid (B1.out.trans ((hb.trans ((below_alloc (Below.refl _ w1) (.cells zfA 27)).mono hb.size)).mono B1.out.size))
  have SB := Lib.hid (show w1.heap.size < (w1.alloc (.cells zfA 27)).heap.size by simp)
  clear hR hb hp hS T0 B1 SZ AA HS hl
  go_wp2_with fail
  generalize w1.alloc (.cells zfA 27) = wb at R0 T1 B2 SB ⊢
  obtain ⟨B, hB⟩ : ∃ B, w1.heap.size = B := ⟨_, rfl⟩
  have QQ := Lib.hid (show A ≠ p ∧ A ≠ B ∧ A = W.heap.size ∧ W.heap.size ≤ p ∧ W.heap.size ≤ B by have := PP.out; omega)
  rw [hB] at R0 SB ⊢
  clear hB PP
  have PP := QQ
  clear QQ
  refine (rdc_num (most := 1) R0.out rfl E1.out).mono ?_
  rintro e w2 ⟨rfl, h⟩
  cases k
  · have cc := h.cel.c 0 (by decide)
    have ff := h.cel.fz 0
    have R1 := Lib.hid (h.put 0 (.bool false))
    clear h R0
    go_wp2_with fail
    generalize w2.setCell ⟨B, 0, none⟩ (.bool false) = v1 at R1 ⊢
    clear cc ff
    refine (rdc_num (most := 18446744073709551615) R1.out rfl E2.out).mono ?_
    rintro e w3 ⟨rfl, h⟩
    have cc := h.cel.c 1 (by decide)
    have ff := h.cel.fz 1
    have R2 := Lib.hid (h.put 1 (.int .u64 (n : Nat)))
    clear h R1 hk
    have k0 : (w3.setCell ⟨B, 1, none⟩ (.int .u64 (n : Nat))).cell? ⟨B, 0, none⟩ = some (.bool false) := R2.out.cel.c 0 (by decide)
    go_wp2_with fail
    generalize w3.setCell ⟨B, 1, none⟩ (.int .u64 (n : Nat)) = v2 at R2 k0 ⊢
    clear cc ff
    obtain ⟨ys, s3, e3⟩ : ∃ ys s3, bytR 30000 s2 = (ys, s3) := ⟨_, _, rfl⟩
    have RF := Lib.hid (show readF (some bs) = (⟨false, n, ys⟩, s3) by rw [RE.out]; unfold tailF; rw [e3]; rfl)
    have E3 := Lib.hid e3
    clear e3 RE
    refine (rdc_bytes (most := 30000) R2.out (by decide) L2.out E3.out).mono ?_
    rintro e w4 ⟨ya, yc, rfl, h, _⟩
    have cc := h.cel.c 2 (by decide)
    have ff := h.cel.fz 2
    have R3 := Lib.hid (h.put 2 (.slice ya ys.length yc))
    clear h R2 k0
    have k0 : (w4.setCell ⟨B, 2, none⟩ (.slice ya ys.length yc)).cell? ⟨B, 0, none⟩ = some (.bool false) := R3.out.cel.c 0 (by decide)
    go_wp2_with fail
    generalize w4.setCell ⟨B, 2, none⟩ (.slice ya ys.length yc) = v4 at R3 k0 ⊢
    clear cc ff
    obtain ⟨b1, hb1⟩ : ∃ b, endR s3 = b := ⟨_, rfl⟩
    obtain ⟨b2, hb2⟩ : ∃ b, goodF ⟨false, n, ys⟩ = b := ⟨_, rfl⟩
    have OK := Lib.hid (show okF bs = (b1 && b2) by unfold okF; rw [RF.out, hb1, hb2])
    have G2 := Lib.hid hb2
    have k1 : v4.cell? ⟨B, 1, none⟩ = some (.int .u64 (n : Nat)) := R3.out.cel.c 1 (by decide)
    have k2 : v4.cell? ⟨B, 2, none⟩ = some (.slice ya ys.length yc) := R3.out.cel.c 2 (by decide)
    have hend := rend_any v4 p _ _ R3.out.rd
    rw [hb1] at hend
    have TA := Lib.hid (T1.out.keep R3.out.kp (by have := PP.out; omega))
    have BE := Lib.hid (B2.out.trans (R3.out.kp.below (N := W.heap.size) B2.out.size (fun k e => by have := PP.out; omega)))
    clear hb1 hb2
    refine hend.mono ?_
    clear hend
    rintro e w' ⟨rfl, rfl⟩
    cases b1
    · have z0 : v4.cell? ⟨A, 0, none⟩ = some (.bool false) := TA.out.c 0 (by decide)
      have z1 : v4.cell? ⟨A, 1, none⟩ = some (.int .u64 0) := TA.out.c 1 (by decide)
      have z2 : v4.cell? ⟨A, 2, none⟩ = some (.slice none 0 0) := TA.out.c 2 (by decide)
      have f0 := TA.out.fz 0
      have f1 := TA.out.fz 1
      have f2 := TA.out.fz 2
      go_wp2_with fail
      obtain ⟨r0, r1, r2⟩ := TA.out.three (.bool false) (.int .u64 0) (.slice none 0 0)
      have HK := Lib.hid (three_set (F := fun k => k = A) (w := v4) (B := A) (.bool false) (.int .u64 0) (.slice none 0 0) rfl)
      clear z0 z1 z2 f0 f1 f2
      generalize ((v4.setCell ⟨A, 0, none⟩ (.bool false)).setCell ⟨A, 1, none⟩ (.int .u64 0)).setCell ⟨A, 2, none⟩ (.slice none 0 0) = wf at r0 r1 r2 HK ⊢
      refine bodyPost_ret (v := .tuple #[.agg zfA, .int .i64 2]) (by simp [results, Try.results8, go_sem, r0, r1, r2]) rfl ?_
      have hO : okF bs = false := by rw [OK.out]; rfl
      have hG : gotF bs = zeroF := by unfold gotF; rw [hO]; rfl
      refine ⟨none, 0, ?_, ?_, ?_, fun ad e => by cases e⟩
      · rw [hO, hG]; try rfl
      · rw [hG]; exact SlAt.none _ _ _
      · exact BE.out.trans (HK.out.below (by have := BE.out.size; omega) (fun k e => by have := PP.out; omega))
    go_wp2_with fail
    refine (fgood_is (f := ⟨false, n, ys⟩) (a := ya) (c := yc) R3.out.sl G2.out).mono ?_
    rintro e w5 ⟨rfl, hb⟩
    have SL := Lib.hid (R3.out.sl.below hb)
    have FR := Lib.hid R3.out.fr
    have TB := Lib.hid (TA.out.below hb)
    have BF := Lib.hid (BE.out.trans (hb.mono BE.out.size))
    have m0 := cell_go k0 hb
    have m1 := cell_go k1 hb
    have m2 := cell_go k2 hb
    clear TA BE hb k0 k1 k2 R3
    have TA := TB
    have BE := BF
    clear TB BF
    cases b2
    · have z0 : w5.cell? ⟨A, 0, none⟩ = some (.bool false) := TA.out.c 0 (by decide)
      have z1 : w5.cell? ⟨A, 1, none⟩ = some (.int .u64 0) := TA.out.c 1 (by decide)
      have z2 : w5.cell? ⟨A, 2, none⟩ = some (.slice none 0 0) := TA.out.c 2 (by decide)
      have f0 := TA.out.fz 0
      have f1 := TA.out.fz 1
      have f2 := TA.out.fz 2
      go_wp2_with fail
      obtain ⟨r0, r1, r2⟩ := TA.out.three (.bool false) (.int .u64 0) (.slice none 0 0)
      have HK := Lib.hid (three_set (F := fun k => k = A) (w := w5) (B := A) (.bool false) (.int .u64 0) (.slice none 0 0) rfl)
      clear z0 z1 z2 f0 f1 f2
      generalize ((w5.setCell ⟨A, 0, none⟩ (.bool false)).setCell ⟨A, 1, none⟩ (.int .u64 0)).setCell ⟨A, 2, none⟩ (.slice none 0 0) = wf at r0 r1 r2 HK ⊢
      refine bodyPost_ret (v := .tuple #[.agg zfA, .int .i64 2]) (by simp [results, Try.results8, go_sem, r0, r1, r2]) rfl ?_
      have hO : okF bs = false := by rw [OK.out]; rfl
      have hG : gotF bs = zeroF := by unfold gotF; rw [hO]; rfl
      refine ⟨none, 0, ?_, ?_, ?_, fun ad e => by cases e⟩
      · rw [hO, hG]; try rfl
      · rw [hG]; exact SlAt.none _ _ _
      · exact BE.out.trans (HK.out.below (by have := BE.out.size; omega) (fun k e => by have := PP.out; omega))
    have z0 : w5.cell? ⟨A, 0, none⟩ = some (.bool false) := TA.out.c 0 (by decide)
    have z1 : w5.cell? ⟨A, 1, none⟩ = some (.int .u64 0) := TA.out.c 1 (by decide)
    have z2 : w5.cell? ⟨A, 2, none⟩ = some (.slice none 0 0) := TA.out.c 2 (by decide)
    have f0 := TA.out.fz 0
    have f1 := TA.out.fz 1
    have f2 := TA.out.fz 2
    go_wp2_with fail
    obtain ⟨r0, r1, r2⟩ := TA.out.three (.bool false) (.int .u64 (n : Nat)) (.slice ya ys.length yc)
    have HK := Lib.hid (three_set (F := fun k => k = A) (w := w5) (B := A) (.bool false) (.int .u64 (n : Nat)) (.slice ya ys.length yc) rfl)
    clear z0 z1 z2 f0 f1 f2
    generalize ((w5.setCell ⟨A, 0, none⟩ (.bool false)).setCell ⟨A, 1, none⟩ (.int .u64 (n : Nat))).setCell ⟨A, 2, none⟩ (.slice ya ys.length yc) = wf at r0 r1 r2 HK ⊢
    refine bodyPost_ret (v := .tuple #[.agg #[.bool false, .int .u64 (n : Nat), .slice ya ys.length yc], .int .i64 0]) (by simp [results, Try.results8, go_sem, r0, r1, r2]) rfl ?_
    have hO : okF bs = true := by rw [OK.out]; rfl
    have hG : gotF bs = ⟨false, n, ys⟩ := by unfold gotF; rw [hO, RF.out]; rfl
    refine ⟨ya, yc, ?_, ?_, ?_, ?_⟩
    · rw [hO, hG]; try rfl
    · rw [hG]; exact SL.out.keep HK.out (fun ad e _ f => by have := FR.out ad e; have := PP.out; have := T1.out.lt; omega)
    · exact BE.out.trans (HK.out.below (by have := BE.out.size; omega) (fun k e => by have := PP.out; omega))
    · exact fun ad e => by have := FR.out ad e; have := B2.out.size; omega
  · have cc := h.cel.c 0 (by decide)
    have ff := h.cel.fz 0
    have R1 := Lib.hid (h.put 0 (.bool true))
    clear h R0
    go_wp2_with fail
    generalize w2.setCell ⟨B, 0, none⟩ (.bool true) = v1 at R1 ⊢
    clear cc ff
    refine (rdc_num (most := 18446744073709551615) R1.out rfl E2.out).mono ?_
    rintro e w3 ⟨rfl, h⟩
    have cc := h.cel.c 1 (by decide)
    have ff := h.cel.fz 1
    have R2 := Lib.hid (h.put 1 (.int .u64 (n : Nat)))
    clear h R1 hk
    have k0 : (w3.setCell ⟨B, 1, none⟩ (.int .u64 (n : Nat))).cell? ⟨B, 0, none⟩ = some (.bool true) := R2.out.cel.c 0 (by decide)
    go_wp2_with fail
    generalize w3.setCell ⟨B, 1, none⟩ (.int .u64 (n : Nat)) = v2 at R2 k0 ⊢
    clear cc ff
    have RF := Lib.hid (show readF (some bs) = (⟨true, n, []⟩, s2) from RE.out)
    have R3 : Hid (RdC 3 wb p B _ s2 _ none 0 [] v2) := R2
    clear R2 RE
    obtain ⟨b1, hb1⟩ : ∃ b, endR s2 = b := ⟨_, rfl⟩
    obtain ⟨b2, hb2⟩ : ∃ b, goodF ⟨true, n, []⟩ = b := ⟨_, rfl⟩
    have OK := Lib.hid (show okF bs = (b1 && b2) by unfold okF; rw [RF.out, hb1, hb2])
    have G2 := Lib.hid hb2
    have k1 : v2.cell? ⟨B, 1, none⟩ = some (.int .u64 (n : Nat)) := R3.out.cel.c 1 (by decide)
    have k2 : v2.cell? ⟨B, 2, none⟩ = some (.slice none 0 0) := R3.out.cel.c 2 (by decide)
    have hend := rend_any v2 p _ _ R3.out.rd
    rw [hb1] at hend
    have TA := Lib.hid (T1.out.keep R3.out.kp (by have := PP.out; omega))
    have BE := Lib.hid (B2.out.trans (R3.out.kp.below (N := W.heap.size) B2.out.size (fun k e => by have := PP.out; omega)))
    clear hb1 hb2
    refine hend.mono ?_
    clear hend
    rintro e w' ⟨rfl, rfl⟩
    cases b1
    · have z0 : v2.cell? ⟨A, 0, none⟩ = some (.bool false) := TA.out.c 0 (by decide)
      have z1 : v2.cell? ⟨A, 1, none⟩ = some (.int .u64 0) := TA.out.c 1 (by decide)
      have z2 : v2.cell? ⟨A, 2, none⟩ = some (.slice none 0 0) := TA.out.c 2 (by decide)
      have f0 := TA.out.fz 0
      have f1 := TA.out.fz 1
      have f2 := TA.out.fz 2
      go_wp2_with fail
      obtain ⟨r0, r1, r2⟩ := TA.out.three (.bool false) (.int .u64 0) (.slice none 0 0)
      have HK := Lib.hid (three_set (F := fun k => k = A) (w := v2) (B := A) (.bool false) (.int .u64 0) (.slice none 0 0) rfl)
      clear z0 z1 z2 f0 f1 f2
      generalize ((v2.setCell ⟨A, 0, none⟩ (.bool false)).setCell ⟨A, 1, none⟩ (.int .u64 0)).setCell ⟨A, 2, none⟩ (.slice none 0 0) = wf at r0 r1 r2 HK ⊢
      refine bodyPost_ret (v := .tuple #[.agg zfA, .int .i64 2]) (by simp [results, Try.results8, go_sem, r0, r1, r2]) rfl ?_
      have hO : okF bs = false := by rw [OK.out]; rfl
      have hG : gotF bs = zeroF := by unfold gotF; rw [hO]; rfl
      refine ⟨none, 0, ?_, ?_, ?_, fun ad e => by cases e⟩
      · rw [hO, hG]; try rfl
      · rw [hG]; exact SlAt.none _ _ _
      · exact BE.out.trans (HK.out.below (by have := BE.out.size; omega) (fun k e => by have := PP.out; omega))
    go_wp2_with fail
    refine (fgood_is (f := ⟨true, n, []⟩) (a := none) (c := 0) (SlAt.none _ _ _) G2.out).mono ?_
    rintro e w5 ⟨rfl, hb⟩
    have TB := Lib.hid (TA.out.below hb)
    have BF := Lib.hid (BE.out.trans (hb.mono BE.out.size))
    have m0 := cell_go k0 hb
    have m1 := cell_go k1 hb
    have m2 := cell_go k2 hb
    clear TA BE hb k0 k1 k2 R3
    have TA := TB
    have BE := BF
    clear TB BF
    cases b2
    · have z0 : w5.cell? ⟨A, 0, none⟩ = some (.bool false) := TA.out.c 0 (by decide)
      have z1 : w5.cell? ⟨A, 1, none⟩ = some (.int .u64 0) := TA.out.c 1 (by decide)
      have z2 : w5.cell? ⟨A, 2, none⟩ = some (.slice none 0 0) := TA.out.c 2 (by decide)
      have f0 := TA.out.fz 0
      have f1 := TA.out.fz 1
      have f2 := TA.out.fz 2
      go_wp2_with fail
      obtain ⟨r0, r1, r2⟩ := TA.out.three (.bool false) (.int .u64 0) (.slice none 0 0)
      have HK := Lib.hid (three_set (F := fun k => k = A) (w := w5) (B := A) (.bool false) (.int .u64 0) (.slice none 0 0) rfl)
      clear z0 z1 z2 f0 f1 f2
      generalize ((w5.setCell ⟨A, 0, none⟩ (.bool false)).setCell ⟨A, 1, none⟩ (.int .u64 0)).setCell ⟨A, 2, none⟩ (.slice none 0 0) = wf at r0 r1 r2 HK ⊢
      refine bodyPost_ret (v := .tuple #[.agg zfA, .int .i64 2]) (by simp [results, Try.results8, go_sem, r0, r1, r2]) rfl ?_
      have hO : okF bs = false := by rw [OK.out]; rfl
      have hG : gotF bs = zeroF := by unfold gotF; rw [hO]; rfl
      refine ⟨none, 0, ?_, ?_, ?_, fun ad e => by cases e⟩
      · rw [hO, hG]; try rfl
      · rw [hG]; exact SlAt.none _ _ _
      · exact BE.out.trans (HK.out.below (by have := BE.out.size; omega) (fun k e => by have := PP.out; omega))
    have z0 : w5.cell? ⟨A, 0, none⟩ = some (.bool false) := TA.out.c 0 (by decide)
    have z1 : w5.cell? ⟨A, 1, none⟩ = some (.int .u64 0) := TA.out.c 1 (by decide)
    have z2 : w5.cell? ⟨A, 2, none⟩ = some (.slice none 0 0) := TA.out.c 2 (by decide)
    have f0 := TA.out.fz 0
    have f1 := TA.out.fz 1
    have f2 := TA.out.fz 2
    go_wp2_with fail
    obtain ⟨r0, r1, r2⟩ := TA.out.three (.bool true) (.int .u64 (n : Nat)) (.slice none 0 0)
    have HK := Lib.hid (three_set (F := fun k => k = A) (w := w5) (B := A) (.bool true) (.int .u64 (n : Nat)) (.slice none 0 0) rfl)
    clear z0 z1 z2 f0 f1 f2
    generalize ((w5.setCell ⟨A, 0, none⟩ (.bool true)).setCell ⟨A, 1, none⟩ (.int .u64 (n : Nat))).setCell ⟨A, 2, none⟩ (.slice none 0 0) = wf at r0 r1 r2 HK ⊢
    refine bodyPost_ret (v := .tuple #[.agg #[.bool true, .int .u64 (n : Nat), .slice none 0 0], .int .i64 0]) (by simp [results, Try.results8, go_sem, r0, r1, r2]) rfl ?_
    have hO : okF bs = true := by rw [OK.out]; rfl
    have hG : gotF bs = ⟨true, n, []⟩ := by unfold gotF; rw [hO, RF.out]; rfl
    refine ⟨none, 0, ?_, ?_, ?_, ?_⟩
    · rw [hO, hG]; try rfl
    · rw [hG]; exact SlAt.none _ _ _
    · exact BE.out.trans (HK.out.below (by have := BE.out.size; omega) (fun k e => by have := PP.out; omega))
    · exact fun ad e => by cases e
theorem fget_of {W : World} {bs : List Nat} {ao : Option Addr} {cap len : Nat} {x : Frm} {ok : Bool} (hs : SlAt bV 256 W ao cap bs) (hlen : bs.length = len) (hl : len ≤ 1000000) (hg : gotF bs = x) (ho : okF bs = ok) :
    Calls Try.prog 8 #[.slice ao len cap] W fun e w' => ∃ a c, e = .returned (.tuple #[.agg (frmA x a c), .int .i64 (if ok then 0 else 2)]) ∧ SlAt bV 256 w' a c x.bod ∧ Below W.heap.size W w' ∧ ∀ ad, a = some ad → W.heap.size ≤ ad.block := by
  subst hlen hg ho
  exact fget_any W bs ao cap hs hl

end Go.Proofs.Ythnglifjijfplaa
