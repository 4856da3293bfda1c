/-
  A frame out of bytes, the document's own.
-/
import Derived.Test.YthnglifjijfplaaFget
import Derived.Test.YthnglifjijfplaaFrput
namespace Go.Proofs.Ythnglifjijfplaa
open Go.RowKit

theorem zf_first (w : World) (b : Bool) (t : TypeId) : Cel 3 (w.alloc (.cells #[.bool b, .int .u64 0, .slice none 0 0] t)) w.heap.size (updc zfV 0 (.bool b)) := by
  refine ⟨fun o ho => ?_, fun o => by simp, by simp⟩
  rcases (show o = 0 ∨ o = 1 ∨ o = 2 by omega) with rfl | rfl | rfl <;> simp [zfV, updc]

set_option maxRecDepth 20000 in
set_option maxHeartbeats 16000000 in
theorem rfget_any (W : World) (bs : List Nat) (ao : Option Addr) (cap : Nat) (hs : SlAt bV 256 W ao cap bs) (hl : bs.length ≤ 1000000) :
    Calls Try.prog 10 #[.slice ao bs.length cap] W (RFGetPost W bs) := by
  have HS := Lib.hid hs
  clear hs
  have T0 := Lib.hid (zf_new W 32)
  have B1 := Lib.hid (below_alloc (Below.refl _ W) (.cells zfA 32))
  have SZ := Lib.hid (show (W.alloc (.cells zfA 32)).heap.size = W.heap.size + 1 by simp)
  obtain ⟨x, s1, e1⟩ : ∃ x s1, numR 1 (some bs) = (x, s1) := ⟨_, _, rfl⟩
  obtain ⟨n, s2, e2⟩ : ∃ n s2, numR 18446744073709551615 s1 = (n, s2) := ⟨_, _, rfl⟩
  have l1 := numR_len 1 (some bs)
  have l2 := numR_len 18446744073709551615 s1
  rw [e1] at l1
  rw [e2] at l2
  have L2 := Lib.hid (show (s2.getD []).length ≤ 1000000 by simp only [Option.getD_some] at l1 l2; omega)
  have NL := Lib.hid (show n < 18446744073709551616 by have := numR_lt 18446744073709551615 s1; rw [e2] at this; exact this)
  clear l1 l2
  obtain ⟨k, hk⟩ : ∃ k, ((x : Int) == 1) = k := ⟨_, rfl⟩
  have RE := Lib.hid (readF_eq e1 e2 hk)
  have E1 := Lib.hid e1
  have E2 := Lib.hid e2
  clear e1 e2
  have RB := Lib.hid (rd_box (t := 51) HS.out B1.out)
  have B2 := Lib.hid (below_alloc B1.out (.cells #[.slice ao bs.length cap, .bool false] 51))
  have T1 := Lib.hid (T0.out.below (below_alloc (Below.refl _ _) (.cells #[.slice ao bs.length cap, .bool false] 51)))
  rw [SZ.out] at RB
  have SZ2 := Lib.hid (show ((W.alloc (.cells zfA 32)).alloc (.cells #[.slice ao bs.length cap, .bool false] 51)).heap.size = W.heap.size + 2 by simp)
  clear hl B1 T0 SZ
  go_enter Try.func10, Try.ntmps10
  go_wp2_with fail
  generalize (W.alloc (.cells zfA 32)).alloc (.cells #[.slice ao bs.length cap, .bool false] 51) = w0 at RB B2 T1 SZ2 ⊢
  obtain ⟨p, hp⟩ : ∃ p, W.heap.size + 1 = p := ⟨_, rfl⟩
  obtain ⟨A, hA⟩ : ∃ A, W.heap.size = A := ⟨_, rfl⟩
  have PP := Lib.hid (show A = W.heap.size ∧ p = A + 1 ∧ p < w0.heap.size by have := SZ2.out; omega)
  rw [hp] at RB ⊢
  rw [hA] at T1 ⊢
  clear hp hA SZ2
  have C1 := rrnum_any w0 p _ _ 1 RB.out
  rw [E1.out] at C1
  refine C1.mono ?_
  clear C1
  rintro e w1 ⟨rfl, hA1, hK1⟩
  cases k
  · have zz := zf_first w1 false 32
    have R1 : Hid (RdC 3 (w1.alloc (.cells #[.bool false, .int .u64 0, .slice none 0 0] 32)) p w1.heap.size (fun k => k < W.heap.size) s1 (updc zfV 0 (.bool false)) none 0 [] (w1.alloc (.cells #[.bool false, .int .u64 0, .slice none 0 0] 32))) :=
      Lib.hid ⟨hA1.below (below_alloc (Below.refl _ _) _), zz, Keep.refl _ _, SlAt.none _ _ _, (fun ad e => by cases e), (by have := PP.out; have := hK1.size; omega), (fun k f => by have := PP.out; have := hK1.size; omega), (by have := PP.out; have := hK1.size; simp; omega)⟩
    have T2 := Lib.hid ((T1.out.keep hK1 (by have := PP.out; omega)).below (below_alloc (Below.refl _ w1) (.cells #[.bool false, .int .u64 0, .slice none 0 0] 32)))
    have B3 := Lib.hid ((B2.out.trans (hK1.below (N := W.heap.size) (by have := PP.out; omega) (fun k e => by have := PP.out; omega))).alloc (by have := PP.out; have := hK1.size; omega) (.cells #[.bool false, .int .u64 0, .slice none 0 0] 32))
    have QQ := Lib.hid (show A ≠ p ∧ A ≠ w1.heap.size ∧ A = W.heap.size ∧ W.heap.size ≤ p ∧ W.heap.size ≤ w1.heap.size by have := PP.out; have := hK1.size; omega)
    have HS2 := Lib.hid (show ∀ k, k < W.heap.size → k < (w1.alloc (.cells #[.bool false, .int .u64 0, .slice none 0 0] 32)).heap.size from fun k f => by have := PP.out; have := hK1.size; simp; omega)
    clear hA1 hK1 T1 B2 RB zz PP
    have PP := QQ
    clear QQ
    go_wp2_with fail
    generalize w1.alloc (.cells #[.bool false, .int .u64 0, .slice none 0 0] 32) = wb at R1 T2 B3 HS2 ⊢
    have T1 := T2
    have B2 := B3
    clear T2 B3
    obtain ⟨B, hB⟩ : ∃ B, w1.heap.size = B := ⟨_, rfl⟩
    rw [hB] at R1 PP ⊢
    clear hB
    refine (rrdc_num (most := 18446744073709551615) R1.out rfl E2.out).mono ?_
    rintro e w3 ⟨rfl, h⟩
    have cc := h.cel.c 1 (by decide)
    have ff := h.cel.fz 1
    have R2 := Lib.hid (h.put 1 (.int .u64 (n : Nat)))
    clear h R1 hk
    have k0 : (w3.setCell ⟨B, 1, none⟩ (.int .u64 (n : Nat))).cell? ⟨B, 0, none⟩ = some (.bool false) := R2.out.cel.c 0 (by decide)
    go_wp2_with fail
    generalize w3.setCell ⟨B, 1, none⟩ (.int .u64 (n : Nat)) = v2 at R2 k0 ⊢
    clear cc ff
    obtain ⟨ys, s3, e3⟩ : ∃ ys s3, bytR 30000 s2 = (ys, s3) := ⟨_, _, rfl⟩
    have RF := Lib.hid (show readF (some bs) = (⟨false, n, ys⟩, s3) by rw [RE.out]; unfold tailF; rw [e3]; rfl)
    have E3 := Lib.hid e3
    clear e3 RE
    refine (rrdc_bytes (most := 30000) R2.out HS2.out (by decide) L2.out E3.out).mono ?_
    rintro e w4 ⟨ya, yc, rfl, h, _⟩
    have cc := h.cel.c 2 (by decide)
    have ff := h.cel.fz 2
    have R3 := Lib.hid (h.put 2 (.slice ya ys.length yc))
    clear h R2 k0
    have k0 : (w4.setCell ⟨B, 2, none⟩ (.slice ya ys.length yc)).cell? ⟨B, 0, none⟩ = some (.bool false) := R3.out.cel.c 0 (by decide)
    go_wp2_with fail
    generalize w4.setCell ⟨B, 2, none⟩ (.slice ya ys.length yc) = v4 at R3 k0 ⊢
    clear cc ff
    obtain ⟨b1, hb1⟩ : ∃ b, endR s3 = b := ⟨_, rfl⟩
    obtain ⟨b2, hb2⟩ : ∃ b, goodF ⟨false, n, ys⟩ = b := ⟨_, rfl⟩
    have OK := Lib.hid (show okF bs = (b1 && b2) by unfold okF; rw [RF.out, hb1, hb2])
    have G2 := Lib.hid hb2
    have k1 : v4.cell? ⟨B, 1, none⟩ = some (.int .u64 (n : Nat)) := R3.out.cel.c 1 (by decide)
    have k2 : v4.cell? ⟨B, 2, none⟩ = some (.slice ya ys.length yc) := R3.out.cel.c 2 (by decide)
    have hend := rrend_any v4 p _ _ R3.out.rd
    rw [hb1] at hend
    have TA := Lib.hid (T1.out.keep R3.out.kp (by have := PP.out; omega))
    have BE := Lib.hid (B2.out.trans (R3.out.kp.below (N := W.heap.size) B2.out.size (fun k e => by have := PP.out; omega)))
    clear hb1 hb2
    refine hend.mono ?_
    clear hend
    rintro e w' ⟨rfl, rfl⟩
    cases b1
    · have z0 : v4.cell? ⟨A, 0, none⟩ = some (.bool false) := TA.out.c 0 (by decide)
      have z1 : v4.cell? ⟨A, 1, none⟩ = some (.int .u64 0) := TA.out.c 1 (by decide)
      have z2 : v4.cell? ⟨A, 2, none⟩ = some (.slice none 0 0) := TA.out.c 2 (by decide)
      have f0 := TA.out.fz 0
      have f1 := TA.out.fz 1
      have f2 := TA.out.fz 2
      go_wp2_with fail
      obtain ⟨r0, r1, r2⟩ := TA.out.three (.bool false) (.int .u64 0) (.slice none 0 0)
      have HK := Lib.hid (three_set (F := fun k => k = A) (w := v4) (B := A) (.bool false) (.int .u64 0) (.slice none 0 0) rfl)
      clear z0 z1 z2 f0 f1 f2
      generalize ((v4.setCell ⟨A, 0, none⟩ (.bool false)).setCell ⟨A, 1, none⟩ (.int .u64 0)).setCell ⟨A, 2, none⟩ (.slice none 0 0) = wf at r0 r1 r2 HK ⊢
      refine bodyPost_ret (v := .tuple #[.agg zfA, .bool false]) (by simp [results, Try.results10, go_sem, r0, r1, r2]) rfl ?_
      have hO : okF bs = false := by rw [OK.out]; rfl
      have hG : gotF bs = zeroF := by unfold gotF; rw [hO]; rfl
      refine ⟨none, 0, ?_, ?_, ?_, fun ad e => by cases e⟩
      · rw [hO, hG]; try rfl
      · rw [hG]; exact SlAt.none _ _ _
      · exact BE.out.trans (HK.out.below (by have := BE.out.size; omega) (fun k e => by have := PP.out; omega))
    have SL := Lib.hid R3.out.sl
    have FR := Lib.hid R3.out.fr
    cases b2
    · have d0 : n = 0 := by
        have h1 := goodF_read (some bs)
        rw [RF.out, G2.out] at h1
        simp at h1
        exact h1
      have d1 : ((n : Int) == 0) = true := by rw [d0]; rfl
      clear d0
      have z0 : v4.cell? ⟨A, 0, none⟩ = some (.bool false) := TA.out.c 0 (by decide)
      have z1 : v4.cell? ⟨A, 1, none⟩ = some (.int .u64 0) := TA.out.c 1 (by decide)
      have z2 : v4.cell? ⟨A, 2, none⟩ = some (.slice none 0 0) := TA.out.c 2 (by decide)
      have f0 := TA.out.fz 0
      have f1 := TA.out.fz 1
      have f2 := TA.out.fz 2
      go_wp2_with fail
      obtain ⟨r0, r1, r2⟩ := TA.out.three (.bool false) (.int .u64 0) (.slice none 0 0)
      have HK := Lib.hid (three_set (F := fun k => k = A) (w := v4) (B := A) (.bool false) (.int .u64 0) (.slice none 0 0) rfl)
      clear z0 z1 z2 f0 f1 f2
      generalize ((v4.setCell ⟨A, 0, none⟩ (.bool false)).setCell ⟨A, 1, none⟩ (.int .u64 0)).setCell ⟨A, 2, none⟩ (.slice none 0 0) = wf at r0 r1 r2 HK ⊢
      refine bodyPost_ret (v := .tuple #[.agg zfA, .bool false]) (by simp [results, Try.results10, go_sem, r0, r1, r2]) rfl ?_
      have hO : okF bs = false := by rw [OK.out]; rfl
      have hG : gotF bs = zeroF := by unfold gotF; rw [hO]; rfl
      refine ⟨none, 0, ?_, ?_, ?_, fun ad e => by cases e⟩
      · rw [hO, hG]; try rfl
      · rw [hG]; exact SlAt.none _ _ _
      · exact BE.out.trans (HK.out.below (by have := BE.out.size; omega) (fun k e => by have := PP.out; omega))
    have d1 : ((n : Int) == 0) = false := by
      have h1 := G2.out
      simp only [goodF, Bool.false_eq_true, if_false, decide_eq_true_eq] at h1
      simp
      omega
    have z0 : v4.cell? ⟨A, 0, none⟩ = some (.bool false) := TA.out.c 0 (by decide)
    have z1 : v4.cell? ⟨A, 1, none⟩ = some (.int .u64 0) := TA.out.c 1 (by decide)
    have z2 : v4.cell? ⟨A, 2, none⟩ = some (.slice none 0 0) := TA.out.c 2 (by decide)
    have f0 := TA.out.fz 0
    have f1 := TA.out.fz 1
    have f2 := TA.out.fz 2
    go_wp2_with fail
    obtain ⟨r0, r1, r2⟩ := TA.out.three (.bool false) (.int .u64 (n : Nat)) (.slice ya ys.length yc)
    have HK := Lib.hid (three_set (F := fun k => k = A) (w := v4) (B := A) (.bool false) (.int .u64 (n : Nat)) (.slice ya ys.length yc) rfl)
    clear z0 z1 z2 f0 f1 f2
    generalize ((v4.setCell ⟨A, 0, none⟩ (.bool false)).setCell ⟨A, 1, none⟩ (.int .u64 (n : Nat))).setCell ⟨A, 2, none⟩ (.slice ya ys.length yc) = wf at r0 r1 r2 HK ⊢
    refine bodyPost_ret (v := .tuple #[.agg #[.bool false, .int .u64 (n : Nat), .slice ya ys.length yc], .bool true]) (by simp [results, Try.results10, go_sem, r0, r1, r2]) rfl ?_
    have hO : okF bs = true := by rw [OK.out]; rfl
    have hG : gotF bs = ⟨false, n, ys⟩ := by unfold gotF; rw [hO, RF.out]; rfl
    refine ⟨ya, yc, ?_, ?_, ?_, ?_⟩
    · rw [hO, hG]; try rfl
    · rw [hG]; exact SL.out.keep HK.out (fun ad e _ f => by have := FR.out ad e; have := PP.out; have := T1.out.lt; omega)
    · exact BE.out.trans (HK.out.below (by have := BE.out.size; omega) (fun k e => by have := PP.out; omega))
    · exact fun ad e => by have := FR.out ad e; have := B2.out.size; omega
  · have zz := zf_first w1 true 32
    have R1 : Hid (RdC 3 (w1.alloc (.cells #[.bool true, .int .u64 0, .slice none 0 0] 32)) p w1.heap.size (fun k => k < W.heap.size) s1 (updc zfV 0 (.bool true)) none 0 [] (w1.alloc (.cells #[.bool true, .int .u64 0, .slice none 0 0] 32))) :=
      Lib.hid ⟨hA1.below (below_alloc (Below.refl _ _) _), zz, Keep.refl _ _, SlAt.none _ _ _, (fun ad e => by cases e), (by have := PP.out; have := hK1.size; omega), (fun k f => by have := PP.out; have := hK1.size; omega), (by have := PP.out; have := hK1.size; simp; omega)⟩
    have T2 := Lib.hid ((T1.out.keep hK1 (by have := PP.out; omega)).below (below_alloc (Below.refl _ w1) (.cells #[.bool true, .int .u64 0, .slice none 0 0] 32)))
    have B3 := Lib.hid ((B2.out.trans (hK1.below (N := W.heap.size) (by have := PP.out; omega) (fun k e => by have := PP.out; omega))).alloc (by have := PP.out; have := hK1.size; omega) (.cells #[.bool true, .int .u64 0, .slice none 0 0] 32))
    have QQ := Lib.hid (show A ≠ p ∧ A ≠ w1.heap.size ∧ A = W.heap.size ∧ W.heap.size ≤ p ∧ W.heap.size ≤ w1.heap.size by have := PP.out; have := hK1.size; omega)
    have HS2 := Lib.hid (show ∀ k, k < W.heap.size → k < (w1.alloc (.cells #[.bool true, .int .u64 0, .slice none 0 0] 32)).heap.size from fun k f => by have := PP.out; have := hK1.size; simp; omega)
    clear hA1 hK1 T1 B2 RB zz PP
    have PP := QQ
    clear QQ
    go_wp2_with fail
    generalize w1.alloc (.cells #[.bool true, .int .u64 0, .slice none 0 0] 32) = wb at R1 T2 B3 HS2 ⊢
    have T1 := T2
    have B2 := B3
    clear T2 B3
    obtain ⟨B, hB⟩ : ∃ B, w1.heap.size = B := ⟨_, rfl⟩
    rw [hB] at R1 PP ⊢
    clear hB
    refine (rrdc_num (most := 18446744073709551615) R1.out rfl E2.out).mono ?_
    rintro e w3 ⟨rfl, h⟩
    have cc := h.cel.c 1 (by decide)
    have ff := h.cel.fz 1
    have R2 := Lib.hid (h.put 1 (.int .u64 (n : Nat)))
    clear h R1 hk
    have k0 : (w3.setCell ⟨B, 1, none⟩ (.int .u64 (n : Nat))).cell? ⟨B, 0, none⟩ = some (.bool true) := R2.out.cel.c 0 (by decide)
    go_wp2_with fail
    generalize w3.setCell ⟨B, 1, none⟩ (.int .u64 (n : Nat)) = v2 at R2 k0 ⊢
    clear cc ff
    have RF := Lib.hid (show readF (some bs) = (⟨true, n, []⟩, s2) from RE.out)
    have R3 : Hid (RdC 3 wb p B _ s2 _ none 0 [] v2) := R2
    clear R2 RE
    obtain ⟨b1, hb1⟩ : ∃ b, endR s2 = b := ⟨_, rfl⟩
    obtain ⟨b2, hb2⟩ : ∃ b, goodF ⟨true, n, []⟩ = b := ⟨_, rfl⟩
    have OK := Lib.hid (show okF bs = (b1 && b2) by unfold okF; rw [RF.out, hb1, hb2])
    have G2 := Lib.hid hb2
    have k1 : v2.cell? ⟨B, 1, none⟩ = some (.int .u64 (n : Nat)) := R3.out.cel.c 1 (by decide)
    have k2 : v2.cell? ⟨B, 2, none⟩ = some (.slice none 0 0) := R3.out.cel.c 2 (by decide)
    have hend := rrend_any v2 p _ _ R3.out.rd
    rw [hb1] at hend
    have TA := Lib.hid (T1.out.keep R3.out.kp (by have := PP.out; omega))
    have BE := Lib.hid (B2.out.trans (R3.out.kp.below (N := W.heap.size) B2.out.size (fun k e => by have := PP.out; omega)))
    clear hb1 hb2
    refine hend.mono ?_
    clear hend
    rintro e w' ⟨rfl, rfl⟩
    cases b1
    · have z0 : v2.cell? ⟨A, 0, none⟩ = some (.bool false) := TA.out.c 0 (by decide)
      have z1 : v2.cell? ⟨A, 1, none⟩ = some (.int .u64 0) := TA.out.c 1 (by decide)
      have z2 : v2.cell? ⟨A, 2, none⟩ = some (.slice none 0 0) := TA.out.c 2 (by decide)
      have f0 := TA.out.fz 0
      have f1 := TA.out.fz 1
      have f2 := TA.out.fz 2
      go_wp2_with fail
      obtain ⟨r0, r1, r2⟩ := TA.out.three (.bool false) (.int .u64 0) (.slice none 0 0)
      have HK := Lib.hid (three_set (F := fun k => k = A) (w := v2) (B := A) (.bool false) (.int .u64 0) (.slice none 0 0) rfl)
      clear z0 z1 z2 f0 f1 f2
      generalize ((v2.setCell ⟨A, 0, none⟩ (.bool false)).setCell ⟨A, 1, none⟩ (.int .u64 0)).setCell ⟨A, 2, none⟩ (.slice none 0 0) = wf at r0 r1 r2 HK ⊢
      refine bodyPost_ret (v := .tuple #[.agg zfA, .bool false]) (by simp [results, Try.results10, go_sem, r0, r1, r2]) rfl ?_
      have hO : okF bs = false := by rw [OK.out]; rfl
      have hG : gotF bs = zeroF := by unfold gotF; rw [hO]; rfl
      refine ⟨none, 0, ?_, ?_, ?_, fun ad e => by cases e⟩
      · rw [hO, hG]; try rfl
      · rw [hG]; exact SlAt.none _ _ _
      · exact BE.out.trans (HK.out.below (by have := BE.out.size; omega) (fun k e => by have := PP.out; omega))
    obtain rfl : b2 = true := G2.out.symm.trans rfl
    have z0 : v2.cell? ⟨A, 0, none⟩ = some (.bool false) := TA.out.c 0 (by decide)
    have z1 : v2.cell? ⟨A, 1, none⟩ = some (.int .u64 0) := TA.out.c 1 (by decide)
    have z2 : v2.cell? ⟨A, 2, none⟩ = some (.slice none 0 0) := TA.out.c 2 (by decide)
    have f0 := TA.out.fz 0
    have f1 := TA.out.fz 1
    have f2 := TA.out.fz 2
    go_wp2_with fail
    obtain ⟨r0, r1, r2⟩ := TA.out.three (.bool true) (.int .u64 (n : Nat)) (.slice none 0 0)
    have HK := Lib.hid (three_set (F := fun k => k = A) (w := v2) (B := A) (.bool true) (.int .u64 (n : Nat)) (.slice none 0 0) rfl)
    clear z0 z1 z2 f0 f1 f2
    generalize ((v2.setCell ⟨A, 0, none⟩ (.bool true)).setCell ⟨A, 1, none⟩ (.int .u64 (n : Nat))).setCell ⟨A, 2, none⟩ (.slice none 0 0) = wf at r0 r1 r2 HK ⊢
    refine bodyPost_ret (v := .tuple #[.agg #[.bool true, .int .u64 (n : Nat), .slice none 0 0], .bool true]) (by simp [results, Try.results10, go_sem, r0, r1, r2]) rfl ?_
    have hO : okF bs = true := by rw [OK.out]; rfl
    have hG : gotF bs = ⟨true, n, []⟩ := by unfold gotF; rw [hO, RF.out]; rfl
    refine ⟨none, 0, ?_, ?_, ?_, ?_⟩
    · rw [hO, hG]; try rfl
    · rw [hG]; exact SlAt.none _ _ _
    · exact BE.out.trans (HK.out.below (by have := BE.out.size; omega) (fun k e => by have := PP.out; omega))
    · exact fun ad e => by cases e
theorem rfget_of {W : World} {bs : List Nat} {ao : Option Addr} {cap len : Nat} {x : Frm} {ok : Bool} (hs : SlAt bV 256 W ao cap bs) (hlen : bs.length = len) (hl : len ≤ 1000000) (hg : gotF bs = x) (ho : okF bs = ok) :
    Calls Try.prog 10 #[.slice ao len cap] W fun e w' => ∃ a c, e = .returned (.tuple #[.agg (frmA x a c), .bool ok]) ∧ SlAt bV 256 w' a c x.bod ∧ Below W.heap.size W w' ∧ ∀ ad, a = some ad → W.heap.size ≤ ad.block := by
  subst hlen hg ho
  exact rfget_any W bs ao cap hs hl

end Go.Proofs.Ythnglifjijfplaa
