/-
  Get: a message out of bytes.
-/
import Derived.Test.YtjdnaonhfacpoaaJread
namespace Go.Proofs.Ytjdnaonhfacpoaa
open Go.RowKit

/-- Ten cells as a message's. -/
abbrev setM (w : World) (B : Nat) (m : Msg) (ba : Option Addr) (bc : Nat) (sa : Option Addr) (sc : Nat) : World :=
  (((((((((w.setCell ⟨B, 0, none⟩ (.int .i64 m.frm)).setCell ⟨B, 1, none⟩ (.int .u64 (m.num : Nat))).setCell ⟨B, 2, none⟩ (.int .u64 (m.to : Nat))).setCell ⟨B, 3, none⟩ (.int .i64 m.kind)).setCell ⟨B, 4, none⟩ (.int .i64 m.vr)).setCell ⟨B, 5, none⟩ (.float .f64 m.val)).setCell ⟨B, 6, none⟩ (.int .i64 m.wri)).setCell ⟨B, 7, none⟩ (.int .u64 (m.tag : Nat))).setCell ⟨B, 8, none⟩ (.slice ba m.bod.length bc)).setCell ⟨B, 9, none⟩ (.slice sa m.stp.length sc)
theorem set_cells {w : World} {B : Nat} {V : Nat → Value} (h : Ten w B V) (m : Msg) (ba : Option Addr) (bc : Nat) (sa : Option Addr) (sc : Nat) : MsgB (setM w B m ba bc sa sc) B m ba bc sa sc := by
  have TF := ((((((((((h.put 0 (.int .i64 m.frm)).put 1 (.int .u64 (m.num : Nat))).put 2 (.int .u64 (m.to : Nat))).put 3 (.int .i64 m.kind)).put 4 (.int .i64 m.vr)).put 5 (.float .f64 m.val)).put 6 (.int .i64 m.wri)).put 7 (.int .u64 (m.tag : Nat))).put 8 (.slice ba m.bod.length bc)).put 9 (.slice sa m.stp.length sc))
  exact ⟨TF.c 0 (by decide), TF.c 1 (by decide), TF.c 2 (by decide), TF.c 3 (by decide), TF.c 4 (by decide), TF.c 5 (by decide), TF.c 6 (by decide), TF.c 7 (by decide), TF.c 8 (by decide), TF.c 9 (by decide)⟩
theorem set_keep (w : World) (B : Nat) (m : Msg) (ba : Option Addr) (bc : Nat) (sa : Option Addr) (sc : Nat) : Keep (fun k => k = B) w (setM w B m ba bc sa sc) :=
  ten_set (F := fun k => k = B) (w := w) (B := B) _ _ _ _ _ _ _ _ _ _ rfl
theorem set_below {N : Nat} {W w : World} {B : Nat} (m : Msg) (ba : Option Addr) (bc : Nat) (sa : Option Addr) (sc : Nat) (h : Below N W w) (hN : N ≤ W.heap.size) (hB : N ≤ B) : Below N W (setM w B m ba bc sa sc) :=
  h.trans ((set_keep w B m ba bc sa sc).below (Nat.le_trans hN h.size) (fun _ e => e ▸ hB))

abbrev setZ (w : World) (B : Nat) : World :=
  (((((((((w.setCell ⟨B, 0, none⟩ (.int .i64 0)).setCell ⟨B, 1, none⟩ (.int .u64 0)).setCell ⟨B, 2, none⟩ (.int .u64 0)).setCell ⟨B, 3, none⟩ (.int .i64 0)).setCell ⟨B, 4, none⟩ (.int .i64 0)).setCell ⟨B, 5, none⟩ (.float .f64 0)).setCell ⟨B, 6, none⟩ (.int .i64 0)).setCell ⟨B, 7, none⟩ (.int .u64 0)).setCell ⟨B, 8, none⟩ (.slice none 0 0)).setCell ⟨B, 9, none⟩ (.slice none 0 0)
theorem setz_cells {w : World} {B : Nat} {V : Nat → Value} (h : Ten w B V) : MsgB (setZ w B) B zeroM none 0 none 0 := set_cells h zeroM none 0 none 0
theorem setz_keep (w : World) (B : Nat) : Keep (fun k => k = B) w (setZ w B) := set_keep w B zeroM none 0 none 0

/-- What Get leaves. -/
def GetPost (W : World) (bs : List Nat) (e : Ending) (w' : World) : Prop :=
  ∃ ba bc sa sc, e = .returned (.tuple #[.agg (msgA (gotM bs) ba bc sa sc), .int .i64 (if okM bs then 0 else 2)]) ∧ MsgS w' (gotM bs) ba bc sa sc ∧ Below W.heap.size W w'

theorem msgS_none (w : World) : MsgS w zeroM none 0 none 0 := ⟨SlAt.none _ _ _, SlAt.none _ _ _⟩

set_option maxRecDepth 20000 in
set_option maxHeartbeats 16000000 in
theorem mget_any (W : World) (bs : List Nat) (ao : Option Addr) (cap : Nat) (hs : SlAt bV 256 W ao cap bs) (hl : bs.length ≤ 1000000) :
    Calls Try.prog 14 #[.slice ao bs.length cap] W (GetPost W bs) := by
  have hst := store_float
  have HS := Lib.hid hs
  have hlt := Lib.hid hs.lt
  clear hs
  have T0 := Lib.hid (ten_new W 29)
  have B1 := Lib.hid (below_alloc (Below.refl _ W) (.cells zA 29))
  obtain ⟨m, s, hm⟩ : ∃ m s, readM (some bs) = (m, s) := ⟨_, _, rfl⟩
  have hok := read_ok (some bs) hlt.out
  rw [hm] at hok
  have O := Lib.hid (show MsgOk m from hok)
  obtain ⟨b1, hb1⟩ : ∃ b, endR s = b := ⟨_, rfl⟩
  obtain ⟨b2, hb2⟩ : ∃ b, goodM m = b := ⟨_, rfl⟩
  have E1 := Lib.hid hb1
  have E2 := Lib.hid hb2
  have OK := Lib.hid (show okM bs = (b1 && b2) by unfold okM; rw [hm, hb1, hb2])
  have GM := Lib.hid (show gotM bs = if b1 && b2 then m else zeroM by unfold gotM; rw [OK.out, hm])
  have RM := Lib.hid hm
  clear hm hb1 hb2 hok
  go_enter Try.func14, Try.ntmps14
  go_wp2_with fail
  generalize W.alloc (.cells zA 29) = w0 at T0 B1 ⊢
  obtain ⟨A, hAA⟩ : ∃ A, W.heap.size = A := ⟨_, rfl⟩
  rw [hAA] at T0 ⊢
  have AA := Lib.hid hAA
  clear hAA
  have lA := T0.out.lt
  refine (on_rnew (W := w0) (N := w0.heap.size) (Below.refl _ _) (Nat.le_refl _) (HS.out.below B1.out) rfl (by omega)).mono ?_
  rintro e w1 ⟨p, S, rfl, hR, hb, hp, hS⟩
  have RD := Lib.hid hR.1
  have PP := Lib.hid (show w0.heap.size ≤ p ∧ p < w1.heap.size ∧ ∀ k, S k → w0.heap.size ≤ k ∧ k < w1.heap.size from ⟨hp, by obtain ⟨a, c, hv⟩ := hR.1; exact hv.inP, fun k f => ⟨(hS k f).1, by have := (hS k f).2; obtain ⟨a, c, hv⟩ := hR.1; have := hv.inP; omega⟩⟩)
  have B2 := Lib.hid hb
  clear hR hb hp hS
  go_wp2_with fail
  refine (read_any w1 p S (some bs) RD.out PP.out.2.1 (fun k f => (PP.out.2.2 k f).2) (by simpa using hl)).mono ?_
  rintro e w2 ⟨ba, bc, sa, sc, rfl, hms, hrd, hk, hfb, hfs⟩
  rw [RM.out] at hms hrd ⊢
  have MS := Lib.hid hms
  have RD2 := Lib.hid hrd
  have B3 := Lib.hid (show Below w0.heap.size w0 w2 from B2.out.trans (hk.below (N := w0.heap.size) B2.out.size (fun k e => by have := PP.out; omega)))
  have FB := Lib.hid (And.intro hfb hfs)
  clear hms hrd hk RD B2 hfb hfs
  go_wp2_with fail
  have X3 := Lib.hid (msgB_new w2 m ba bc sa sc 29)
  have B4 := Lib.hid (below_alloc (Below.refl _ w2) (.cells (msgA m ba bc sa sc) 29))
  generalize w2.alloc (.cells (msgA m ba bc sa sc) 29) = w3 at X3 B4 ⊢
  obtain ⟨D, hD⟩ : ∃ D, w2.heap.size = D := ⟨_, rfl⟩
  rw [hD] at X3 ⊢
  clear hD
  have RD3 := Lib.hid (RD2.out.below B4.out)
  have MS3 := Lib.hid (MS.out.below B4.out)
  have B5 := Lib.hid (B3.out.trans (B4.out.mono B3.out.size))
  clear MS RD2 B3 B4
  have hend := rend_any w3 p S s RD3.out
  rw [E1.out] at hend
  refine hend.mono ?_
  rintro e w' ⟨rfl, rfl⟩
  clear hend
  obtain ⟨j0, j1, j2, j3, j4, j5, j6, j7, j8, j9⟩ := X3.out
  have TA := Lib.hid (T0.out.keep (F := fun _ => False) (show Keep (fun _ => False) w0 w3 from ⟨B5.out.os, B5.out.tape, B5.out.output, B5.out.size, fun i hi _ => B5.out.block i hi⟩) id)
  cases b1
  · have z0 : w3.cell? ⟨A, 0, none⟩ = some (.int .i64 0) := TA.out.c 0 (by decide)
    have zf0 := TA.out.fz 0
    have z1 : w3.cell? ⟨A, 1, none⟩ = some (.int .u64 0) := TA.out.c 1 (by decide)
    have zf1 := TA.out.fz 1
    have z2 : w3.cell? ⟨A, 2, none⟩ = some (.int .u64 0) := TA.out.c 2 (by decide)
    have zf2 := TA.out.fz 2
    have z3 : w3.cell? ⟨A, 3, none⟩ = some (.int .i64 0) := TA.out.c 3 (by decide)
    have zf3 := TA.out.fz 3
    have z4 : w3.cell? ⟨A, 4, none⟩ = some (.int .i64 0) := TA.out.c 4 (by decide)
    have zf4 := TA.out.fz 4
    have z5 : w3.cell? ⟨A, 5, none⟩ = some (.float .f64 0) := TA.out.c 5 (by decide)
    have zf5 := TA.out.fz 5
    have z6 : w3.cell? ⟨A, 6, none⟩ = some (.int .i64 0) := TA.out.c 6 (by decide)
    have zf6 := TA.out.fz 6
    have z7 : w3.cell? ⟨A, 7, none⟩ = some (.int .u64 0) := TA.out.c 7 (by decide)
    have zf7 := TA.out.fz 7
    have z8 : w3.cell? ⟨A, 8, none⟩ = some (.slice none 0 0) := TA.out.c 8 (by decide)
    have zf8 := TA.out.fz 8
    have z9 : w3.cell? ⟨A, 9, none⟩ = some (.slice none 0 0) := TA.out.c 9 (by decide)
    have zf9 := TA.out.fz 9
    go_wp2_with fail
    have TF : MsgB ((((((((((w3.setCell ⟨A, 0, none⟩ (.int .i64 0)).setCell ⟨A, 1, none⟩ (.int .u64 0)).setCell ⟨A, 2, none⟩ (.int .u64 0)).setCell ⟨A, 3, none⟩ (.int .i64 0)).setCell ⟨A, 4, none⟩ (.int .i64 0)).setCell ⟨A, 5, none⟩ (.float .f64 0)).setCell ⟨A, 6, none⟩ (.int .i64 0)).setCell ⟨A, 7, none⟩ (.int .u64 0)).setCell ⟨A, 8, none⟩ (.slice none 0 0)).setCell ⟨A, 9, none⟩ (.slice none 0 0)) A zeroM none 0 none 0 := setz_cells TA.out
    have HK : Keep (fun k => k = A) w3 ((((((((((w3.setCell ⟨A, 0, none⟩ (.int .i64 0)).setCell ⟨A, 1, none⟩ (.int .u64 0)).setCell ⟨A, 2, none⟩ (.int .u64 0)).setCell ⟨A, 3, none⟩ (.int .i64 0)).setCell ⟨A, 4, none⟩ (.int .i64 0)).setCell ⟨A, 5, none⟩ (.float .f64 0)).setCell ⟨A, 6, none⟩ (.int .i64 0)).setCell ⟨A, 7, none⟩ (.int .u64 0)).setCell ⟨A, 8, none⟩ (.slice none 0 0)).setCell ⟨A, 9, none⟩ (.slice none 0 0)) := setz_keep w3 A
    clear z0 z1 z2 z3 z4 z5 z6 z7 z8 z9 zf0 zf1 zf2 zf3 zf4 zf5 zf6 zf7 zf8 zf9 j0 j1 j2 j3 j4 j5 j6 j7 j8 j9
    generalize (((((((((w3.setCell ⟨A, 0, none⟩ (.int .i64 0)).setCell ⟨A, 1, none⟩ (.int .u64 0)).setCell ⟨A, 2, none⟩ (.int .u64 0)).setCell ⟨A, 3, none⟩ (.int .i64 0)).setCell ⟨A, 4, none⟩ (.int .i64 0)).setCell ⟨A, 5, none⟩ (.float .f64 0)).setCell ⟨A, 6, none⟩ (.int .i64 0)).setCell ⟨A, 7, none⟩ (.int .u64 0)).setCell ⟨A, 8, none⟩ (.slice none 0 0)).setCell ⟨A, 9, none⟩ (.slice none 0 0) = wf at TF HK ⊢
    have r0 : wf.cell? ⟨A, 0, none⟩ = some (.int .i64 0) := TF.c0
    have r1 : wf.cell? ⟨A, 1, none⟩ = some (.int .u64 0) := TF.c1
    have r2 : wf.cell? ⟨A, 2, none⟩ = some (.int .u64 0) := TF.c2
    have r3 : wf.cell? ⟨A, 3, none⟩ = some (.int .i64 0) := TF.c3
    have r4 : wf.cell? ⟨A, 4, none⟩ = some (.int .i64 0) := TF.c4
    have r5 : wf.cell? ⟨A, 5, none⟩ = some (.float .f64 0) := TF.c5
    have r6 : wf.cell? ⟨A, 6, none⟩ = some (.int .i64 0) := TF.c6
    have r7 : wf.cell? ⟨A, 7, none⟩ = some (.int .u64 0) := TF.c7
    have r8 : wf.cell? ⟨A, 8, none⟩ = some (.slice none 0 0) := TF.c8
    have r9 : wf.cell? ⟨A, 9, none⟩ = some (.slice none 0 0) := TF.c9
    clear TF
    refine bodyPost_ret (v := .tuple #[.agg zA, .int .i64 2]) (by simp [results, Try.results14, go_sem, r0, r1, r2, r3, r4, r5, r6, r7, r8, r9]) rfl ?_
    have hO : okM bs = false := by rw [OK.out]; rfl
    have hG : gotM bs = zeroM := by unfold gotM; rw [hO]; rfl
    refine ⟨none, 0, none, 0, ?_, ?_, ?_⟩
    · rw [hO, hG]; rfl
    · rw [hG]; exact msgS_none _
    · exact (B1.out.trans (B5.out.mono B1.out.size)).trans (HK.below (by have := B5.out.size; have := B1.out.size; omega) (fun k e => by have := AA.out; omega))
  go_wp2_with fail
  refine (good_is MS3.out O.out E2.out).mono ?_
  rintro e w4 ⟨rfl, hb⟩
  have MS4 := Lib.hid (MS3.out.below hb)
  have X4 := Lib.hid (X3.out.below hb)
  have B6 := Lib.hid (B5.out.trans (hb.mono B5.out.size))
  clear j0 j1 j2 j3 j4 j5 j6 j7 j8 j9
  obtain ⟨j0, j1, j2, j3, j4, j5, j6, j7, j8, j9⟩ := X4.out
  have TB := Lib.hid (TA.out.keep (F := fun _ => False) (show Keep (fun _ => False) w3 w4 from ⟨hb.os, hb.tape, hb.output, hb.size, fun i hi _ => hb.block i hi⟩) id)
  clear hb X3 MS3 TA B5
  cases b2
  · have z0 : w4.cell? ⟨A, 0, none⟩ = some (.int .i64 0) := TB.out.c 0 (by decide)
    have zf0 := TB.out.fz 0
    have z1 : w4.cell? ⟨A, 1, none⟩ = some (.int .u64 0) := TB.out.c 1 (by decide)
    have zf1 := TB.out.fz 1
    have z2 : w4.cell? ⟨A, 2, none⟩ = some (.int .u64 0) := TB.out.c 2 (by decide)
    have zf2 := TB.out.fz 2
    have z3 : w4.cell? ⟨A, 3, none⟩ = some (.int .i64 0) := TB.out.c 3 (by decide)
    have zf3 := TB.out.fz 3
    have z4 : w4.cell? ⟨A, 4, none⟩ = some (.int .i64 0) := TB.out.c 4 (by decide)
    have zf4 := TB.out.fz 4
    have z5 : w4.cell? ⟨A, 5, none⟩ = some (.float .f64 0) := TB.out.c 5 (by decide)
    have zf5 := TB.out.fz 5
    have z6 : w4.cell? ⟨A, 6, none⟩ = some (.int .i64 0) := TB.out.c 6 (by decide)
    have zf6 := TB.out.fz 6
    have z7 : w4.cell? ⟨A, 7, none⟩ = some (.int .u64 0) := TB.out.c 7 (by decide)
    have zf7 := TB.out.fz 7
    have z8 : w4.cell? ⟨A, 8, none⟩ = some (.slice none 0 0) := TB.out.c 8 (by decide)
    have zf8 := TB.out.fz 8
    have z9 : w4.cell? ⟨A, 9, none⟩ = some (.slice none 0 0) := TB.out.c 9 (by decide)
    have zf9 := TB.out.fz 9
    go_wp2_with fail
    have TF : MsgB ((((((((((w4.setCell ⟨A, 0, none⟩ (.int .i64 0)).setCell ⟨A, 1, none⟩ (.int .u64 0)).setCell ⟨A, 2, none⟩ (.int .u64 0)).setCell ⟨A, 3, none⟩ (.int .i64 0)).setCell ⟨A, 4, none⟩ (.int .i64 0)).setCell ⟨A, 5, none⟩ (.float .f64 0)).setCell ⟨A, 6, none⟩ (.int .i64 0)).setCell ⟨A, 7, none⟩ (.int .u64 0)).setCell ⟨A, 8, none⟩ (.slice none 0 0)).setCell ⟨A, 9, none⟩ (.slice none 0 0)) A zeroM none 0 none 0 := setz_cells TB.out
    have HK : Keep (fun k => k = A) w4 ((((((((((w4.setCell ⟨A, 0, none⟩ (.int .i64 0)).setCell ⟨A, 1, none⟩ (.int .u64 0)).setCell ⟨A, 2, none⟩ (.int .u64 0)).setCell ⟨A, 3, none⟩ (.int .i64 0)).setCell ⟨A, 4, none⟩ (.int .i64 0)).setCell ⟨A, 5, none⟩ (.float .f64 0)).setCell ⟨A, 6, none⟩ (.int .i64 0)).setCell ⟨A, 7, none⟩ (.int .u64 0)).setCell ⟨A, 8, none⟩ (.slice none 0 0)).setCell ⟨A, 9, none⟩ (.slice none 0 0)) := setz_keep w4 A
    clear z0 z1 z2 z3 z4 z5 z6 z7 z8 z9 zf0 zf1 zf2 zf3 zf4 zf5 zf6 zf7 zf8 zf9 j0 j1 j2 j3 j4 j5 j6 j7 j8 j9
    generalize (((((((((w4.setCell ⟨A, 0, none⟩ (.int .i64 0)).setCell ⟨A, 1, none⟩ (.int .u64 0)).setCell ⟨A, 2, none⟩ (.int .u64 0)).setCell ⟨A, 3, none⟩ (.int .i64 0)).setCell ⟨A, 4, none⟩ (.int .i64 0)).setCell ⟨A, 5, none⟩ (.float .f64 0)).setCell ⟨A, 6, none⟩ (.int .i64 0)).setCell ⟨A, 7, none⟩ (.int .u64 0)).setCell ⟨A, 8, none⟩ (.slice none 0 0)).setCell ⟨A, 9, none⟩ (.slice none 0 0) = wf at TF HK ⊢
    have r0 : wf.cell? ⟨A, 0, none⟩ = some (.int .i64 0) := TF.c0
    have r1 : wf.cell? ⟨A, 1, none⟩ = some (.int .u64 0) := TF.c1
    have r2 : wf.cell? ⟨A, 2, none⟩ = some (.int .u64 0) := TF.c2
    have r3 : wf.cell? ⟨A, 3, none⟩ = some (.int .i64 0) := TF.c3
    have r4 : wf.cell? ⟨A, 4, none⟩ = some (.int .i64 0) := TF.c4
    have r5 : wf.cell? ⟨A, 5, none⟩ = some (.float .f64 0) := TF.c5
    have r6 : wf.cell? ⟨A, 6, none⟩ = some (.int .i64 0) := TF.c6
    have r7 : wf.cell? ⟨A, 7, none⟩ = some (.int .u64 0) := TF.c7
    have r8 : wf.cell? ⟨A, 8, none⟩ = some (.slice none 0 0) := TF.c8
    have r9 : wf.cell? ⟨A, 9, none⟩ = some (.slice none 0 0) := TF.c9
    clear TF
    refine bodyPost_ret (v := .tuple #[.agg zA, .int .i64 2]) (by simp [results, Try.results14, go_sem, r0, r1, r2, r3, r4, r5, r6, r7, r8, r9]) rfl ?_
    have hO : okM bs = false := by rw [OK.out]; rfl
    have hG : gotM bs = zeroM := by unfold gotM; rw [hO]; rfl
    refine ⟨none, 0, none, 0, ?_, ?_, ?_⟩
    · rw [hO, hG]; rfl
    · rw [hG]; exact msgS_none _
    · exact (B1.out.trans (B6.out.mono B1.out.size)).trans (HK.below (by have := B6.out.size; have := B1.out.size; omega) (fun k e => by have := AA.out; omega))
  have z0 : w4.cell? ⟨A, 0, none⟩ = some (.int .i64 0) := TB.out.c 0 (by decide)
  have zf0 := TB.out.fz 0
  have z1 : w4.cell? ⟨A, 1, none⟩ = some (.int .u64 0) := TB.out.c 1 (by decide)
  have zf1 := TB.out.fz 1
  have z2 : w4.cell? ⟨A, 2, none⟩ = some (.int .u64 0) := TB.out.c 2 (by decide)
  have zf2 := TB.out.fz 2
  have z3 : w4.cell? ⟨A, 3, none⟩ = some (.int .i64 0) := TB.out.c 3 (by decide)
  have zf3 := TB.out.fz 3
  have z4 : w4.cell? ⟨A, 4, none⟩ = some (.int .i64 0) := TB.out.c 4 (by decide)
  have zf4 := TB.out.fz 4
  have z5 : w4.cell? ⟨A, 5, none⟩ = some (.float .f64 0) := TB.out.c 5 (by decide)
  have zf5 := TB.out.fz 5
  have z6 : w4.cell? ⟨A, 6, none⟩ = some (.int .i64 0) := TB.out.c 6 (by decide)
  have zf6 := TB.out.fz 6
  have z7 : w4.cell? ⟨A, 7, none⟩ = some (.int .u64 0) := TB.out.c 7 (by decide)
  have zf7 := TB.out.fz 7
  have z8 : w4.cell? ⟨A, 8, none⟩ = some (.slice none 0 0) := TB.out.c 8 (by decide)
  have zf8 := TB.out.fz 8
  have z9 : w4.cell? ⟨A, 9, none⟩ = some (.slice none 0 0) := TB.out.c 9 (by decide)
  have zf9 := TB.out.fz 9
  go_wp2_with fail
  have TF : MsgB ((((((((((w4.setCell ⟨A, 0, none⟩ (.int .i64 m.frm)).setCell ⟨A, 1, none⟩ (.int .u64 (m.num : Nat))).setCell ⟨A, 2, none⟩ (.int .u64 (m.to : Nat))).setCell ⟨A, 3, none⟩ (.int .i64 m.kind)).setCell ⟨A, 4, none⟩ (.int .i64 m.vr)).setCell ⟨A, 5, none⟩ (.float .f64 m.val)).setCell ⟨A, 6, none⟩ (.int .i64 m.wri)).setCell ⟨A, 7, none⟩ (.int .u64 (m.tag : Nat))).setCell ⟨A, 8, none⟩ (.slice ba m.bod.length bc)).setCell ⟨A, 9, none⟩ (.slice sa m.stp.length sc)) A m ba bc sa sc := set_cells TB.out m ba bc sa sc
  have HK : Keep (fun k => k = A) w4 ((((((((((w4.setCell ⟨A, 0, none⟩ (.int .i64 m.frm)).setCell ⟨A, 1, none⟩ (.int .u64 (m.num : Nat))).setCell ⟨A, 2, none⟩ (.int .u64 (m.to : Nat))).setCell ⟨A, 3, none⟩ (.int .i64 m.kind)).setCell ⟨A, 4, none⟩ (.int .i64 m.vr)).setCell ⟨A, 5, none⟩ (.float .f64 m.val)).setCell ⟨A, 6, none⟩ (.int .i64 m.wri)).setCell ⟨A, 7, none⟩ (.int .u64 (m.tag : Nat))).setCell ⟨A, 8, none⟩ (.slice ba m.bod.length bc)).setCell ⟨A, 9, none⟩ (.slice sa m.stp.length sc)) := set_keep w4 A m ba bc sa sc
  clear z0 z1 z2 z3 z4 z5 z6 z7 z8 z9 zf0 zf1 zf2 zf3 zf4 zf5 zf6 zf7 zf8 zf9 j0 j1 j2 j3 j4 j5 j6 j7 j8 j9
  generalize (((((((((w4.setCell ⟨A, 0, none⟩ (.int .i64 m.frm)).setCell ⟨A, 1, none⟩ (.int .u64 (m.num : Nat))).setCell ⟨A, 2, none⟩ (.int .u64 (m.to : Nat))).setCell ⟨A, 3, none⟩ (.int .i64 m.kind)).setCell ⟨A, 4, none⟩ (.int .i64 m.vr)).setCell ⟨A, 5, none⟩ (.float .f64 m.val)).setCell ⟨A, 6, none⟩ (.int .i64 m.wri)).setCell ⟨A, 7, none⟩ (.int .u64 (m.tag : Nat))).setCell ⟨A, 8, none⟩ (.slice ba m.bod.length bc)).setCell ⟨A, 9, none⟩ (.slice sa m.stp.length sc) = wf at TF HK ⊢
  obtain ⟨r0, r1, r2, r3, r4, r5, r6, r7, r8, r9⟩ := TF
  refine bodyPost_ret (v := .tuple #[.agg (msgA m ba bc sa sc), .int .i64 0]) (by simp [results, Try.results14, go_sem, r0, r1, r2, r3, r4, r5, r6, r7, r8, r9]) rfl ?_
  refine ⟨ba, bc, sa, sc, ?_, ?_, ?_⟩
  · rw [OK.out, GM.out]; rfl
  · rw [GM.out]
    exact ⟨MS4.out.b.keep HK (fun ad e _ f => by have := FB.out.1 ad e; have := PP.out; omega), MS4.out.s.keep HK (fun ad e _ f => by have := FB.out.2 ad e; have := PP.out; omega)⟩
  · exact (B1.out.trans (B6.out.mono B1.out.size)).trans (HK.below (by have := B6.out.size; have := B1.out.size; omega) (fun k e => by have := AA.out; omega))

end Go.Proofs.Ytjdnaonhfacpoaa
