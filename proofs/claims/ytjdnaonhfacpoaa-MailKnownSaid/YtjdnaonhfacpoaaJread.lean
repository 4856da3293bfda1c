/-
  read: a message out of a reader.
-/
import Derived.Test.YtjdnaonhfacpoaaJrd
namespace Go.Proofs.Ytjdnaonhfacpoaa
open Go.RowKit

theorem store_float (a : Addr) (b : Nat) (m : Mode) (w : World) : (store a (.float .f64 b) m).run Try.prog w = stored Try.prog w a (.float .f64 b) m := run_store Try.prog w a _ m rfl

abbrev zA : Array Value := #[.int .i64 0, .int .u64 0, .int .u64 0, .int .i64 0, .int .i64 0, .float .f64 0, .int .i64 0, .int .u64 0, .slice none 0 0, .slice none 0 0]
theorem ten_new (w : World) (t : TypeId) : Ten (w.alloc (.cells zA t)) w.heap.size zeroV := by
  refine ⟨fun o ho => ?_, fun o => by simp⟩
  rcases (show o = 0 ∨ o = 1 ∨ o = 2 ∨ o = 3 ∨ o = 4 ∨ o = 5 ∨ o = 6 ∨ o = 7 ∨ o = 8 ∨ o = 9 by omega) with rfl | rfl | rfl | rfl | rfl | rfl | rfl | rfl | rfl | rfl <;> simp [zeroV]

/-- What read leaves. -/
def ReadPost (W : World) (p : Nat) (S : Nat → Prop) (m : Msg) (s : Option (List Nat)) (e : Ending) (w' : World) : Prop :=
  ∃ ba bc sa sc, e = .returned (.agg (msgA m ba bc sa sc)) ∧ MsgS w' m ba bc sa sc ∧ RdAt w' p S s ∧ Keep (fun k => k = p) W w' ∧ (∀ ad, ba = some ad → W.heap.size ≤ ad.block) ∧ ∀ ad, sa = some ad → W.heap.size ≤ ad.block

/-- Ten cells are written anew, one behind the other. -/
theorem ten_set {F : Nat → Prop} {w : World} {B : Nat} (v0 v1 v2 v3 v4 v5 v6 v7 v8 v9 : Value) (hB : F B) :
    Keep F w ((((((((((w.setCell ⟨B, 0, none⟩ v0).setCell ⟨B, 1, none⟩ v1).setCell ⟨B, 2, none⟩ v2).setCell ⟨B, 3, none⟩ v3).setCell ⟨B, 4, none⟩ v4).setCell ⟨B, 5, none⟩ v5).setCell ⟨B, 6, none⟩ v6).setCell ⟨B, 7, none⟩ v7).setCell ⟨B, 8, none⟩ v8).setCell ⟨B, 9, none⟩ v9) :=
  (((((((((((Keep.refl F w).setCell (p := ⟨B, 0, none⟩) hB v0).setCell (p := ⟨B, 1, none⟩) hB v1).setCell (p := ⟨B, 2, none⟩) hB v2).setCell (p := ⟨B, 3, none⟩) hB v3).setCell (p := ⟨B, 4, none⟩) hB v4).setCell (p := ⟨B, 5, none⟩) hB v5).setCell (p := ⟨B, 6, none⟩) hB v6).setCell (p := ⟨B, 7, none⟩) hB v7).setCell (p := ⟨B, 8, none⟩) hB v8).setCell (p := ⟨B, 9, none⟩) hB v9)

set_option maxRecDepth 20000 in
set_option maxHeartbeats 16000000 in
theorem read_any (W : World) (p : Nat) (S : Nat → Prop) (s : Option (List Nat)) (hA : RdAt W p S s) (hp : p < W.heap.size) (hS : ∀ k, S k → k < W.heap.size) (hb : (s.getD []).length ≤ 1000000) :
    Calls Try.prog 32 #[.pointer (some ⟨p, 0, none⟩)] W (ReadPost W p S (readM s).1 (readM s).2) := by
  have hst := store_float
  have W1 := below_alloc (below_alloc (Below.refl _ W) (.cells zA 29)) (.cells zA 29)
  have R0 : Hid (RdM ((W.alloc (.cells zA 29)).alloc (.cells zA 29)) p (W.heap.size + 1) S s zeroV none 0 [] ((W.alloc (.cells zA 29)).alloc (.cells zA 29))) := by
    have h := ten_new (W.alloc (.cells zA 29)) 29
    rw [show (W.alloc (.cells zA 29)).heap.size = W.heap.size + 1 by simp] at h
    exact Lib.hid ⟨hA.below W1, h, Keep.refl _ _, SlAt.none _ _ _, (fun ad e => by cases e), by omega, fun k f => by have := hS k f; omega, by simp; omega, by simp⟩
  have T0 : Hid (Ten ((W.alloc (.cells zA 29)).alloc (.cells zA 29)) W.heap.size zeroV) := by
    have h := ten_new W 29
    exact Lib.hid (h.keep (F := fun _ => False) (Keep.ofBelow (below_alloc (Below.refl _ _) _)) id)
  have W1 := Lib.hid W1
  have P := Lib.hid (show p ≠ W.heap.size ∧ p < W.heap.size by omega)
  have HS := Lib.hid hS
  clear hA hS hp
  obtain ⟨f, s1, e1⟩ : ∃ f s1, numR 15 s = (f, s1) := ⟨_, _, rfl⟩
  obtain ⟨n, s2, e2⟩ : ∃ n s2, numR 18446744073709551615 s1 = (n, s2) := ⟨_, _, rfl⟩
  obtain ⟨t, s3, e3⟩ : ∃ t s3, numR 65535 s2 = (t, s3) := ⟨_, _, rfl⟩
  obtain ⟨k, s4, e4⟩ : ∃ k s4, numR 3 s3 = (k, s4) := ⟨_, _, rfl⟩
  have bf : f ≤ 15 := by have := numR_le 15 s; rw [e1] at this; exact this
  have bk : k ≤ 3 := by have := numR_le 3 s3; rw [e4] at this; exact this
  have l1 := numR_len 15 s
  have l2 := numR_len 18446744073709551615 s1
  have l3 := numR_len 65535 s2
  have l4 := numR_len 3 s3
  rw [e1] at l1
  rw [e2] at l2
  rw [e3] at l3
  rw [e4] at l4
  have L4 := Lib.hid (show (s4.getD []).length ≤ 1000000 by simp only at l1 l2 l3 l4; omega)
  clear l1 l2 l3 l4 hb
  have E1 := Lib.hid e1
  have E2 := Lib.hid e2
  have E3 := Lib.hid e3
  have E4 := Lib.hid e4
  clear e1 e2 e3 e4
  go_enter Try.func32, Try.ntmps32
  go_wp2_with fail
  generalize (W.alloc (.cells zA 29)).alloc (.cells zA 29) = w0 at R0 T0 W1 ⊢
  obtain ⟨B, hB⟩ : ∃ B, W.heap.size + 1 = B := ⟨_, rfl⟩
  obtain ⟨A, hAA⟩ : ∃ A, W.heap.size = A := ⟨_, rfl⟩
  have PB := Lib.hid (show B ≠ A ∧ p ≠ A ∧ A = W.heap.size ∧ p < A ∧ A < B by have := P.out; omega)
  rw [hB] at R0 ⊢
  rw [hAA] at T0 ⊢
  clear hB hAA P
  go_wp2_with fail
  refine (rnumz (most := 15) R0.out rfl E1.out).mono ?_
  rintro e w1 ⟨rfl, h⟩
  have cc := h.ten.c 0 (by decide)
  have ff := h.ten.fz 0
  have R1 := Lib.hid (h.put 0 (.int .i64 (f : Nat)))
  clear h R0
  go_wp2_with fail
  generalize w1.setCell ⟨B, 0, none⟩ (.int .i64 (f : Nat)) = v1 at R1 ⊢
  clear cc ff
  refine (rnumz (most := 18446744073709551615) R1.out rfl E2.out).mono ?_
  rintro e w2 ⟨rfl, h⟩
  have cc := h.ten.c 1 (by decide)
  have ff := h.ten.fz 1
  have R2 := Lib.hid (h.put 1 (.int .u64 (n : Nat)))
  clear h R1
  go_wp2_with fail
  generalize w2.setCell ⟨B, 1, none⟩ (.int .u64 (n : Nat)) = v2 at R2 ⊢
  clear cc ff
  refine (procs_any _).mono ?_
  rintro e w' ⟨rfl, rfl⟩
  go_wp2_with fail
  refine (rsetz R2.out E3.out).mono ?_
  rintro e w3 ⟨rfl, h⟩
  have cc := h.ten.c 2 (by decide)
  have ff := h.ten.fz 2
  have R3 := Lib.hid (h.put 2 (.int .u64 (t : Nat)))
  clear h R2
  go_wp2_with fail
  generalize w3.setCell ⟨B, 2, none⟩ (.int .u64 (t : Nat)) = v3 at R3 ⊢
  clear cc ff
  refine (rnumz (most := 3) R3.out rfl E4.out).mono ?_
  rintro e w4 ⟨rfl, h⟩
  have cc := h.ten.c 3 (by decide)
  have ff := h.ten.fz 3
  have R4 := Lib.hid (h.put 3 (.int .i64 (k : Nat)))
  clear h R3
  have K3 := R4.out.ten.c 3 (by decide)
  have k3 : (w4.setCell ⟨B, 3, none⟩ (.int .i64 (k : Nat))).cell? ⟨B, 3, none⟩ = some (.int .i64 (k : Nat)) := K3
  clear K3
  rcases (show k = 0 ∨ k = 1 ∨ k = 2 ∨ k = 3 by omega) with hk | hk | hk | hk
  · have K := Lib.hid hk
    have e0 : ((k : Int) == 0) = true := by rw [hk]; rfl
    have TG := Lib.hid (show tagged (k : Int) = false by rw [hk]; rfl)
    clear hk
    obtain ⟨ys, s5, e5⟩ : ∃ ys s5, bytR 256 s4 = (ys, s5) := ⟨_, _, rfl⟩
    have l5 := bytR_len 256 s4
    rw [e5] at l5
    have E5 := Lib.hid e5
    have L5 := Lib.hid (show (s5.getD []).length ≤ 1000000 by have := L4.out; simp only at l5; omega)
    clear e5 l5
    go_wp2_with fail
    generalize w4.setCell ⟨B, 3, none⟩ (.int .i64 (k : Nat)) = v4 at R4 ⊢
    clear cc ff
    refine (rbytz (most := 256) R4.out (by decide) L4.out E5.out).mono ?_
    rintro e w5 ⟨a8, c8, rfl, h, _⟩
    have cc := h.ten.c 8 (by decide)
    have ff := h.ten.fz 8
    have R5 := Lib.hid (h.put 8 (.slice a8 ys.length c8))
    clear h R4
    have k3b : (w5.setCell ⟨B, 8, none⟩ (.slice a8 ys.length c8)).cell? ⟨B, 3, none⟩ = some (.int .i64 (k : Nat)) := R5.out.ten.c 3 (by decide)
    go_wp2_with fail
    generalize w5.setCell ⟨B, 8, none⟩ (.slice a8 ys.length c8) = v5 at R5 ⊢
    clear cc ff
    refine (hasv_is TG.out).mono ?_
    rintro e w' ⟨rfl, rfl⟩
    clear k3b
    obtain ⟨zs, s9, e9⟩ : ∃ zs s9, bytR 20000 s5 = (zs, s9) := ⟨_, _, rfl⟩
    have E9 := Lib.hid e9
    clear e9
    go_wp2_with fail
    refine (rbytz (most := 20000) R5.out (by decide) L5.out E9.out).mono ?_
    rintro e w6 ⟨a9, c9, rfl, h, h2⟩
    have cc := h.ten.c 9 (by decide)
    have ff := h.ten.fz 9
    have Q1 := Lib.hid (h.put 9 (.slice a9 zs.length c9))
    have Q2 := Lib.hid (h2.put 9 (.slice a9 zs.length c9))
    clear h h2
    have q0 : (w6.setCell ⟨B, 9, none⟩ (.slice a9 zs.length c9)).cell? ⟨B, 0, none⟩ = some (.int .i64 (f : Nat)) := Q1.out.ten.c 0 (by decide)
    have q1 : (w6.setCell ⟨B, 9, none⟩ (.slice a9 zs.length c9)).cell? ⟨B, 1, none⟩ = some (.int .u64 (n : Nat)) := Q1.out.ten.c 1 (by decide)
    have q2 : (w6.setCell ⟨B, 9, none⟩ (.slice a9 zs.length c9)).cell? ⟨B, 2, none⟩ = some (.int .u64 (t : Nat)) := Q1.out.ten.c 2 (by decide)
    have q3 : (w6.setCell ⟨B, 9, none⟩ (.slice a9 zs.length c9)).cell? ⟨B, 3, none⟩ = some (.int .i64 (k : Nat)) := Q1.out.ten.c 3 (by decide)
    have q4 : (w6.setCell ⟨B, 9, none⟩ (.slice a9 zs.length c9)).cell? ⟨B, 4, none⟩ = some (.int .i64 0) := Q1.out.ten.c 4 (by decide)
    have q5 : (w6.setCell ⟨B, 9, none⟩ (.slice a9 zs.length c9)).cell? ⟨B, 5, none⟩ = some (.float .f64 0) := Q1.out.ten.c 5 (by decide)
    have q6 : (w6.setCell ⟨B, 9, none⟩ (.slice a9 zs.length c9)).cell? ⟨B, 6, none⟩ = some (.int .i64 0) := Q1.out.ten.c 6 (by decide)
    have q7 : (w6.setCell ⟨B, 9, none⟩ (.slice a9 zs.length c9)).cell? ⟨B, 7, none⟩ = some (.int .u64 0) := Q1.out.ten.c 7 (by decide)
    have q8 : (w6.setCell ⟨B, 9, none⟩ (.slice a9 zs.length c9)).cell? ⟨B, 8, none⟩ = some (.slice a8 ys.length c8) := Q1.out.ten.c 8 (by decide)
    have q9 : (w6.setCell ⟨B, 9, none⟩ (.slice a9 zs.length c9)).cell? ⟨B, 9, none⟩ = some (.slice a9 zs.length c9) := Q1.out.ten.c 9 (by decide)
    have TA : Hid (Ten (w6.setCell ⟨B, 9, none⟩ (.slice a9 zs.length c9)) A zeroV) := Lib.hid (T0.out.keep Q1.out.kp (fun e => e.elim (fun e => PB.out.2.1 e.symm) (fun e => PB.out.1 e.symm)))
    have z0 : (w6.setCell ⟨B, 9, none⟩ (.slice a9 zs.length c9)).cell? ⟨A, 0, none⟩ = some (.int .i64 0) := TA.out.c 0 (by decide)
    have zf0 := TA.out.fz 0
    have z1 : (w6.setCell ⟨B, 9, none⟩ (.slice a9 zs.length c9)).cell? ⟨A, 1, none⟩ = some (.int .u64 0) := TA.out.c 1 (by decide)
    have zf1 := TA.out.fz 1
    have z2 : (w6.setCell ⟨B, 9, none⟩ (.slice a9 zs.length c9)).cell? ⟨A, 2, none⟩ = some (.int .u64 0) := TA.out.c 2 (by decide)
    have zf2 := TA.out.fz 2
    have z3 : (w6.setCell ⟨B, 9, none⟩ (.slice a9 zs.length c9)).cell? ⟨A, 3, none⟩ = some (.int .i64 0) := TA.out.c 3 (by decide)
    have zf3 := TA.out.fz 3
    have z4 : (w6.setCell ⟨B, 9, none⟩ (.slice a9 zs.length c9)).cell? ⟨A, 4, none⟩ = some (.int .i64 0) := TA.out.c 4 (by decide)
    have zf4 := TA.out.fz 4
    have z5 : (w6.setCell ⟨B, 9, none⟩ (.slice a9 zs.length c9)).cell? ⟨A, 5, none⟩ = some (.float .f64 0) := TA.out.c 5 (by decide)
    have zf5 := TA.out.fz 5
    have z6 : (w6.setCell ⟨B, 9, none⟩ (.slice a9 zs.length c9)).cell? ⟨A, 6, none⟩ = some (.int .i64 0) := TA.out.c 6 (by decide)
    have zf6 := TA.out.fz 6
    have z7 : (w6.setCell ⟨B, 9, none⟩ (.slice a9 zs.length c9)).cell? ⟨A, 7, none⟩ = some (.int .u64 0) := TA.out.c 7 (by decide)
    have zf7 := TA.out.fz 7
    have z8 : (w6.setCell ⟨B, 9, none⟩ (.slice a9 zs.length c9)).cell? ⟨A, 8, none⟩ = some (.slice none 0 0) := TA.out.c 8 (by decide)
    have zf8 := TA.out.fz 8
    have z9 : (w6.setCell ⟨B, 9, none⟩ (.slice a9 zs.length c9)).cell? ⟨A, 9, none⟩ = some (.slice none 0 0) := TA.out.c 9 (by decide)
    have zf9 := TA.out.fz 9
    generalize hww : w6.setCell ⟨B, 9, none⟩ (.slice a9 zs.length c9) = wl at Q1 Q2 TA q0 q1 q2 q3 q4 q5 q6 q7 q8 q9 z0 z1 z2 z3 z4 z5 z6 z7 z8 z9 zf0 zf1 zf2 zf3 zf4 zf5 zf6 zf7 zf8 zf9
    go_wp2_with fail
    have HK : Keep (fun k => k = A) wl ((((((((((wl.setCell ⟨A, 0, none⟩ (.int .i64 (f : Nat))).setCell ⟨A, 1, none⟩ (.int .u64 (n : Nat))).setCell ⟨A, 2, none⟩ (.int .u64 (t : Nat))).setCell ⟨A, 3, none⟩ (.int .i64 (k : Nat))).setCell ⟨A, 4, none⟩ (.int .i64 0)).setCell ⟨A, 5, none⟩ (.float .f64 0)).setCell ⟨A, 6, none⟩ (.int .i64 0)).setCell ⟨A, 7, none⟩ (.int .u64 0)).setCell ⟨A, 8, none⟩ (.slice a8 ys.length c8)).setCell ⟨A, 9, none⟩ (.slice a9 zs.length c9)) := ten_set (F := fun k => k = A) (w := wl) (B := A) (.int .i64 (f : Nat)) (.int .u64 (n : Nat)) (.int .u64 (t : Nat)) (.int .i64 (k : Nat)) (.int .i64 0) (.float .f64 0) (.int .i64 0) (.int .u64 0) (.slice a8 ys.length c8) (.slice a9 zs.length c9) rfl
    have TF := ((((((((((TA.out.put 0 (.int .i64 (f : Nat))).put 1 (.int .u64 (n : Nat))).put 2 (.int .u64 (t : Nat))).put 3 (.int .i64 (k : Nat))).put 4 (.int .i64 0)).put 5 (.float .f64 0)).put 6 (.int .i64 0)).put 7 (.int .u64 0)).put 8 (.slice a8 ys.length c8)).put 9 (.slice a9 zs.length c9))
    have r0 : ((((((((((wl.setCell ⟨A, 0, none⟩ (.int .i64 (f : Nat))).setCell ⟨A, 1, none⟩ (.int .u64 (n : Nat))).setCell ⟨A, 2, none⟩ (.int .u64 (t : Nat))).setCell ⟨A, 3, none⟩ (.int .i64 (k : Nat))).setCell ⟨A, 4, none⟩ (.int .i64 0)).setCell ⟨A, 5, none⟩ (.float .f64 0)).setCell ⟨A, 6, none⟩ (.int .i64 0)).setCell ⟨A, 7, none⟩ (.int .u64 0)).setCell ⟨A, 8, none⟩ (.slice a8 ys.length c8)).setCell ⟨A, 9, none⟩ (.slice a9 zs.length c9)).cell? ⟨A, 0, none⟩ = some (.int .i64 (f : Nat)) := TF.c 0 (by decide)
    have r1 : ((((((((((wl.setCell ⟨A, 0, none⟩ (.int .i64 (f : Nat))).setCell ⟨A, 1, none⟩ (.int .u64 (n : Nat))).setCell ⟨A, 2, none⟩ (.int .u64 (t : Nat))).setCell ⟨A, 3, none⟩ (.int .i64 (k : Nat))).setCell ⟨A, 4, none⟩ (.int .i64 0)).setCell ⟨A, 5, none⟩ (.float .f64 0)).setCell ⟨A, 6, none⟩ (.int .i64 0)).setCell ⟨A, 7, none⟩ (.int .u64 0)).setCell ⟨A, 8, none⟩ (.slice a8 ys.length c8)).setCell ⟨A, 9, none⟩ (.slice a9 zs.length c9)).cell? ⟨A, 1, none⟩ = some (.int .u64 (n : Nat)) := TF.c 1 (by decide)
    have r2 : ((((((((((wl.setCell ⟨A, 0, none⟩ (.int .i64 (f : Nat))).setCell ⟨A, 1, none⟩ (.int .u64 (n : Nat))).setCell ⟨A, 2, none⟩ (.int .u64 (t : Nat))).setCell ⟨A, 3, none⟩ (.int .i64 (k : Nat))).setCell ⟨A, 4, none⟩ (.int .i64 0)).setCell ⟨A, 5, none⟩ (.float .f64 0)).setCell ⟨A, 6, none⟩ (.int .i64 0)).setCell ⟨A, 7, none⟩ (.int .u64 0)).setCell ⟨A, 8, none⟩ (.slice a8 ys.length c8)).setCell ⟨A, 9, none⟩ (.slice a9 zs.length c9)).cell? ⟨A, 2, none⟩ = some (.int .u64 (t : Nat)) := TF.c 2 (by decide)
    have r3 : ((((((((((wl.setCell ⟨A, 0, none⟩ (.int .i64 (f : Nat))).setCell ⟨A, 1, none⟩ (.int .u64 (n : Nat))).setCell ⟨A, 2, none⟩ (.int .u64 (t : Nat))).setCell ⟨A, 3, none⟩ (.int .i64 (k : Nat))).setCell ⟨A, 4, none⟩ (.int .i64 0)).setCell ⟨A, 5, none⟩ (.float .f64 0)).setCell ⟨A, 6, none⟩ (.int .i64 0)).setCell ⟨A, 7, none⟩ (.int .u64 0)).setCell ⟨A, 8, none⟩ (.slice a8 ys.length c8)).setCell ⟨A, 9, none⟩ (.slice a9 zs.length c9)).cell? ⟨A, 3, none⟩ = some (.int .i64 (k : Nat)) := TF.c 3 (by decide)
    have r4 : ((((((((((wl.setCell ⟨A, 0, none⟩ (.int .i64 (f : Nat))).setCell ⟨A, 1, none⟩ (.int .u64 (n : Nat))).setCell ⟨A, 2, none⟩ (.int .u64 (t : Nat))).setCell ⟨A, 3, none⟩ (.int .i64 (k : Nat))).setCell ⟨A, 4, none⟩ (.int .i64 0)).setCell ⟨A, 5, none⟩ (.float .f64 0)).setCell ⟨A, 6, none⟩ (.int .i64 0)).setCell ⟨A, 7, none⟩ (.int .u64 0)).setCell ⟨A, 8, none⟩ (.slice a8 ys.length c8)).setCell ⟨A, 9, none⟩ (.slice a9 zs.length c9)).cell? ⟨A, 4, none⟩ = some (.int .i64 0) := TF.c 4 (by decide)
    have r5 : ((((((((((wl.setCell ⟨A, 0, none⟩ (.int .i64 (f : Nat))).setCell ⟨A, 1, none⟩ (.int .u64 (n : Nat))).setCell ⟨A, 2, none⟩ (.int .u64 (t : Nat))).setCell ⟨A, 3, none⟩ (.int .i64 (k : Nat))).setCell ⟨A, 4, none⟩ (.int .i64 0)).setCell ⟨A, 5, none⟩ (.float .f64 0)).setCell ⟨A, 6, none⟩ (.int .i64 0)).setCell ⟨A, 7, none⟩ (.int .u64 0)).setCell ⟨A, 8, none⟩ (.slice a8 ys.length c8)).setCell ⟨A, 9, none⟩ (.slice a9 zs.length c9)).cell? ⟨A, 5, none⟩ = some (.float .f64 0) := TF.c 5 (by decide)
    have r6 : ((((((((((wl.setCell ⟨A, 0, none⟩ (.int .i64 (f : Nat))).setCell ⟨A, 1, none⟩ (.int .u64 (n : Nat))).setCell ⟨A, 2, none⟩ (.int .u64 (t : Nat))).setCell ⟨A, 3, none⟩ (.int .i64 (k : Nat))).setCell ⟨A, 4, none⟩ (.int .i64 0)).setCell ⟨A, 5, none⟩ (.float .f64 0)).setCell ⟨A, 6, none⟩ (.int .i64 0)).setCell ⟨A, 7, none⟩ (.int .u64 0)).setCell ⟨A, 8, none⟩ (.slice a8 ys.length c8)).setCell ⟨A, 9, none⟩ (.slice a9 zs.length c9)).cell? ⟨A, 6, none⟩ = some (.int .i64 0) := TF.c 6 (by decide)
    have r7 : ((((((((((wl.setCell ⟨A, 0, none⟩ (.int .i64 (f : Nat))).setCell ⟨A, 1, none⟩ (.int .u64 (n : Nat))).setCell ⟨A, 2, none⟩ (.int .u64 (t : Nat))).setCell ⟨A, 3, none⟩ (.int .i64 (k : Nat))).setCell ⟨A, 4, none⟩ (.int .i64 0)).setCell ⟨A, 5, none⟩ (.float .f64 0)).setCell ⟨A, 6, none⟩ (.int .i64 0)).setCell ⟨A, 7, none⟩ (.int .u64 0)).setCell ⟨A, 8, none⟩ (.slice a8 ys.length c8)).setCell ⟨A, 9, none⟩ (.slice a9 zs.length c9)).cell? ⟨A, 7, none⟩ = some (.int .u64 0) := TF.c 7 (by decide)
    have r8 : ((((((((((wl.setCell ⟨A, 0, none⟩ (.int .i64 (f : Nat))).setCell ⟨A, 1, none⟩ (.int .u64 (n : Nat))).setCell ⟨A, 2, none⟩ (.int .u64 (t : Nat))).setCell ⟨A, 3, none⟩ (.int .i64 (k : Nat))).setCell ⟨A, 4, none⟩ (.int .i64 0)).setCell ⟨A, 5, none⟩ (.float .f64 0)).setCell ⟨A, 6, none⟩ (.int .i64 0)).setCell ⟨A, 7, none⟩ (.int .u64 0)).setCell ⟨A, 8, none⟩ (.slice a8 ys.length c8)).setCell ⟨A, 9, none⟩ (.slice a9 zs.length c9)).cell? ⟨A, 8, none⟩ = some (.slice a8 ys.length c8) := TF.c 8 (by decide)
    have r9 : ((((((((((wl.setCell ⟨A, 0, none⟩ (.int .i64 (f : Nat))).setCell ⟨A, 1, none⟩ (.int .u64 (n : Nat))).setCell ⟨A, 2, none⟩ (.int .u64 (t : Nat))).setCell ⟨A, 3, none⟩ (.int .i64 (k : Nat))).setCell ⟨A, 4, none⟩ (.int .i64 0)).setCell ⟨A, 5, none⟩ (.float .f64 0)).setCell ⟨A, 6, none⟩ (.int .i64 0)).setCell ⟨A, 7, none⟩ (.int .u64 0)).setCell ⟨A, 8, none⟩ (.slice a8 ys.length c8)).setCell ⟨A, 9, none⟩ (.slice a9 zs.length c9)).cell? ⟨A, 9, none⟩ = some (.slice a9 zs.length c9) := TF.c 9 (by decide)
    clear TF q0 q1 q2 q3 q4 q5 q6 q7 q8 q9 z0 z1 z2 z3 z4 z5 z6 z7 z8 z9 zf0 zf1 zf2 zf3 zf4 zf5 zf6 zf7 zf8 zf9
    generalize (((((((((wl.setCell ⟨A, 0, none⟩ (.int .i64 (f : Nat))).setCell ⟨A, 1, none⟩ (.int .u64 (n : Nat))).setCell ⟨A, 2, none⟩ (.int .u64 (t : Nat))).setCell ⟨A, 3, none⟩ (.int .i64 (k : Nat))).setCell ⟨A, 4, none⟩ (.int .i64 0)).setCell ⟨A, 5, none⟩ (.float .f64 0)).setCell ⟨A, 6, none⟩ (.int .i64 0)).setCell ⟨A, 7, none⟩ (.int .u64 0)).setCell ⟨A, 8, none⟩ (.slice a8 ys.length c8)).setCell ⟨A, 9, none⟩ (.slice a9 zs.length c9) = wf at HK r0 r1 r2 r3 r4 r5 r6 r7 r8 r9 ⊢
    refine bodyPost_ret (v := .agg #[.int .i64 (f : Nat), .int .u64 (n : Nat), .int .u64 (t : Nat), .int .i64 (k : Nat), .int .i64 0, .float .f64 0, .int .i64 0, .int .u64 0, .slice a8 ys.length c8, .slice a9 zs.length c9]) (by simp [results, Try.results32, go_sem, r0, r1, r2, r3, r4, r5, r6, r7, r8, r9]) rfl ?_
    clear r0 r1 r2 r3 r4 r5 r6 r7 r8 r9
    have RM : readM s = (⟨(f : Int), n, t, (k : Int), ((0 : Nat) : Int), 0, 0, 0, ys, zs⟩, s9) := by
      have hm : midR k s4 = (0, ys, s5) := by unfold midR; rw [if_pos K.out, E5.out]
      have ht : tagR k s5 = (0, 0, 0, s5) := by unfold tagR; rw [TG.out]; rfl
      simp only [readM, E1.out, E2.out, E3.out, E4.out, hm, ht, E9.out]
    rw [RM]
    have lA : A < w0.heap.size := T0.out.lt
    refine ⟨a8, c8, a9, c9, ?_, ⟨Q2.out.sl.keep HK (fun ad e _ f => by have := Q2.out.fr ad e; omega), Q1.out.sl.keep HK (fun ad e _ f => by have := Q1.out.fr ad e; omega)⟩, Q1.out.rd.keep HK PB.out.2.1 (fun k f e => by have := HS.out k f; have := PB.out.2.2.1; omega), ?_, (fun ad e => Nat.le_trans W1.out.size (Q2.out.fr ad e)), (fun ad e => Nat.le_trans W1.out.size (Q1.out.fr ad e))⟩
    · rfl
    · refine ((Keep.ofBelow W1.out).trans Q1.out.kp (fun i hi e => e.elim id (fun e => by have := PB.out; omega))).trans HK (fun i hi e => by have := PB.out; omega)
  · have K := Lib.hid hk
    have e0 : ((k : Int) == 0) = false := by rw [hk]; rfl
    have TG := Lib.hid (show tagged (k : Int) = true by rw [hk]; rfl)
    clear hk
    obtain ⟨v, s5, e5⟩ : ∃ v s5, numR 15 s4 = (v, s5) := ⟨_, _, rfl⟩
    have l5 := numR_len 15 s4
    have bv := numR_le 15 s4
    rw [e5] at l5 bv
    have E5 := Lib.hid e5
    have L5 := Lib.hid (show (s5.getD []).length ≤ 1000000 by have := L4.out; simp only at l5; omega)
    clear e5 l5
    simp only at bv
    go_wp2_with fail
    generalize w4.setCell ⟨B, 3, none⟩ (.int .i64 (k : Nat)) = v4 at R4 ⊢
    clear cc ff
    refine (rnumz (most := 15) R4.out rfl E5.out).mono ?_
    rintro e w5 ⟨rfl, h⟩
    have cc := h.ten.c 4 (by decide)
    have ff := h.ten.fz 4
    have R5 := Lib.hid (h.put 4 (.int .i64 (v : Nat)))
    clear h R4
    have k3b : (w5.setCell ⟨B, 4, none⟩ (.int .i64 (v : Nat))).cell? ⟨B, 3, none⟩ = some (.int .i64 (k : Nat)) := R5.out.ten.c 3 (by decide)
    go_wp2_with fail
    generalize w5.setCell ⟨B, 4, none⟩ (.int .i64 (v : Nat)) = v5 at R5 ⊢
    clear cc ff
    refine (hasv_is TG.out).mono ?_
    rintro e w' ⟨rfl, rfl⟩
    clear k3b
    obtain ⟨x, s6, e6⟩ : ∃ x s6, fltR s5 = (x, s6) := ⟨_, _, rfl⟩
    obtain ⟨z, s7, e7⟩ : ∃ z s7, numR 16 s6 = (z, s7) := ⟨_, _, rfl⟩
    obtain ⟨g, s8, e8⟩ : ∃ g s8, numR 18446744073709551615 s7 = (g, s8) := ⟨_, _, rfl⟩
    have l6 := fltR_len s5
    have l7 := numR_len 16 s6
    have l8 := numR_len 18446744073709551615 s7
    have bz := numR_le 16 s6
    rw [e6] at l6
    rw [e7] at l7 bz
    rw [e8] at l8
    have L8 := Lib.hid (show (s8.getD []).length ≤ 1000000 by have := L5.out; simp only at l6 l7 l8; omega)
    simp only at bz
    have E6 := Lib.hid e6
    have E7 := Lib.hid e7
    have E8 := Lib.hid e8
    clear e6 e7 e8 l6 l7 l8
    obtain ⟨y, hy⟩ : ∃ y : Int, (z : Int) + -1 = y := ⟨_, rfl⟩
    have Y := Lib.hid hy
    go_wp2_with fail
    refine (rfltz R5.out E6.out).mono ?_
    rintro e w6 ⟨rfl, h⟩
    have cc := h.ten.c 5 (by decide)
    have ff := h.ten.fz 5
    have R6 := Lib.hid (h.put 5 (.float .f64 x))
    clear h R5
    go_wp2_with fail
    generalize w6.setCell ⟨B, 5, none⟩ (.float .f64 x) = v6 at R6 ⊢
    clear cc ff
    refine (rnumz (most := 16) R6.out rfl E7.out).mono ?_
    rintro e w7 ⟨rfl, h⟩
    have cc := h.ten.c 6 (by decide)
    have ff := h.ten.fz 6
    have R7 := Lib.hid (h.put 6 (.int .i64 y))
    clear h R6
    go_wp2_with fail
    generalize w7.setCell ⟨B, 6, none⟩ (.int .i64 y) = v7 at R7 ⊢
    clear cc ff
    refine (rnumz (most := 18446744073709551615) R7.out rfl E8.out).mono ?_
    rintro e w8 ⟨rfl, h⟩
    have cc := h.ten.c 7 (by decide)
    have ff := h.ten.fz 7
    have R8 := Lib.hid (h.put 7 (.int .u64 (g : Nat)))
    clear h R7
    obtain ⟨zs, s9, e9⟩ : ∃ zs s9, bytR 20000 s8 = (zs, s9) := ⟨_, _, rfl⟩
    have E9 := Lib.hid e9
    clear e9
    go_wp2_with fail
    generalize w8.setCell ⟨B, 7, none⟩ (.int .u64 (g : Nat)) = v8 at R8 ⊢
    clear cc ff
    refine (rbytz (most := 20000) R8.out (by decide) L8.out E9.out).mono ?_
    rintro e w9 ⟨a9, c9, rfl, h, h2⟩
    have cc := h.ten.c 9 (by decide)
    have ff := h.ten.fz 9
    have Q1 := Lib.hid (h.put 9 (.slice a9 zs.length c9))
    have Q2 := Lib.hid (h2.put 9 (.slice a9 zs.length c9))
    clear h h2
    have q0 : (w9.setCell ⟨B, 9, none⟩ (.slice a9 zs.length c9)).cell? ⟨B, 0, none⟩ = some (.int .i64 (f : Nat)) := Q1.out.ten.c 0 (by decide)
    have q1 : (w9.setCell ⟨B, 9, none⟩ (.slice a9 zs.length c9)).cell? ⟨B, 1, none⟩ = some (.int .u64 (n : Nat)) := Q1.out.ten.c 1 (by decide)
    have q2 : (w9.setCell ⟨B, 9, none⟩ (.slice a9 zs.length c9)).cell? ⟨B, 2, none⟩ = some (.int .u64 (t : Nat)) := Q1.out.ten.c 2 (by decide)
    have q3 : (w9.setCell ⟨B, 9, none⟩ (.slice a9 zs.length c9)).cell? ⟨B, 3, none⟩ = some (.int .i64 (k : Nat)) := Q1.out.ten.c 3 (by decide)
    have q4 : (w9.setCell ⟨B, 9, none⟩ (.slice a9 zs.length c9)).cell? ⟨B, 4, none⟩ = some (.int .i64 (v : Nat)) := Q1.out.ten.c 4 (by decide)
    have q5 : (w9.setCell ⟨B, 9, none⟩ (.slice a9 zs.length c9)).cell? ⟨B, 5, none⟩ = some (.float .f64 x) := Q1.out.ten.c 5 (by decide)
    have q6 : (w9.setCell ⟨B, 9, none⟩ (.slice a9 zs.length c9)).cell? ⟨B, 6, none⟩ = some (.int .i64 y) := Q1.out.ten.c 6 (by decide)
    have q7 : (w9.setCell ⟨B, 9, none⟩ (.slice a9 zs.length c9)).cell? ⟨B, 7, none⟩ = some (.int .u64 (g : Nat)) := Q1.out.ten.c 7 (by decide)
    have q8 : (w9.setCell ⟨B, 9, none⟩ (.slice a9 zs.length c9)).cell? ⟨B, 8, none⟩ = some (.slice none 0 0) := Q1.out.ten.c 8 (by decide)
    have q9 : (w9.setCell ⟨B, 9, none⟩ (.slice a9 zs.length c9)).cell? ⟨B, 9, none⟩ = some (.slice a9 zs.length c9) := Q1.out.ten.c 9 (by decide)
    have TA : Hid (Ten (w9.setCell ⟨B, 9, none⟩ (.slice a9 zs.length c9)) A zeroV) := Lib.hid (T0.out.keep Q1.out.kp (fun e => e.elim (fun e => PB.out.2.1 e.symm) (fun e => PB.out.1 e.symm)))
    have z0 : (w9.setCell ⟨B, 9, none⟩ (.slice a9 zs.length c9)).cell? ⟨A, 0, none⟩ = some (.int .i64 0) := TA.out.c 0 (by decide)
    have zf0 := TA.out.fz 0
    have z1 : (w9.setCell ⟨B, 9, none⟩ (.slice a9 zs.length c9)).cell? ⟨A, 1, none⟩ = some (.int .u64 0) := TA.out.c 1 (by decide)
    have zf1 := TA.out.fz 1
    have z2 : (w9.setCell ⟨B, 9, none⟩ (.slice a9 zs.length c9)).cell? ⟨A, 2, none⟩ = some (.int .u64 0) := TA.out.c 2 (by decide)
    have zf2 := TA.out.fz 2
    have z3 : (w9.setCell ⟨B, 9, none⟩ (.slice a9 zs.length c9)).cell? ⟨A, 3, none⟩ = some (.int .i64 0) := TA.out.c 3 (by decide)
    have zf3 := TA.out.fz 3
    have z4 : (w9.setCell ⟨B, 9, none⟩ (.slice a9 zs.length c9)).cell? ⟨A, 4, none⟩ = some (.int .i64 0) := TA.out.c 4 (by decide)
    have zf4 := TA.out.fz 4
    have z5 : (w9.setCell ⟨B, 9, none⟩ (.slice a9 zs.length c9)).cell? ⟨A, 5, none⟩ = some (.float .f64 0) := TA.out.c 5 (by decide)
    have zf5 := TA.out.fz 5
    have z6 : (w9.setCell ⟨B, 9, none⟩ (.slice a9 zs.length c9)).cell? ⟨A, 6, none⟩ = some (.int .i64 0) := TA.out.c 6 (by decide)
    have zf6 := TA.out.fz 6
    have z7 : (w9.setCell ⟨B, 9, none⟩ (.slice a9 zs.length c9)).cell? ⟨A, 7, none⟩ = some (.int .u64 0) := TA.out.c 7 (by decide)
    have zf7 := TA.out.fz 7
    have z8 : (w9.setCell ⟨B, 9, none⟩ (.slice a9 zs.length c9)).cell? ⟨A, 8, none⟩ = some (.slice none 0 0) := TA.out.c 8 (by decide)
    have zf8 := TA.out.fz 8
    have z9 : (w9.setCell ⟨B, 9, none⟩ (.slice a9 zs.length c9)).cell? ⟨A, 9, none⟩ = some (.slice none 0 0) := TA.out.c 9 (by decide)
    have zf9 := TA.out.fz 9
    generalize hww : w9.setCell ⟨B, 9, none⟩ (.slice a9 zs.length c9) = wl at Q1 Q2 TA q0 q1 q2 q3 q4 q5 q6 q7 q8 q9 z0 z1 z2 z3 z4 z5 z6 z7 z8 z9 zf0 zf1 zf2 zf3 zf4 zf5 zf6 zf7 zf8 zf9
    go_wp2_with fail
    have HK : Keep (fun k => k = A) wl ((((((((((wl.setCell ⟨A, 0, none⟩ (.int .i64 (f : Nat))).setCell ⟨A, 1, none⟩ (.int .u64 (n : Nat))).setCell ⟨A, 2, none⟩ (.int .u64 (t : Nat))).setCell ⟨A, 3, none⟩ (.int .i64 (k : Nat))).setCell ⟨A, 4, none⟩ (.int .i64 (v : Nat))).setCell ⟨A, 5, none⟩ (.float .f64 x)).setCell ⟨A, 6, none⟩ (.int .i64 y)).setCell ⟨A, 7, none⟩ (.int .u64 (g : Nat))).setCell ⟨A, 8, none⟩ (.slice none 0 0)).setCell ⟨A, 9, none⟩ (.slice a9 zs.length c9)) := ten_set (F := fun k => k = A) (w := wl) (B := A) (.int .i64 (f : Nat)) (.int .u64 (n : Nat)) (.int .u64 (t : Nat)) (.int .i64 (k : Nat)) (.int .i64 (v : Nat)) (.float .f64 x) (.int .i64 y) (.int .u64 (g : Nat)) (.slice none 0 0) (.slice a9 zs.length c9) rfl
    have TF := ((((((((((TA.out.put 0 (.int .i64 (f : Nat))).put 1 (.int .u64 (n : Nat))).put 2 (.int .u64 (t : Nat))).put 3 (.int .i64 (k : Nat))).put 4 (.int .i64 (v : Nat))).put 5 (.float .f64 x)).put 6 (.int .i64 y)).put 7 (.int .u64 (g : Nat))).put 8 (.slice none 0 0)).put 9 (.slice a9 zs.length c9))
    have r0 : ((((((((((wl.setCell ⟨A, 0, none⟩ (.int .i64 (f : Nat))).setCell ⟨A, 1, none⟩ (.int .u64 (n : Nat))).setCell ⟨A, 2, none⟩ (.int .u64 (t : Nat))).setCell ⟨A, 3, none⟩ (.int .i64 (k : Nat))).setCell ⟨A, 4, none⟩ (.int .i64 (v : Nat))).setCell ⟨A, 5, none⟩ (.float .f64 x)).setCell ⟨A, 6, none⟩ (.int .i64 y)).setCell ⟨A, 7, none⟩ (.int .u64 (g : Nat))).setCell ⟨A, 8, none⟩ (.slice none 0 0)).setCell ⟨A, 9, none⟩ (.slice a9 zs.length c9)).cell? ⟨A, 0, none⟩ = some (.int .i64 (f : Nat)) := TF.c 0 (by decide)
    have r1 : ((((((((((wl.setCell ⟨A, 0, none⟩ (.int .i64 (f : Nat))).setCell ⟨A, 1, none⟩ (.int .u64 (n : Nat))).setCell ⟨A, 2, none⟩ (.int .u64 (t : Nat))).setCell ⟨A, 3, none⟩ (.int .i64 (k : Nat))).setCell ⟨A, 4, none⟩ (.int .i64 (v : Nat))).setCell ⟨A, 5, none⟩ (.float .f64 x)).setCell ⟨A, 6, none⟩ (.int .i64 y)).setCell ⟨A, 7, none⟩ (.int .u64 (g : Nat))).setCell ⟨A, 8, none⟩ (.slice none 0 0)).setCell ⟨A, 9, none⟩ (.slice a9 zs.length c9)).cell? ⟨A, 1, none⟩ = some (.int .u64 (n : Nat)) := TF.c 1 (by decide)
    have r2 : ((((((((((wl.setCell ⟨A, 0, none⟩ (.int .i64 (f : Nat))).setCell ⟨A, 1, none⟩ (.int .u64 (n : Nat))).setCell ⟨A, 2, none⟩ (.int .u64 (t : Nat))).setCell ⟨A, 3, none⟩ (.int .i64 (k : Nat))).setCell ⟨A, 4, none⟩ (.int .i64 (v : Nat))).setCell ⟨A, 5, none⟩ (.float .f64 x)).setCell ⟨A, 6, none⟩ (.int .i64 y)).setCell ⟨A, 7, none⟩ (.int .u64 (g : Nat))).setCell ⟨A, 8, none⟩ (.slice none 0 0)).setCell ⟨A, 9, none⟩ (.slice a9 zs.length c9)).cell? ⟨A, 2, none⟩ = some (.int .u64 (t : Nat)) := TF.c 2 (by decide)
    have r3 : ((((((((((wl.setCell ⟨A, 0, none⟩ (.int .i64 (f : Nat))).setCell ⟨A, 1, none⟩ (.int .u64 (n : Nat))).setCell ⟨A, 2, none⟩ (.int .u64 (t : Nat))).setCell ⟨A, 3, none⟩ (.int .i64 (k : Nat))).setCell ⟨A, 4, none⟩ (.int .i64 (v : Nat))).setCell ⟨A, 5, none⟩ (.float .f64 x)).setCell ⟨A, 6, none⟩ (.int .i64 y)).setCell ⟨A, 7, none⟩ (.int .u64 (g : Nat))).setCell ⟨A, 8, none⟩ (.slice none 0 0)).setCell ⟨A, 9, none⟩ (.slice a9 zs.length c9)).cell? ⟨A, 3, none⟩ = some (.int .i64 (k : Nat)) := TF.c 3 (by decide)
    have r4 : ((((((((((wl.setCell ⟨A, 0, none⟩ (.int .i64 (f : Nat))).setCell ⟨A, 1, none⟩ (.int .u64 (n : Nat))).setCell ⟨A, 2, none⟩ (.int .u64 (t : Nat))).setCell ⟨A, 3, none⟩ (.int .i64 (k : Nat))).setCell ⟨A, 4, none⟩ (.int .i64 (v : Nat))).setCell ⟨A, 5, none⟩ (.float .f64 x)).setCell ⟨A, 6, none⟩ (.int .i64 y)).setCell ⟨A, 7, none⟩ (.int .u64 (g : Nat))).setCell ⟨A, 8, none⟩ (.slice none 0 0)).setCell ⟨A, 9, none⟩ (.slice a9 zs.length c9)).cell? ⟨A, 4, none⟩ = some (.int .i64 (v : Nat)) := TF.c 4 (by decide)
    have r5 : ((((((((((wl.setCell ⟨A, 0, none⟩ (.int .i64 (f : Nat))).setCell ⟨A, 1, none⟩ (.int .u64 (n : Nat))).setCell ⟨A, 2, none⟩ (.int .u64 (t : Nat))).setCell ⟨A, 3, none⟩ (.int .i64 (k : Nat))).setCell ⟨A, 4, none⟩ (.int .i64 (v : Nat))).setCell ⟨A, 5, none⟩ (.float .f64 x)).setCell ⟨A, 6, none⟩ (.int .i64 y)).setCell ⟨A, 7, none⟩ (.int .u64 (g : Nat))).setCell ⟨A, 8, none⟩ (.slice none 0 0)).setCell ⟨A, 9, none⟩ (.slice a9 zs.length c9)).cell? ⟨A, 5, none⟩ = some (.float .f64 x) := TF.c 5 (by decide)
    have r6 : ((((((((((wl.setCell ⟨A, 0, none⟩ (.int .i64 (f : Nat))).setCell ⟨A, 1, none⟩ (.int .u64 (n : Nat))).setCell ⟨A, 2, none⟩ (.int .u64 (t : Nat))).setCell ⟨A, 3, none⟩ (.int .i64 (k : Nat))).setCell ⟨A, 4, none⟩ (.int .i64 (v : Nat))).setCell ⟨A, 5, none⟩ (.float .f64 x)).setCell ⟨A, 6, none⟩ (.int .i64 y)).setCell ⟨A, 7, none⟩ (.int .u64 (g : Nat))).setCell ⟨A, 8, none⟩ (.slice none 0 0)).setCell ⟨A, 9, none⟩ (.slice a9 zs.length c9)).cell? ⟨A, 6, none⟩ = some (.int .i64 y) := TF.c 6 (by decide)
    have r7 : ((((((((((wl.setCell ⟨A, 0, none⟩ (.int .i64 (f : Nat))).setCell ⟨A, 1, none⟩ (.int .u64 (n : Nat))).setCell ⟨A, 2, none⟩ (.int .u64 (t : Nat))).setCell ⟨A, 3, none⟩ (.int .i64 (k : Nat))).setCell ⟨A, 4, none⟩ (.int .i64 (v : Nat))).setCell ⟨A, 5, none⟩ (.float .f64 x)).setCell ⟨A, 6, none⟩ (.int .i64 y)).setCell ⟨A, 7, none⟩ (.int .u64 (g : Nat))).setCell ⟨A, 8, none⟩ (.slice none 0 0)).setCell ⟨A, 9, none⟩ (.slice a9 zs.length c9)).cell? ⟨A, 7, none⟩ = some (.int .u64 (g : Nat)) := TF.c 7 (by decide)
    have r8 : ((((((((((wl.setCell ⟨A, 0, none⟩ (.int .i64 (f : Nat))).setCell ⟨A, 1, none⟩ (.int .u64 (n : Nat))).setCell ⟨A, 2, none⟩ (.int .u64 (t : Nat))).setCell ⟨A, 3, none⟩ (.int .i64 (k : Nat))).setCell ⟨A, 4, none⟩ (.int .i64 (v : Nat))).setCell ⟨A, 5, none⟩ (.float .f64 x)).setCell ⟨A, 6, none⟩ (.int .i64 y)).setCell ⟨A, 7, none⟩ (.int .u64 (g : Nat))).setCell ⟨A, 8, none⟩ (.slice none 0 0)).setCell ⟨A, 9, none⟩ (.slice a9 zs.length c9)).cell? ⟨A, 8, none⟩ = some (.slice none 0 0) := TF.c 8 (by decide)
    have r9 : ((((((((((wl.setCell ⟨A, 0, none⟩ (.int .i64 (f : Nat))).setCell ⟨A, 1, none⟩ (.int .u64 (n : Nat))).setCell ⟨A, 2, none⟩ (.int .u64 (t : Nat))).setCell ⟨A, 3, none⟩ (.int .i64 (k : Nat))).setCell ⟨A, 4, none⟩ (.int .i64 (v : Nat))).setCell ⟨A, 5, none⟩ (.float .f64 x)).setCell ⟨A, 6, none⟩ (.int .i64 y)).setCell ⟨A, 7, none⟩ (.int .u64 (g : Nat))).setCell ⟨A, 8, none⟩ (.slice none 0 0)).setCell ⟨A, 9, none⟩ (.slice a9 zs.length c9)).cell? ⟨A, 9, none⟩ = some (.slice a9 zs.length c9) := TF.c 9 (by decide)
    clear TF q0 q1 q2 q3 q4 q5 q6 q7 q8 q9 z0 z1 z2 z3 z4 z5 z6 z7 z8 z9 zf0 zf1 zf2 zf3 zf4 zf5 zf6 zf7 zf8 zf9
    generalize (((((((((wl.setCell ⟨A, 0, none⟩ (.int .i64 (f : Nat))).setCell ⟨A, 1, none⟩ (.int .u64 (n : Nat))).setCell ⟨A, 2, none⟩ (.int .u64 (t : Nat))).setCell ⟨A, 3, none⟩ (.int .i64 (k : Nat))).setCell ⟨A, 4, none⟩ (.int .i64 (v : Nat))).setCell ⟨A, 5, none⟩ (.float .f64 x)).setCell ⟨A, 6, none⟩ (.int .i64 y)).setCell ⟨A, 7, none⟩ (.int .u64 (g : Nat))).setCell ⟨A, 8, none⟩ (.slice none 0 0)).setCell ⟨A, 9, none⟩ (.slice a9 zs.length c9) = wf at HK r0 r1 r2 r3 r4 r5 r6 r7 r8 r9 ⊢
    refine bodyPost_ret (v := .agg #[.int .i64 (f : Nat), .int .u64 (n : Nat), .int .u64 (t : Nat), .int .i64 (k : Nat), .int .i64 (v : Nat), .float .f64 x, .int .i64 y, .int .u64 (g : Nat), .slice none 0 0, .slice a9 zs.length c9]) (by simp [results, Try.results32, go_sem, r0, r1, r2, r3, r4, r5, r6, r7, r8, r9]) rfl ?_
    clear r0 r1 r2 r3 r4 r5 r6 r7 r8 r9
    have RM : readM s = (⟨(f : Int), n, t, (k : Int), (v : Int), x, (z : Int) - 1, g, [], zs⟩, s9) := by
      have hm : midR k s4 = (v, [], s5) := by unfold midR; rw [if_neg (by rw [K.out]; decide), E5.out]
      have ht : tagR k s5 = (x, (z : Int) - 1, g, s8) := by unfold tagR; rw [TG.out]; simp only [if_true, E6.out, E7.out, E8.out]
      simp only [readM, E1.out, E2.out, E3.out, E4.out, hm, ht, E9.out]
    rw [RM]
    have lA : A < w0.heap.size := T0.out.lt
    refine ⟨none, 0, a9, c9, ?_, ⟨Q2.out.sl.keep HK (fun ad e _ f => by have := Q2.out.fr ad e; omega), Q1.out.sl.keep HK (fun ad e _ f => by have := Q1.out.fr ad e; omega)⟩, Q1.out.rd.keep HK PB.out.2.1 (fun k f e => by have := HS.out k f; have := PB.out.2.2.1; omega), ?_, (fun ad e => Nat.le_trans W1.out.size (Q2.out.fr ad e)), (fun ad e => Nat.le_trans W1.out.size (Q1.out.fr ad e))⟩
    · rw [show y = (z : Int) - 1 by rw [← Y.out]; omega]; rfl
    · refine ((Keep.ofBelow W1.out).trans Q1.out.kp (fun i hi e => e.elim id (fun e => by have := PB.out; omega))).trans HK (fun i hi e => by have := PB.out; omega)
  · have K := Lib.hid hk
    have e0 : ((k : Int) == 0) = false := by rw [hk]; rfl
    have TG := Lib.hid (show tagged (k : Int) = false by rw [hk]; rfl)
    clear hk
    obtain ⟨v, s5, e5⟩ : ∃ v s5, numR 15 s4 = (v, s5) := ⟨_, _, rfl⟩
    have l5 := numR_len 15 s4
    have bv := numR_le 15 s4
    rw [e5] at l5 bv
    have E5 := Lib.hid e5
    have L5 := Lib.hid (show (s5.getD []).length ≤ 1000000 by have := L4.out; simp only at l5; omega)
    clear e5 l5
    simp only at bv
    go_wp2_with fail
    generalize w4.setCell ⟨B, 3, none⟩ (.int .i64 (k : Nat)) = v4 at R4 ⊢
    clear cc ff
    refine (rnumz (most := 15) R4.out rfl E5.out).mono ?_
    rintro e w5 ⟨rfl, h⟩
    have cc := h.ten.c 4 (by decide)
    have ff := h.ten.fz 4
    have R5 := Lib.hid (h.put 4 (.int .i64 (v : Nat)))
    clear h R4
    have k3b : (w5.setCell ⟨B, 4, none⟩ (.int .i64 (v : Nat))).cell? ⟨B, 3, none⟩ = some (.int .i64 (k : Nat)) := R5.out.ten.c 3 (by decide)
    go_wp2_with fail
    generalize w5.setCell ⟨B, 4, none⟩ (.int .i64 (v : Nat)) = v5 at R5 ⊢
    clear cc ff
    refine (hasv_is TG.out).mono ?_
    rintro e w' ⟨rfl, rfl⟩
    clear k3b
    obtain ⟨zs, s9, e9⟩ : ∃ zs s9, bytR 20000 s5 = (zs, s9) := ⟨_, _, rfl⟩
    have E9 := Lib.hid e9
    clear e9
    go_wp2_with fail
    refine (rbytz (most := 20000) R5.out (by decide) L5.out E9.out).mono ?_
    rintro e w6 ⟨a9, c9, rfl, h, h2⟩
    have cc := h.ten.c 9 (by decide)
    have ff := h.ten.fz 9
    have Q1 := Lib.hid (h.put 9 (.slice a9 zs.length c9))
    have Q2 := Lib.hid (h2.put 9 (.slice a9 zs.length c9))
    clear h h2
    have q0 : (w6.setCell ⟨B, 9, none⟩ (.slice a9 zs.length c9)).cell? ⟨B, 0, none⟩ = some (.int .i64 (f : Nat)) := Q1.out.ten.c 0 (by decide)
    have q1 : (w6.setCell ⟨B, 9, none⟩ (.slice a9 zs.length c9)).cell? ⟨B, 1, none⟩ = some (.int .u64 (n : Nat)) := Q1.out.ten.c 1 (by decide)
    have q2 : (w6.setCell ⟨B, 9, none⟩ (.slice a9 zs.length c9)).cell? ⟨B, 2, none⟩ = some (.int .u64 (t : Nat)) := Q1.out.ten.c 2 (by decide)
    have q3 : (w6.setCell ⟨B, 9, none⟩ (.slice a9 zs.length c9)).cell? ⟨B, 3, none⟩ = some (.int .i64 (k : Nat)) := Q1.out.ten.c 3 (by decide)
    have q4 : (w6.setCell ⟨B, 9, none⟩ (.slice a9 zs.length c9)).cell? ⟨B, 4, none⟩ = some (.int .i64 (v : Nat)) := Q1.out.ten.c 4 (by decide)
    have q5 : (w6.setCell ⟨B, 9, none⟩ (.slice a9 zs.length c9)).cell? ⟨B, 5, none⟩ = some (.float .f64 0) := Q1.out.ten.c 5 (by decide)
    have q6 : (w6.setCell ⟨B, 9, none⟩ (.slice a9 zs.length c9)).cell? ⟨B, 6, none⟩ = some (.int .i64 0) := Q1.out.ten.c 6 (by decide)
    have q7 : (w6.setCell ⟨B, 9, none⟩ (.slice a9 zs.length c9)).cell? ⟨B, 7, none⟩ = some (.int .u64 0) := Q1.out.ten.c 7 (by decide)
    have q8 : (w6.setCell ⟨B, 9, none⟩ (.slice a9 zs.length c9)).cell? ⟨B, 8, none⟩ = some (.slice none 0 0) := Q1.out.ten.c 8 (by decide)
    have q9 : (w6.setCell ⟨B, 9, none⟩ (.slice a9 zs.length c9)).cell? ⟨B, 9, none⟩ = some (.slice a9 zs.length c9) := Q1.out.ten.c 9 (by decide)
    have TA : Hid (Ten (w6.setCell ⟨B, 9, none⟩ (.slice a9 zs.length c9)) A zeroV) := Lib.hid (T0.out.keep Q1.out.kp (fun e => e.elim (fun e => PB.out.2.1 e.symm) (fun e => PB.out.1 e.symm)))
    have z0 : (w6.setCell ⟨B, 9, none⟩ (.slice a9 zs.length c9)).cell? ⟨A, 0, none⟩ = some (.int .i64 0) := TA.out.c 0 (by decide)
    have zf0 := TA.out.fz 0
    have z1 : (w6.setCell ⟨B, 9, none⟩ (.slice a9 zs.length c9)).cell? ⟨A, 1, none⟩ = some (.int .u64 0) := TA.out.c 1 (by decide)
    have zf1 := TA.out.fz 1
    have z2 : (w6.setCell ⟨B, 9, none⟩ (.slice a9 zs.length c9)).cell? ⟨A, 2, none⟩ = some (.int .u64 0) := TA.out.c 2 (by decide)
    have zf2 := TA.out.fz 2
    have z3 : (w6.setCell ⟨B, 9, none⟩ (.slice a9 zs.length c9)).cell? ⟨A, 3, none⟩ = some (.int .i64 0) := TA.out.c 3 (by decide)
    have zf3 := TA.out.fz 3
    have z4 : (w6.setCell ⟨B, 9, none⟩ (.slice a9 zs.length c9)).cell? ⟨A, 4, none⟩ = some (.int .i64 0) := TA.out.c 4 (by decide)
    have zf4 := TA.out.fz 4
    have z5 : (w6.setCell ⟨B, 9, none⟩ (.slice a9 zs.length c9)).cell? ⟨A, 5, none⟩ = some (.float .f64 0) := TA.out.c 5 (by decide)
    have zf5 := TA.out.fz 5
    have z6 : (w6.setCell ⟨B, 9, none⟩ (.slice a9 zs.length c9)).cell? ⟨A, 6, none⟩ = some (.int .i64 0) := TA.out.c 6 (by decide)
    have zf6 := TA.out.fz 6
    have z7 : (w6.setCell ⟨B, 9, none⟩ (.slice a9 zs.length c9)).cell? ⟨A, 7, none⟩ = some (.int .u64 0) := TA.out.c 7 (by decide)
    have zf7 := TA.out.fz 7
    have z8 : (w6.setCell ⟨B, 9, none⟩ (.slice a9 zs.length c9)).cell? ⟨A, 8, none⟩ = some (.slice none 0 0) := TA.out.c 8 (by decide)
    have zf8 := TA.out.fz 8
    have z9 : (w6.setCell ⟨B, 9, none⟩ (.slice a9 zs.length c9)).cell? ⟨A, 9, none⟩ = some (.slice none 0 0) := TA.out.c 9 (by decide)
    have zf9 := TA.out.fz 9
    generalize hww : w6.setCell ⟨B, 9, none⟩ (.slice a9 zs.length c9) = wl at Q1 Q2 TA q0 q1 q2 q3 q4 q5 q6 q7 q8 q9 z0 z1 z2 z3 z4 z5 z6 z7 z8 z9 zf0 zf1 zf2 zf3 zf4 zf5 zf6 zf7 zf8 zf9
    go_wp2_with fail
    have HK : Keep (fun k => k = A) wl ((((((((((wl.setCell ⟨A, 0, none⟩ (.int .i64 (f : Nat))).setCell ⟨A, 1, none⟩ (.int .u64 (n : Nat))).setCell ⟨A, 2, none⟩ (.int .u64 (t : Nat))).setCell ⟨A, 3, none⟩ (.int .i64 (k : Nat))).setCell ⟨A, 4, none⟩ (.int .i64 (v : Nat))).setCell ⟨A, 5, none⟩ (.float .f64 0)).setCell ⟨A, 6, none⟩ (.int .i64 0)).setCell ⟨A, 7, none⟩ (.int .u64 0)).setCell ⟨A, 8, none⟩ (.slice none 0 0)).setCell ⟨A, 9, none⟩ (.slice a9 zs.length c9)) := ten_set (F := fun k => k = A) (w := wl) (B := A) (.int .i64 (f : Nat)) (.int .u64 (n : Nat)) (.int .u64 (t : Nat)) (.int .i64 (k : Nat)) (.int .i64 (v : Nat)) (.float .f64 0) (.int .i64 0) (.int .u64 0) (.slice none 0 0) (.slice a9 zs.length c9) rfl
    have TF := ((((((((((TA.out.put 0 (.int .i64 (f : Nat))).put 1 (.int .u64 (n : Nat))).put 2 (.int .u64 (t : Nat))).put 3 (.int .i64 (k : Nat))).put 4 (.int .i64 (v : Nat))).put 5 (.float .f64 0)).put 6 (.int .i64 0)).put 7 (.int .u64 0)).put 8 (.slice none 0 0)).put 9 (.slice a9 zs.length c9))
    have r0 : ((((((((((wl.setCell ⟨A, 0, none⟩ (.int .i64 (f : Nat))).setCell ⟨A, 1, none⟩ (.int .u64 (n : Nat))).setCell ⟨A, 2, none⟩ (.int .u64 (t : Nat))).setCell ⟨A, 3, none⟩ (.int .i64 (k : Nat))).setCell ⟨A, 4, none⟩ (.int .i64 (v : Nat))).setCell ⟨A, 5, none⟩ (.float .f64 0)).setCell ⟨A, 6, none⟩ (.int .i64 0)).setCell ⟨A, 7, none⟩ (.int .u64 0)).setCell ⟨A, 8, none⟩ (.slice none 0 0)).setCell ⟨A, 9, none⟩ (.slice a9 zs.length c9)).cell? ⟨A, 0, none⟩ = some (.int .i64 (f : Nat)) := TF.c 0 (by decide)
    have r1 : ((((((((((wl.setCell ⟨A, 0, none⟩ (.int .i64 (f : Nat))).setCell ⟨A, 1, none⟩ (.int .u64 (n : Nat))).setCell ⟨A, 2, none⟩ (.int .u64 (t : Nat))).setCell ⟨A, 3, none⟩ (.int .i64 (k : Nat))).setCell ⟨A, 4, none⟩ (.int .i64 (v : Nat))).setCell ⟨A, 5, none⟩ (.float .f64 0)).setCell ⟨A, 6, none⟩ (.int .i64 0)).setCell ⟨A, 7, none⟩ (.int .u64 0)).setCell ⟨A, 8, none⟩ (.slice none 0 0)).setCell ⟨A, 9, none⟩ (.slice a9 zs.length c9)).cell? ⟨A, 1, none⟩ = some (.int .u64 (n : Nat)) := TF.c 1 (by decide)
    have r2 : ((((((((((wl.setCell ⟨A, 0, none⟩ (.int .i64 (f : Nat))).setCell ⟨A, 1, none⟩ (.int .u64 (n : Nat))).setCell ⟨A, 2, none⟩ (.int .u64 (t : Nat))).setCell ⟨A, 3, none⟩ (.int .i64 (k : Nat))).setCell ⟨A, 4, none⟩ (.int .i64 (v : Nat))).setCell ⟨A, 5, none⟩ (.float .f64 0)).setCell ⟨A, 6, none⟩ (.int .i64 0)).setCell ⟨A, 7, none⟩ (.int .u64 0)).setCell ⟨A, 8, none⟩ (.slice none 0 0)).setCell ⟨A, 9, none⟩ (.slice a9 zs.length c9)).cell? ⟨A, 2, none⟩ = some (.int .u64 (t : Nat)) := TF.c 2 (by decide)
    have r3 : ((((((((((wl.setCell ⟨A, 0, none⟩ (.int .i64 (f : Nat))).setCell ⟨A, 1, none⟩ (.int .u64 (n : Nat))).setCell ⟨A, 2, none⟩ (.int .u64 (t : Nat))).setCell ⟨A, 3, none⟩ (.int .i64 (k : Nat))).setCell ⟨A, 4, none⟩ (.int .i64 (v : Nat))).setCell ⟨A, 5, none⟩ (.float .f64 0)).setCell ⟨A, 6, none⟩ (.int .i64 0)).setCell ⟨A, 7, none⟩ (.int .u64 0)).setCell ⟨A, 8, none⟩ (.slice none 0 0)).setCell ⟨A, 9, none⟩ (.slice a9 zs.length c9)).cell? ⟨A, 3, none⟩ = some (.int .i64 (k : Nat)) := TF.c 3 (by decide)
    have r4 : ((((((((((wl.setCell ⟨A, 0, none⟩ (.int .i64 (f : Nat))).setCell ⟨A, 1, none⟩ (.int .u64 (n : Nat))).setCell ⟨A, 2, none⟩ (.int .u64 (t : Nat))).setCell ⟨A, 3, none⟩ (.int .i64 (k : Nat))).setCell ⟨A, 4, none⟩ (.int .i64 (v : Nat))).setCell ⟨A, 5, none⟩ (.float .f64 0)).setCell ⟨A, 6, none⟩ (.int .i64 0)).setCell ⟨A, 7, none⟩ (.int .u64 0)).setCell ⟨A, 8, none⟩ (.slice none 0 0)).setCell ⟨A, 9, none⟩ (.slice a9 zs.length c9)).cell? ⟨A, 4, none⟩ = some (.int .i64 (v : Nat)) := TF.c 4 (by decide)
    have r5 : ((((((((((wl.setCell ⟨A, 0, none⟩ (.int .i64 (f : Nat))).setCell ⟨A, 1, none⟩ (.int .u64 (n : Nat))).setCell ⟨A, 2, none⟩ (.int .u64 (t : Nat))).setCell ⟨A, 3, none⟩ (.int .i64 (k : Nat))).setCell ⟨A, 4, none⟩ (.int .i64 (v : Nat))).setCell ⟨A, 5, none⟩ (.float .f64 0)).setCell ⟨A, 6, none⟩ (.int .i64 0)).setCell ⟨A, 7, none⟩ (.int .u64 0)).setCell ⟨A, 8, none⟩ (.slice none 0 0)).setCell ⟨A, 9, none⟩ (.slice a9 zs.length c9)).cell? ⟨A, 5, none⟩ = some (.float .f64 0) := TF.c 5 (by decide)
    have r6 : ((((((((((wl.setCell ⟨A, 0, none⟩ (.int .i64 (f : Nat))).setCell ⟨A, 1, none⟩ (.int .u64 (n : Nat))).setCell ⟨A, 2, none⟩ (.int .u64 (t : Nat))).setCell ⟨A, 3, none⟩ (.int .i64 (k : Nat))).setCell ⟨A, 4, none⟩ (.int .i64 (v : Nat))).setCell ⟨A, 5, none⟩ (.float .f64 0)).setCell ⟨A, 6, none⟩ (.int .i64 0)).setCell ⟨A, 7, none⟩ (.int .u64 0)).setCell ⟨A, 8, none⟩ (.slice none 0 0)).setCell ⟨A, 9, none⟩ (.slice a9 zs.length c9)).cell? ⟨A, 6, none⟩ = some (.int .i64 0) := TF.c 6 (by decide)
    have r7 : ((((((((((wl.setCell ⟨A, 0, none⟩ (.int .i64 (f : Nat))).setCell ⟨A, 1, none⟩ (.int .u64 (n : Nat))).setCell ⟨A, 2, none⟩ (.int .u64 (t : Nat))).setCell ⟨A, 3, none⟩ (.int .i64 (k : Nat))).setCell ⟨A, 4, none⟩ (.int .i64 (v : Nat))).setCell ⟨A, 5, none⟩ (.float .f64 0)).setCell ⟨A, 6, none⟩ (.int .i64 0)).setCell ⟨A, 7, none⟩ (.int .u64 0)).setCell ⟨A, 8, none⟩ (.slice none 0 0)).setCell ⟨A, 9, none⟩ (.slice a9 zs.length c9)).cell? ⟨A, 7, none⟩ = some (.int .u64 0) := TF.c 7 (by decide)
    have r8 : ((((((((((wl.setCell ⟨A, 0, none⟩ (.int .i64 (f : Nat))).setCell ⟨A, 1, none⟩ (.int .u64 (n : Nat))).setCell ⟨A, 2, none⟩ (.int .u64 (t : Nat))).setCell ⟨A, 3, none⟩ (.int .i64 (k : Nat))).setCell ⟨A, 4, none⟩ (.int .i64 (v : Nat))).setCell ⟨A, 5, none⟩ (.float .f64 0)).setCell ⟨A, 6, none⟩ (.int .i64 0)).setCell ⟨A, 7, none⟩ (.int .u64 0)).setCell ⟨A, 8, none⟩ (.slice none 0 0)).setCell ⟨A, 9, none⟩ (.slice a9 zs.length c9)).cell? ⟨A, 8, none⟩ = some (.slice none 0 0) := TF.c 8 (by decide)
    have r9 : ((((((((((wl.setCell ⟨A, 0, none⟩ (.int .i64 (f : Nat))).setCell ⟨A, 1, none⟩ (.int .u64 (n : Nat))).setCell ⟨A, 2, none⟩ (.int .u64 (t : Nat))).setCell ⟨A, 3, none⟩ (.int .i64 (k : Nat))).setCell ⟨A, 4, none⟩ (.int .i64 (v : Nat))).setCell ⟨A, 5, none⟩ (.float .f64 0)).setCell ⟨A, 6, none⟩ (.int .i64 0)).setCell ⟨A, 7, none⟩ (.int .u64 0)).setCell ⟨A, 8, none⟩ (.slice none 0 0)).setCell ⟨A, 9, none⟩ (.slice a9 zs.length c9)).cell? ⟨A, 9, none⟩ = some (.slice a9 zs.length c9) := TF.c 9 (by decide)
    clear TF q0 q1 q2 q3 q4 q5 q6 q7 q8 q9 z0 z1 z2 z3 z4 z5 z6 z7 z8 z9 zf0 zf1 zf2 zf3 zf4 zf5 zf6 zf7 zf8 zf9
    generalize (((((((((wl.setCell ⟨A, 0, none⟩ (.int .i64 (f : Nat))).setCell ⟨A, 1, none⟩ (.int .u64 (n : Nat))).setCell ⟨A, 2, none⟩ (.int .u64 (t : Nat))).setCell ⟨A, 3, none⟩ (.int .i64 (k : Nat))).setCell ⟨A, 4, none⟩ (.int .i64 (v : Nat))).setCell ⟨A, 5, none⟩ (.float .f64 0)).setCell ⟨A, 6, none⟩ (.int .i64 0)).setCell ⟨A, 7, none⟩ (.int .u64 0)).setCell ⟨A, 8, none⟩ (.slice none 0 0)).setCell ⟨A, 9, none⟩ (.slice a9 zs.length c9) = wf at HK r0 r1 r2 r3 r4 r5 r6 r7 r8 r9 ⊢
    refine bodyPost_ret (v := .agg #[.int .i64 (f : Nat), .int .u64 (n : Nat), .int .u64 (t : Nat), .int .i64 (k : Nat), .int .i64 (v : Nat), .float .f64 0, .int .i64 0, .int .u64 0, .slice none 0 0, .slice a9 zs.length c9]) (by simp [results, Try.results32, go_sem, r0, r1, r2, r3, r4, r5, r6, r7, r8, r9]) rfl ?_
    clear r0 r1 r2 r3 r4 r5 r6 r7 r8 r9
    have RM : readM s = (⟨(f : Int), n, t, (k : Int), (v : Int), 0, 0, 0, [], zs⟩, s9) := by
      have hm : midR k s4 = (v, [], s5) := by unfold midR; rw [if_neg (by rw [K.out]; decide), E5.out]
      have ht : tagR k s5 = (0, 0, 0, s5) := by unfold tagR; rw [TG.out]; rfl
      simp only [readM, E1.out, E2.out, E3.out, E4.out, hm, ht, E9.out]
    rw [RM]
    have lA : A < w0.heap.size := T0.out.lt
    refine ⟨none, 0, a9, c9, ?_, ⟨Q2.out.sl.keep HK (fun ad e _ f => by have := Q2.out.fr ad e; omega), Q1.out.sl.keep HK (fun ad e _ f => by have := Q1.out.fr ad e; omega)⟩, Q1.out.rd.keep HK PB.out.2.1 (fun k f e => by have := HS.out k f; have := PB.out.2.2.1; omega), ?_, (fun ad e => Nat.le_trans W1.out.size (Q2.out.fr ad e)), (fun ad e => Nat.le_trans W1.out.size (Q1.out.fr ad e))⟩
    · rfl
    · refine ((Keep.ofBelow W1.out).trans Q1.out.kp (fun i hi e => e.elim id (fun e => by have := PB.out; omega))).trans HK (fun i hi e => by have := PB.out; omega)
  · have K := Lib.hid hk
    have e0 : ((k : Int) == 0) = false := by rw [hk]; rfl
    have TG := Lib.hid (show tagged (k : Int) = true by rw [hk]; rfl)
    clear hk
    obtain ⟨v, s5, e5⟩ : ∃ v s5, numR 15 s4 = (v, s5) := ⟨_, _, rfl⟩
    have l5 := numR_len 15 s4
    have bv := numR_le 15 s4
    rw [e5] at l5 bv
    have E5 := Lib.hid e5
    have L5 := Lib.hid (show (s5.getD []).length ≤ 1000000 by have := L4.out; simp only at l5; omega)
    clear e5 l5
    simp only at bv
    go_wp2_with fail
    generalize w4.setCell ⟨B, 3, none⟩ (.int .i64 (k : Nat)) = v4 at R4 ⊢
    clear cc ff
    refine (rnumz (most := 15) R4.out rfl E5.out).mono ?_
    rintro e w5 ⟨rfl, h⟩
    have cc := h.ten.c 4 (by decide)
    have ff := h.ten.fz 4
    have R5 := Lib.hid (h.put 4 (.int .i64 (v : Nat)))
    clear h R4
    have k3b : (w5.setCell ⟨B, 4, none⟩ (.int .i64 (v : Nat))).cell? ⟨B, 3, none⟩ = some (.int .i64 (k : Nat)) := R5.out.ten.c 3 (by decide)
    go_wp2_with fail
    generalize w5.setCell ⟨B, 4, none⟩ (.int .i64 (v : Nat)) = v5 at R5 ⊢
    clear cc ff
    refine (hasv_is TG.out).mono ?_
    rintro e w' ⟨rfl, rfl⟩
    clear k3b
    obtain ⟨x, s6, e6⟩ : ∃ x s6, fltR s5 = (x, s6) := ⟨_, _, rfl⟩
    obtain ⟨z, s7, e7⟩ : ∃ z s7, numR 16 s6 = (z, s7) := ⟨_, _, rfl⟩
    obtain ⟨g, s8, e8⟩ : ∃ g s8, numR 18446744073709551615 s7 = (g, s8) := ⟨_, _, rfl⟩
    have l6 := fltR_len s5
    have l7 := numR_len 16 s6
    have l8 := numR_len 18446744073709551615 s7
    have bz := numR_le 16 s6
    rw [e6] at l6
    rw [e7] at l7 bz
    rw [e8] at l8
    have L8 := Lib.hid (show (s8.getD []).length ≤ 1000000 by have := L5.out; simp only at l6 l7 l8; omega)
    simp only at bz
    have E6 := Lib.hid e6
    have E7 := Lib.hid e7
    have E8 := Lib.hid e8
    clear e6 e7 e8 l6 l7 l8
    obtain ⟨y, hy⟩ : ∃ y : Int, (z : Int) + -1 = y := ⟨_, rfl⟩
    have Y := Lib.hid hy
    go_wp2_with fail
    refine (rfltz R5.out E6.out).mono ?_
    rintro e w6 ⟨rfl, h⟩
    have cc := h.ten.c 5 (by decide)
    have ff := h.ten.fz 5
    have R6 := Lib.hid (h.put 5 (.float .f64 x))
    clear h R5
    go_wp2_with fail
    generalize w6.setCell ⟨B, 5, none⟩ (.float .f64 x) = v6 at R6 ⊢
    clear cc ff
    refine (rnumz (most := 16) R6.out rfl E7.out).mono ?_
    rintro e w7 ⟨rfl, h⟩
    have cc := h.ten.c 6 (by decide)
    have ff := h.ten.fz 6
    have R7 := Lib.hid (h.put 6 (.int .i64 y))
    clear h R6
    go_wp2_with fail
    generalize w7.setCell ⟨B, 6, none⟩ (.int .i64 y) = v7 at R7 ⊢
    clear cc ff
    refine (rnumz (most := 18446744073709551615) R7.out rfl E8.out).mono ?_
    rintro e w8 ⟨rfl, h⟩
    have cc := h.ten.c 7 (by decide)
    have ff := h.ten.fz 7
    have R8 := Lib.hid (h.put 7 (.int .u64 (g : Nat)))
    clear h R7
    obtain ⟨zs, s9, e9⟩ : ∃ zs s9, bytR 20000 s8 = (zs, s9) := ⟨_, _, rfl⟩
    have E9 := Lib.hid e9
    clear e9
    go_wp2_with fail
    generalize w8.setCell ⟨B, 7, none⟩ (.int .u64 (g : Nat)) = v8 at R8 ⊢
    clear cc ff
    refine (rbytz (most := 20000) R8.out (by decide) L8.out E9.out).mono ?_
    rintro e w9 ⟨a9, c9, rfl, h, h2⟩
    have cc := h.ten.c 9 (by decide)
    have ff := h.ten.fz 9
    have Q1 := Lib.hid (h.put 9 (.slice a9 zs.length c9))
    have Q2 := Lib.hid (h2.put 9 (.slice a9 zs.length c9))
    clear h h2
    have q0 : (w9.setCell ⟨B, 9, none⟩ (.slice a9 zs.length c9)).cell? ⟨B, 0, none⟩ = some (.int .i64 (f : Nat)) := Q1.out.ten.c 0 (by decide)
    have q1 : (w9.setCell ⟨B, 9, none⟩ (.slice a9 zs.length c9)).cell? ⟨B, 1, none⟩ = some (.int .u64 (n : Nat)) := Q1.out.ten.c 1 (by decide)
    have q2 : (w9.setCell ⟨B, 9, none⟩ (.slice a9 zs.length c9)).cell? ⟨B, 2, none⟩ = some (.int .u64 (t : Nat)) := Q1.out.ten.c 2 (by decide)
    have q3 : (w9.setCell ⟨B, 9, none⟩ (.slice a9 zs.length c9)).cell? ⟨B, 3, none⟩ = some (.int .i64 (k : Nat)) := Q1.out.ten.c 3 (by decide)
    have q4 : (w9.setCell ⟨B, 9, none⟩ (.slice a9 zs.length c9)).cell? ⟨B, 4, none⟩ = some (.int .i64 (v : Nat)) := Q1.out.ten.c 4 (by decide)
    have q5 : (w9.setCell ⟨B, 9, none⟩ (.slice a9 zs.length c9)).cell? ⟨B, 5, none⟩ = some (.float .f64 x) := Q1.out.ten.c 5 (by decide)
    have q6 : (w9.setCell ⟨B, 9, none⟩ (.slice a9 zs.length c9)).cell? ⟨B, 6, none⟩ = some (.int .i64 y) := Q1.out.ten.c 6 (by decide)
    have q7 : (w9.setCell ⟨B, 9, none⟩ (.slice a9 zs.length c9)).cell? ⟨B, 7, none⟩ = some (.int .u64 (g : Nat)) := Q1.out.ten.c 7 (by decide)
    have q8 : (w9.setCell ⟨B, 9, none⟩ (.slice a9 zs.length c9)).cell? ⟨B, 8, none⟩ = some (.slice none 0 0) := Q1.out.ten.c 8 (by decide)
    have q9 : (w9.setCell ⟨B, 9, none⟩ (.slice a9 zs.length c9)).cell? ⟨B, 9, none⟩ = some (.slice a9 zs.length c9) := Q1.out.ten.c 9 (by decide)
    have TA : Hid (Ten (w9.setCell ⟨B, 9, none⟩ (.slice a9 zs.length c9)) A zeroV) := Lib.hid (T0.out.keep Q1.out.kp (fun e => e.elim (fun e => PB.out.2.1 e.symm) (fun e => PB.out.1 e.symm)))
    have z0 : (w9.setCell ⟨B, 9, none⟩ (.slice a9 zs.length c9)).cell? ⟨A, 0, none⟩ = some (.int .i64 0) := TA.out.c 0 (by decide)
    have zf0 := TA.out.fz 0
    have z1 : (w9.setCell ⟨B, 9, none⟩ (.slice a9 zs.length c9)).cell? ⟨A, 1, none⟩ = some (.int .u64 0) := TA.out.c 1 (by decide)
    have zf1 := TA.out.fz 1
    have z2 : (w9.setCell ⟨B, 9, none⟩ (.slice a9 zs.length c9)).cell? ⟨A, 2, none⟩ = some (.int .u64 0) := TA.out.c 2 (by decide)
    have zf2 := TA.out.fz 2
    have z3 : (w9.setCell ⟨B, 9, none⟩ (.slice a9 zs.length c9)).cell? ⟨A, 3, none⟩ = some (.int .i64 0) := TA.out.c 3 (by decide)
    have zf3 := TA.out.fz 3
    have z4 : (w9.setCell ⟨B, 9, none⟩ (.slice a9 zs.length c9)).cell? ⟨A, 4, none⟩ = some (.int .i64 0) := TA.out.c 4 (by decide)
    have zf4 := TA.out.fz 4
    have z5 : (w9.setCell ⟨B, 9, none⟩ (.slice a9 zs.length c9)).cell? ⟨A, 5, none⟩ = some (.float .f64 0) := TA.out.c 5 (by decide)
    have zf5 := TA.out.fz 5
    have z6 : (w9.setCell ⟨B, 9, none⟩ (.slice a9 zs.length c9)).cell? ⟨A, 6, none⟩ = some (.int .i64 0) := TA.out.c 6 (by decide)
    have zf6 := TA.out.fz 6
    have z7 : (w9.setCell ⟨B, 9, none⟩ (.slice a9 zs.length c9)).cell? ⟨A, 7, none⟩ = some (.int .u64 0) := TA.out.c 7 (by decide)
    have zf7 := TA.out.fz 7
    have z8 : (w9.setCell ⟨B, 9, none⟩ (.slice a9 zs.length c9)).cell? ⟨A, 8, none⟩ = some (.slice none 0 0) := TA.out.c 8 (by decide)
    have zf8 := TA.out.fz 8
    have z9 : (w9.setCell ⟨B, 9, none⟩ (.slice a9 zs.length c9)).cell? ⟨A, 9, none⟩ = some (.slice none 0 0) := TA.out.c 9 (by decide)
    have zf9 := TA.out.fz 9
    generalize hww : w9.setCell ⟨B, 9, none⟩ (.slice a9 zs.length c9) = wl at Q1 Q2 TA q0 q1 q2 q3 q4 q5 q6 q7 q8 q9 z0 z1 z2 z3 z4 z5 z6 z7 z8 z9 zf0 zf1 zf2 zf3 zf4 zf5 zf6 zf7 zf8 zf9
    go_wp2_with fail
    have HK : Keep (fun k => k = A) wl ((((((((((wl.setCell ⟨A, 0, none⟩ (.int .i64 (f : Nat))).setCell ⟨A, 1, none⟩ (.int .u64 (n : Nat))).setCell ⟨A, 2, none⟩ (.int .u64 (t : Nat))).setCell ⟨A, 3, none⟩ (.int .i64 (k : Nat))).setCell ⟨A, 4, none⟩ (.int .i64 (v : Nat))).setCell ⟨A, 5, none⟩ (.float .f64 x)).setCell ⟨A, 6, none⟩ (.int .i64 y)).setCell ⟨A, 7, none⟩ (.int .u64 (g : Nat))).setCell ⟨A, 8, none⟩ (.slice none 0 0)).setCell ⟨A, 9, none⟩ (.slice a9 zs.length c9)) := ten_set (F := fun k => k = A) (w := wl) (B := A) (.int .i64 (f : Nat)) (.int .u64 (n : Nat)) (.int .u64 (t : Nat)) (.int .i64 (k : Nat)) (.int .i64 (v : Nat)) (.float .f64 x) (.int .i64 y) (.int .u64 (g : Nat)) (.slice none 0 0) (.slice a9 zs.length c9) rfl
    have TF := ((((((((((TA.out.put 0 (.int .i64 (f : Nat))).put 1 (.int .u64 (n : Nat))).put 2 (.int .u64 (t : Nat))).put 3 (.int .i64 (k : Nat))).put 4 (.int .i64 (v : Nat))).put 5 (.float .f64 x)).put 6 (.int .i64 y)).put 7 (.int .u64 (g : Nat))).put 8 (.slice none 0 0)).put 9 (.slice a9 zs.length c9))
    have r0 : ((((((((((wl.setCell ⟨A, 0, none⟩ (.int .i64 (f : Nat))).setCell ⟨A, 1, none⟩ (.int .u64 (n : Nat))).setCell ⟨A, 2, none⟩ (.int .u64 (t : Nat))).setCell ⟨A, 3, none⟩ (.int .i64 (k : Nat))).setCell ⟨A, 4, none⟩ (.int .i64 (v : Nat))).setCell ⟨A, 5, none⟩ (.float .f64 x)).setCell ⟨A, 6, none⟩ (.int .i64 y)).setCell ⟨A, 7, none⟩ (.int .u64 (g : Nat))).setCell ⟨A, 8, none⟩ (.slice none 0 0)).setCell ⟨A, 9, none⟩ (.slice a9 zs.length c9)).cell? ⟨A, 0, none⟩ = some (.int .i64 (f : Nat)) := TF.c 0 (by decide)
    have r1 : ((((((((((wl.setCell ⟨A, 0, none⟩ (.int .i64 (f : Nat))).setCell ⟨A, 1, none⟩ (.int .u64 (n : Nat))).setCell ⟨A, 2, none⟩ (.int .u64 (t : Nat))).setCell ⟨A, 3, none⟩ (.int .i64 (k : Nat))).setCell ⟨A, 4, none⟩ (.int .i64 (v : Nat))).setCell ⟨A, 5, none⟩ (.float .f64 x)).setCell ⟨A, 6, none⟩ (.int .i64 y)).setCell ⟨A, 7, none⟩ (.int .u64 (g : Nat))).setCell ⟨A, 8, none⟩ (.slice none 0 0)).setCell ⟨A, 9, none⟩ (.slice a9 zs.length c9)).cell? ⟨A, 1, none⟩ = some (.int .u64 (n : Nat)) := TF.c 1 (by decide)
    have r2 : ((((((((((wl.setCell ⟨A, 0, none⟩ (.int .i64 (f : Nat))).setCell ⟨A, 1, none⟩ (.int .u64 (n : Nat))).setCell ⟨A, 2, none⟩ (.int .u64 (t : Nat))).setCell ⟨A, 3, none⟩ (.int .i64 (k : Nat))).setCell ⟨A, 4, none⟩ (.int .i64 (v : Nat))).setCell ⟨A, 5, none⟩ (.float .f64 x)).setCell ⟨A, 6, none⟩ (.int .i64 y)).setCell ⟨A, 7, none⟩ (.int .u64 (g : Nat))).setCell ⟨A, 8, none⟩ (.slice none 0 0)).setCell ⟨A, 9, none⟩ (.slice a9 zs.length c9)).cell? ⟨A, 2, none⟩ = some (.int .u64 (t : Nat)) := TF.c 2 (by decide)
    have r3 : ((((((((((wl.setCell ⟨A, 0, none⟩ (.int .i64 (f : Nat))).setCell ⟨A, 1, none⟩ (.int .u64 (n : Nat))).setCell ⟨A, 2, none⟩ (.int .u64 (t : Nat))).setCell ⟨A, 3, none⟩ (.int .i64 (k : Nat))).setCell ⟨A, 4, none⟩ (.int .i64 (v : Nat))).setCell ⟨A, 5, none⟩ (.float .f64 x)).setCell ⟨A, 6, none⟩ (.int .i64 y)).setCell ⟨A, 7, none⟩ (.int .u64 (g : Nat))).setCell ⟨A, 8, none⟩ (.slice none 0 0)).setCell ⟨A, 9, none⟩ (.slice a9 zs.length c9)).cell? ⟨A, 3, none⟩ = some (.int .i64 (k : Nat)) := TF.c 3 (by decide)
    have r4 : ((((((((((wl.setCell ⟨A, 0, none⟩ (.int .i64 (f : Nat))).setCell ⟨A, 1, none⟩ (.int .u64 (n : Nat))).setCell ⟨A, 2, none⟩ (.int .u64 (t : Nat))).setCell ⟨A, 3, none⟩ (.int .i64 (k : Nat))).setCell ⟨A, 4, none⟩ (.int .i64 (v : Nat))).setCell ⟨A, 5, none⟩ (.float .f64 x)).setCell ⟨A, 6, none⟩ (.int .i64 y)).setCell ⟨A, 7, none⟩ (.int .u64 (g : Nat))).setCell ⟨A, 8, none⟩ (.slice none 0 0)).setCell ⟨A, 9, none⟩ (.slice a9 zs.length c9)).cell? ⟨A, 4, none⟩ = some (.int .i64 (v : Nat)) := TF.c 4 (by decide)
    have r5 : ((((((((((wl.setCell ⟨A, 0, none⟩ (.int .i64 (f : Nat))).setCell ⟨A, 1, none⟩ (.int .u64 (n : Nat))).setCell ⟨A, 2, none⟩ (.int .u64 (t : Nat))).setCell ⟨A, 3, none⟩ (.int .i64 (k : Nat))).setCell ⟨A, 4, none⟩ (.int .i64 (v : Nat))).setCell ⟨A, 5, none⟩ (.float .f64 x)).setCell ⟨A, 6, none⟩ (.int .i64 y)).setCell ⟨A, 7, none⟩ (.int .u64 (g : Nat))).setCell ⟨A, 8, none⟩ (.slice none 0 0)).setCell ⟨A, 9, none⟩ (.slice a9 zs.length c9)).cell? ⟨A, 5, none⟩ = some (.float .f64 x) := TF.c 5 (by decide)
    have r6 : ((((((((((wl.setCell ⟨A, 0, none⟩ (.int .i64 (f : Nat))).setCell ⟨A, 1, none⟩ (.int .u64 (n : Nat))).setCell ⟨A, 2, none⟩ (.int .u64 (t : Nat))).setCell ⟨A, 3, none⟩ (.int .i64 (k : Nat))).setCell ⟨A, 4, none⟩ (.int .i64 (v : Nat))).setCell ⟨A, 5, none⟩ (.float .f64 x)).setCell ⟨A, 6, none⟩ (.int .i64 y)).setCell ⟨A, 7, none⟩ (.int .u64 (g : Nat))).setCell ⟨A, 8, none⟩ (.slice none 0 0)).setCell ⟨A, 9, none⟩ (.slice a9 zs.length c9)).cell? ⟨A, 6, none⟩ = some (.int .i64 y) := TF.c 6 (by decide)
    have r7 : ((((((((((wl.setCell ⟨A, 0, none⟩ (.int .i64 (f : Nat))).setCell ⟨A, 1, none⟩ (.int .u64 (n : Nat))).setCell ⟨A, 2, none⟩ (.int .u64 (t : Nat))).setCell ⟨A, 3, none⟩ (.int .i64 (k : Nat))).setCell ⟨A, 4, none⟩ (.int .i64 (v : Nat))).setCell ⟨A, 5, none⟩ (.float .f64 x)).setCell ⟨A, 6, none⟩ (.int .i64 y)).setCell ⟨A, 7, none⟩ (.int .u64 (g : Nat))).setCell ⟨A, 8, none⟩ (.slice none 0 0)).setCell ⟨A, 9, none⟩ (.slice a9 zs.length c9)).cell? ⟨A, 7, none⟩ = some (.int .u64 (g : Nat)) := TF.c 7 (by decide)
    have r8 : ((((((((((wl.setCell ⟨A, 0, none⟩ (.int .i64 (f : Nat))).setCell ⟨A, 1, none⟩ (.int .u64 (n : Nat))).setCell ⟨A, 2, none⟩ (.int .u64 (t : Nat))).setCell ⟨A, 3, none⟩ (.int .i64 (k : Nat))).setCell ⟨A, 4, none⟩ (.int .i64 (v : Nat))).setCell ⟨A, 5, none⟩ (.float .f64 x)).setCell ⟨A, 6, none⟩ (.int .i64 y)).setCell ⟨A, 7, none⟩ (.int .u64 (g : Nat))).setCell ⟨A, 8, none⟩ (.slice none 0 0)).setCell ⟨A, 9, none⟩ (.slice a9 zs.length c9)).cell? ⟨A, 8, none⟩ = some (.slice none 0 0) := TF.c 8 (by decide)
    have r9 : ((((((((((wl.setCell ⟨A, 0, none⟩ (.int .i64 (f : Nat))).setCell ⟨A, 1, none⟩ (.int .u64 (n : Nat))).setCell ⟨A, 2, none⟩ (.int .u64 (t : Nat))).setCell ⟨A, 3, none⟩ (.int .i64 (k : Nat))).setCell ⟨A, 4, none⟩ (.int .i64 (v : Nat))).setCell ⟨A, 5, none⟩ (.float .f64 x)).setCell ⟨A, 6, none⟩ (.int .i64 y)).setCell ⟨A, 7, none⟩ (.int .u64 (g : Nat))).setCell ⟨A, 8, none⟩ (.slice none 0 0)).setCell ⟨A, 9, none⟩ (.slice a9 zs.length c9)).cell? ⟨A, 9, none⟩ = some (.slice a9 zs.length c9) := TF.c 9 (by decide)
    clear TF q0 q1 q2 q3 q4 q5 q6 q7 q8 q9 z0 z1 z2 z3 z4 z5 z6 z7 z8 z9 zf0 zf1 zf2 zf3 zf4 zf5 zf6 zf7 zf8 zf9
    generalize (((((((((wl.setCell ⟨A, 0, none⟩ (.int .i64 (f : Nat))).setCell ⟨A, 1, none⟩ (.int .u64 (n : Nat))).setCell ⟨A, 2, none⟩ (.int .u64 (t : Nat))).setCell ⟨A, 3, none⟩ (.int .i64 (k : Nat))).setCell ⟨A, 4, none⟩ (.int .i64 (v : Nat))).setCell ⟨A, 5, none⟩ (.float .f64 x)).setCell ⟨A, 6, none⟩ (.int .i64 y)).setCell ⟨A, 7, none⟩ (.int .u64 (g : Nat))).setCell ⟨A, 8, none⟩ (.slice none 0 0)).setCell ⟨A, 9, none⟩ (.slice a9 zs.length c9) = wf at HK r0 r1 r2 r3 r4 r5 r6 r7 r8 r9 ⊢
    refine bodyPost_ret (v := .agg #[.int .i64 (f : Nat), .int .u64 (n : Nat), .int .u64 (t : Nat), .int .i64 (k : Nat), .int .i64 (v : Nat), .float .f64 x, .int .i64 y, .int .u64 (g : Nat), .slice none 0 0, .slice a9 zs.length c9]) (by simp [results, Try.results32, go_sem, r0, r1, r2, r3, r4, r5, r6, r7, r8, r9]) rfl ?_
    clear r0 r1 r2 r3 r4 r5 r6 r7 r8 r9
    have RM : readM s = (⟨(f : Int), n, t, (k : Int), (v : Int), x, (z : Int) - 1, g, [], zs⟩, s9) := by
      have hm : midR k s4 = (v, [], s5) := by unfold midR; rw [if_neg (by rw [K.out]; decide), E5.out]
      have ht : tagR k s5 = (x, (z : Int) - 1, g, s8) := by unfold tagR; rw [TG.out]; simp only [if_true, E6.out, E7.out, E8.out]
      simp only [readM, E1.out, E2.out, E3.out, E4.out, hm, ht, E9.out]
    rw [RM]
    have lA : A < w0.heap.size := T0.out.lt
    refine ⟨none, 0, a9, c9, ?_, ⟨Q2.out.sl.keep HK (fun ad e _ f => by have := Q2.out.fr ad e; omega), Q1.out.sl.keep HK (fun ad e _ f => by have := Q1.out.fr ad e; omega)⟩, Q1.out.rd.keep HK PB.out.2.1 (fun k f e => by have := HS.out k f; have := PB.out.2.2.1; omega), ?_, (fun ad e => Nat.le_trans W1.out.size (Q2.out.fr ad e)), (fun ad e => Nat.le_trans W1.out.size (Q1.out.fr ad e))⟩
    · rw [show y = (z : Int) - 1 by rw [← Y.out]; omega]; rfl
    · refine ((Keep.ofBelow W1.out).trans Q1.out.kp (fun i hi e => e.elim id (fun e => by have := PB.out; omega))).trans HK (fun i hi e => by have := PB.out; omega)

end Go.Proofs.Ytjdnaonhfacpoaa
