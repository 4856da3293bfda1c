/-
  The document's own: a message out of bytes.
-/
import Derived.Test.YtjdnaonhfacpoaaJget
import Derived.Test.YtjdnaonhfacpoaaJrput
namespace Go.Proofs.Ytjdnaonhfacpoaa
open Go.RowKit

theorem rd_box {W w0 : World} {bs : List Nat} {a : Option Addr} {cap : Nat} {t : TypeId} (hs : SlAt bV 256 W a cap bs) (hb : Below W.heap.size W w0) :
    RdAt (w0.alloc (.cells #[.slice a bs.length cap, .bool false] t)) w0.heap.size (fun k => k < W.heap.size) (some bs) := by
  refine ⟨a, cap, by simp, by simp, fun i => by simp, by simp, (hs.below hb).below (below_alloc (Below.refl _ _) _), fun ad e h0 => ?_, fun h => by have := hb.size; omega⟩
  have h0 : bs ≠ [] := h0
  obtain ⟨b, off, e2, hl, _⟩ := hs.cell 0 (List.length_pos_iff.2 h0)
  rw [e] at e2
  cases e2
  exact hl

abbrev fA (f : Nat) : Array Value := #[.int .i64 (f : Nat), .int .u64 0, .int .u64 0, .int .i64 0, .int .i64 0, .float .f64 0, .int .i64 0, .int .u64 0, .slice none 0 0, .slice none 0 0]
theorem ten_first (w : World) (f : Nat) (t : TypeId) : Ten (w.alloc (.cells (fA f) t)) w.heap.size (upd zeroV 0 (.int .i64 (f : Nat))) := by
  refine ⟨fun o ho => ?_, fun o => by simp⟩
  rcases (show o = 0 ∨ o = 1 ∨ o = 2 ∨ o = 3 ∨ o = 4 ∨ o = 5 ∨ o = 6 ∨ o = 7 ∨ o = 8 ∨ o = 9 by omega) with rfl | rfl | rfl | rfl | rfl | rfl | rfl | rfl | rfl | rfl <;> simp [zeroV, upd]

theorem rrnumz {W w : World} {p B most n : Nat} {z : Int} {S : Nat → Prop} {s s' : Option (List Nat)} {V : Nat → Value} {a : Option Addr} {cap : Nat} {ys : List Nat} (h : RdM W p B S s V a cap ys w) (hz : (most : Int) = z) (hr : numR most s = (n, s')) :
    Calls Try.prog 38 #[.pointer (some ⟨p, 0, none⟩), .int .u64 z] w fun e w' => e = .returned (.int .u64 (n : Nat)) ∧ RdM W p B S s' V a cap ys w' := by
  subst hz
  have := rrnum_any w p S s most h.rd
  rw [hr] at this
  exact this.mono fun e w' hp => h.call hp
theorem rrfltz {W w : World} {p B x : Nat} {S : Nat → Prop} {s s' : Option (List Nat)} {V : Nat → Value} {a : Option Addr} {cap : Nat} {ys : List Nat} (h : RdM W p B S s V a cap ys w) (hr : fltR s = (x, s')) :
    Calls Try.prog 40 #[.pointer (some ⟨p, 0, none⟩)] w fun e w' => e = .returned (.float .f64 x) ∧ RdM W p B S s' V a cap ys w' := by
  have := rrfloat_any w p S s h.rd
  rw [hr] at this
  exact this.mono fun e w' hp => h.call hp
theorem rrbytz {W w : World} {p B : Nat} {S : Nat → Prop} {s s' : Option (List Nat)} {V : Nat → Value} {a : Option Addr} {cap : Nat} {ys zs : List Nat} {most : Int} (h : RdM W p B S s V a cap ys w) (hS : ∀ k, S k → k < W.heap.size) (hm : -9223372036854775808 ≤ most ∧ most ≤ 9223372036854775807) (hb : (s.getD []).length ≤ 1000000) (hr : bytR most s = (zs, s')) :
    Calls Try.prog 39 #[.pointer (some ⟨p, 0, none⟩), .int .i64 most] w fun e w' => ∃ a2 c2, e = .returned (.slice a2 zs.length c2) ∧ RdM W p B S s' V a2 c2 zs w' ∧ RdM W p B S s' V a cap ys w' := by
  have := rrbytes_any w p S s most h.rd (fun k f => Nat.lt_of_lt_of_le (hS k f) h.kp.size) hm hb
  rw [hr] at this
  exact this.mono fun e w' hp => h.body hp

def RGetPost (W : World) (bs : List Nat) (e : Ending) (w' : World) : Prop :=
  ∃ ba bc sa sc, e = .returned (.tuple #[.agg (msgA (gotM bs) ba bc sa sc), .bool (okM bs)]) ∧ MsgS w' (gotM bs) ba bc sa sc ∧ Below W.heap.size W w'

set_option maxRecDepth 20000 in
set_option maxHeartbeats 32000000 in
theorem rgetm_any (W : World) (bs : List Nat) (ao : Option Addr) (cap : Nat) (hs : SlAt bV 256 W ao cap bs) (hl : bs.length ≤ 1000000) :
    Calls Try.prog 18 #[.slice ao bs.length cap] W (RGetPost W bs) := by
  have hst := store_float
  have B1 := below_alloc (Below.refl _ W) (.cells zA 41)
  have W0 := Lib.hid (below_alloc B1 (.cells #[.slice ao bs.length cap, .bool false] 68))
  have RD0 := rd_box (t := 68) hs B1
  rw [show (W.alloc (.cells zA 41)).heap.size = W.heap.size + 1 by simp] at RD0
  have T0 := (ten_new W 41).keep (F := fun _ => False) (Keep.ofBelow (below_alloc (Below.refl _ _) (.cells #[.slice ao bs.length cap, .bool false] 68))) id
  have hlt := hs.lt
  clear hs B1
  obtain ⟨f, s1, e1⟩ : ∃ f s1, numR 15 (some bs) = (f, s1) := ⟨_, _, rfl⟩
  obtain ⟨n, s2, e2⟩ : ∃ n s2, numR 18446744073709551615 s1 = (n, s2) := ⟨_, _, rfl⟩
  obtain ⟨t, s3, e3⟩ : ∃ t s3, numR 65535 s2 = (t, s3) := ⟨_, _, rfl⟩
  obtain ⟨k, s4, e4⟩ : ∃ k s4, numR 3 s3 = (k, s4) := ⟨_, _, rfl⟩
  have bf : f ≤ 15 := by have := numR_le 15 (some bs); rw [e1] at this; exact this
  have bk : k ≤ 3 := by have := numR_le 3 s3; rw [e4] at this; exact this
  have l1 := numR_len 15 (some bs)
  have l2 := numR_len 18446744073709551615 s1
  have l3 := numR_len 65535 s2
  have l4 := numR_len 3 s3
  rw [e1] at l1
  rw [e2] at l2
  rw [e3] at l3
  rw [e4] at l4
  have L4 := Lib.hid (show (s4.getD []).length ≤ 1000000 by simp only [Option.getD_some] at l1 l2 l3 l4; omega)
  clear l1 l2 l3 l4 hl
  have E1 := Lib.hid e1
  have E2 := Lib.hid e2
  have E3 := Lib.hid e3
  have E4 := Lib.hid e4
  clear e1 e2 e3 e4
  obtain ⟨b1, hb1⟩ : ∃ b, endR (readM (some bs)).2 = b := ⟨_, rfl⟩
  obtain ⟨b2, hb2⟩ : ∃ b, goodM (readM (some bs)).1 = b := ⟨_, rfl⟩
  have OK := Lib.hid (show okM bs = (b1 && b2) by unfold okM; rw [hb1, hb2])
  have GB1 := Lib.hid hb1
  have GB2 := Lib.hid hb2
  have OM := Lib.hid (read_ok (some bs) (by simpa using hlt))
  clear hb1 hb2 hlt
  have RD0 := Lib.hid RD0
  have T0 := Lib.hid T0
  go_enter Try.func18, Try.ntmps18
  go_wp2_with fail
  generalize (W.alloc (.cells zA 41)).alloc (.cells #[.slice ao bs.length cap, .bool false] 68) = w0 at RD0 T0 W0 ⊢
  obtain ⟨p, hp⟩ : ∃ p, W.heap.size + 1 = p := ⟨_, rfl⟩
  obtain ⟨A, hAA⟩ : ∃ A, W.heap.size = A := ⟨_, rfl⟩
  have PP := Lib.hid (show A = W.heap.size ∧ p = A + 1 ∧ p < w0.heap.size by obtain ⟨a, c, hv⟩ := RD0.out; have := hv.inP; omega)
  rw [hp] at RD0 ⊢
  rw [hAA] at T0 ⊢
  clear hp hAA
  have C1 := rrnum_any w0 p _ _ 15 RD0.out
  rw [E1.out] at C1
  refine C1.mono ?_
  clear C1
  rintro e w1 ⟨rfl, hA1, hK1⟩
  have HS := Lib.hid (show ∀ k, k < W.heap.size → k < (w1.alloc (.cells (fA f) 41)).heap.size from fun k f => by have := hK1.size; have := PP.out; simp; omega)
  have R0 : Hid (RdM (w1.alloc (.cells (fA f) 41)) p w1.heap.size (fun k => k < W.heap.size) s1 (upd zeroV 0 (.int .i64 (f : Nat))) none 0 [] (w1.alloc (.cells (fA f) 41))) :=
    Lib.hid ⟨hA1.below (below_alloc (Below.refl _ _) _), ten_first w1 f _, Keep.refl _ _, SlAt.none _ _ _, (fun ad e => by cases e), (by have := hK1.size; have := PP.out; omega), (fun k f => by have := hK1.size; have := PP.out; omega), (by have := hK1.size; have := PP.out; simp; omega)⟩
  have T1 := Lib.hid ((T0.out.keep hK1 (by have := PP.out; omega)).keep (F := fun _ => False) (Keep.ofBelow (below_alloc (Below.refl _ _) (.cells (fA f) 41))) id)
  have K1 := Lib.hid (show Keep (fun k => k = p) w0 (w1.alloc (.cells (fA f) 41)) from hK1.trans (Keep.ofBelow (F := fun k => k = p) (below_alloc (Below.refl _ _) _)) (fun _ _ e => e))
  have B0 := Lib.hid (show A < w1.heap.size ∧ p < w1.heap.size by have := hK1.size; have := PP.out; omega)
  have B00 := Lib.hid (show w1.heap.size < (w1.alloc (.cells (fA f) 41)).heap.size by simp)
  have HB1 := Lib.hid hK1.size
  clear hA1 hK1 T0 RD0
  go_wp2_with fail
  generalize w1.alloc (.cells (fA f) 41) = wb at R0 T1 K1 HS B00 ⊢
  obtain ⟨B, hB⟩ : ∃ B, w1.heap.size = B := ⟨_, rfl⟩
  have HB0 := Lib.hid (show w0.heap.size ≤ B by have := HB1.out; omega)
  rw [hB] at R0 B0 B00 ⊢
  clear hB
  refine (rrnumz (most := 18446744073709551615) R0.out rfl E2.out).mono ?_
  rintro e w2 ⟨rfl, h⟩
  have cc := h.ten.c 1 (by decide)
  have ff := h.ten.fz 1
  have R1 := Lib.hid (h.put 1 (.int .u64 (n : Nat)))
  clear h R0
  go_wp2_with fail
  generalize w2.setCell ⟨B, 1, none⟩ (.int .u64 (n : Nat)) = v1 at R1 ⊢
  clear cc ff
  refine (rrnumz (most := 65535) R1.out rfl E3.out).mono ?_
  rintro e w3 ⟨rfl, h⟩
  have cc := h.ten.c 2 (by decide)
  have ff := h.ten.fz 2
  have R2 := Lib.hid (h.put 2 (.int .u64 (t : Nat)))
  clear h R1
  go_wp2_with fail
  generalize w3.setCell ⟨B, 2, none⟩ (.int .u64 (t : Nat)) = v2 at R2 ⊢
  clear cc ff
  refine (rrnumz (most := 3) R2.out rfl E4.out).mono ?_
  rintro e w4 ⟨rfl, h⟩
  have cc := h.ten.c 3 (by decide)
  have ff := h.ten.fz 3
  have R3 := Lib.hid (h.put 3 (.int .i64 (k : Nat)))
  clear h R2
  have k3 : (w4.setCell ⟨B, 3, none⟩ (.int .i64 (k : Nat))).cell? ⟨B, 3, none⟩ = some (.int .i64 (k : Nat)) := R3.out.ten.c 3 (by decide)
  rcases (show k = 0 ∨ k = 1 ∨ k = 2 ∨ k = 3 by omega) with hk | hk | hk | hk
  · have K := Lib.hid hk
    have e0 : ((k : Int) == 0) = true := by rw [hk]; rfl
    have e1 : ((k : Int) == 1) = false := by rw [hk]; rfl
    have e3 : ((k : Int) == 3) = false := by rw [hk]; rfl
    have TG := Lib.hid (show tagged (k : Int) = false by rw [hk]; rfl)
    clear hk
    obtain ⟨ys, s5, e5⟩ : ∃ ys s5, bytR 256 s4 = (ys, s5) := ⟨_, _, rfl⟩
    have l5 := bytR_len 256 s4
    rw [e5] at l5
    have E5 := Lib.hid e5
    have L5 := Lib.hid (show (s5.getD []).length ≤ 1000000 by have := L4.out; simp only at l5; omega)
    clear e5 l5
    go_wp2_with fail
    generalize w4.setCell ⟨B, 3, none⟩ (.int .i64 (k : Nat)) = v3 at R3 ⊢
    clear cc ff
    refine (rrbytz (most := 256) R3.out HS.out (by decide) L4.out E5.out).mono ?_
    rintro e w5 ⟨a8, c8, rfl, h, _⟩
    have cc := h.ten.c 8 (by decide)
    have ff := h.ten.fz 8
    have R4 := Lib.hid (h.put 8 (.slice a8 ys.length c8))
    clear h R3
    have k3b : (w5.setCell ⟨B, 8, none⟩ (.slice a8 ys.length c8)).cell? ⟨B, 3, none⟩ = some (.int .i64 (k : Nat)) := R4.out.ten.c 3 (by decide)
    obtain ⟨zs, s9, e9⟩ : ∃ zs s9, bytR 20000 s5 = (zs, s9) := ⟨_, _, rfl⟩
    have E9 := Lib.hid e9
    clear e9
    go_wp2_with fail
    generalize w5.setCell ⟨B, 8, none⟩ (.slice a8 ys.length c8) = v4 at R4 ⊢
    clear cc ff
    clear k3b
    refine (rrbytz (most := 20000) R4.out HS.out (by decide) L5.out E9.out).mono ?_
    rintro e w6 ⟨a9, c9, rfl, h, h2⟩
    have cc := h.ten.c 9 (by decide)
    have ff := h.ten.fz 9
    have Q1 := Lib.hid (h.put 9 (.slice a9 zs.length c9))
    have Q2 := Lib.hid (h2.put 9 (.slice a9 zs.length c9))
    clear h h2 R4
    go_wp2_with fail
    generalize w6.setCell ⟨B, 9, none⟩ (.slice a9 zs.length c9) = wl at Q1 Q2 ⊢
    clear cc ff
    have RM : readM (some bs) = (⟨(f : Int), n, t, (k : Int), 0, 0, 0, 0, ys, zs⟩, s9) := by
      have hm : midR k s4 = (0, ys, s5) := by unfold midR; rw [if_pos K.out, E5.out]
      have ht : tagR k s5 = (0, 0, 0, s5) := by unfold tagR; rw [TG.out]; rfl
      simp only [readM, E1.out, E2.out, E3.out, E4.out, hm, ht, E9.out]
      rfl
    obtain ⟨m, hm⟩ : ∃ m : Msg, ⟨(f : Int), n, t, (k : Int), 0, 0, 0, 0, ys, zs⟩ = m := ⟨_, rfl⟩
    have HM := Lib.hid hm
    have O : Hid (MsgOk ⟨(f : Int), n, t, (k : Int), 0, 0, 0, 0, ys, zs⟩) := Lib.hid (by have := OM.out; rw [RM] at this; exact this)
    have G1 : Hid (endR s9 = b1) := Lib.hid (by have := GB1.out; rw [RM] at this; exact this)
    have G2 : Hid (goodM ⟨(f : Int), n, t, (k : Int), 0, 0, 0, 0, ys, zs⟩ = b2) := Lib.hid (by have := GB2.out; rw [RM] at this; exact this)
    have GM : Hid (gotM bs = if b1 && b2 then ⟨(f : Int), n, t, (k : Int), 0, 0, 0, 0, ys, zs⟩ else zeroM) := Lib.hid (by unfold gotM; rw [OK.out, RM])
    clear RM hm HM m
    have MS : Hid (MsgS wl ⟨(f : Int), n, t, (k : Int), 0, 0, 0, 0, ys, zs⟩ a8 c8 a9 c9) := Lib.hid ⟨Q2.out.sl, Q1.out.sl⟩
    have TA := Lib.hid (T1.out.keep Q1.out.kp (fun e => e.elim (fun e => by have := PP.out; omega) (fun e => by have := B0.out; omega)))
    have KB := Lib.hid (show Keep (fun k => k = p) w0 wl from K1.out.trans Q1.out.kp (fun i hi e => e.elim id (fun e => by have := HB0.out; omega)))
    have BL := Lib.hid (show Below W.heap.size W wl from W0.out.trans (KB.out.below (N := W.heap.size) W0.out.size (fun i e => by have := PP.out; omega)))
    have q0 : wl.cell? ⟨B, 0, none⟩ = some (.int .i64 (f : Nat)) := Q1.out.ten.c 0 (by decide)
    have q1 : wl.cell? ⟨B, 1, none⟩ = some (.int .u64 (n : Nat)) := Q1.out.ten.c 1 (by decide)
    have q2 : wl.cell? ⟨B, 2, none⟩ = some (.int .u64 (t : Nat)) := Q1.out.ten.c 2 (by decide)
    have q3 : wl.cell? ⟨B, 3, none⟩ = some (.int .i64 (k : Nat)) := Q1.out.ten.c 3 (by decide)
    have q4 : wl.cell? ⟨B, 4, none⟩ = some (.int .i64 0) := Q1.out.ten.c 4 (by decide)
    have q5 : wl.cell? ⟨B, 5, none⟩ = some (.float .f64 0) := Q1.out.ten.c 5 (by decide)
    have q6 : wl.cell? ⟨B, 6, none⟩ = some (.int .i64 0) := Q1.out.ten.c 6 (by decide)
    have q7 : wl.cell? ⟨B, 7, none⟩ = some (.int .u64 0) := Q1.out.ten.c 7 (by decide)
    have q8 : wl.cell? ⟨B, 8, none⟩ = some (.slice a8 ys.length c8) := Q1.out.ten.c 8 (by decide)
    have q9 : wl.cell? ⟨B, 9, none⟩ = some (.slice a9 zs.length c9) := Q1.out.ten.c 9 (by decide)
    have hend := rrend_any wl p _ s9 Q1.out.rd
    rw [G1.out] at hend
    refine hend.mono ?_
    rintro e w' ⟨rfl, rfl⟩
    clear hend
    cases b1
    case false =>
      have z0 : wl.cell? ⟨A, 0, none⟩ = some (.int .i64 0) := TA.out.c 0 (by decide)
      have zf0 := TA.out.fz 0
      have z1 : wl.cell? ⟨A, 1, none⟩ = some (.int .u64 0) := TA.out.c 1 (by decide)
      have zf1 := TA.out.fz 1
      have z2 : wl.cell? ⟨A, 2, none⟩ = some (.int .u64 0) := TA.out.c 2 (by decide)
      have zf2 := TA.out.fz 2
      have z3 : wl.cell? ⟨A, 3, none⟩ = some (.int .i64 0) := TA.out.c 3 (by decide)
      have zf3 := TA.out.fz 3
      have z4 : wl.cell? ⟨A, 4, none⟩ = some (.int .i64 0) := TA.out.c 4 (by decide)
      have zf4 := TA.out.fz 4
      have z5 : wl.cell? ⟨A, 5, none⟩ = some (.float .f64 0) := TA.out.c 5 (by decide)
      have zf5 := TA.out.fz 5
      have z6 : wl.cell? ⟨A, 6, none⟩ = some (.int .i64 0) := TA.out.c 6 (by decide)
      have zf6 := TA.out.fz 6
      have z7 : wl.cell? ⟨A, 7, none⟩ = some (.int .u64 0) := TA.out.c 7 (by decide)
      have zf7 := TA.out.fz 7
      have z8 : wl.cell? ⟨A, 8, none⟩ = some (.slice none 0 0) := TA.out.c 8 (by decide)
      have zf8 := TA.out.fz 8
      have z9 : wl.cell? ⟨A, 9, none⟩ = some (.slice none 0 0) := TA.out.c 9 (by decide)
      have zf9 := TA.out.fz 9
      go_wp2_with fail
      have TF : MsgB ((((((((((wl.setCell ⟨A, 0, none⟩ (.int .i64 0)).setCell ⟨A, 1, none⟩ (.int .u64 0)).setCell ⟨A, 2, none⟩ (.int .u64 0)).setCell ⟨A, 3, none⟩ (.int .i64 0)).setCell ⟨A, 4, none⟩ (.int .i64 0)).setCell ⟨A, 5, none⟩ (.float .f64 0)).setCell ⟨A, 6, none⟩ (.int .i64 0)).setCell ⟨A, 7, none⟩ (.int .u64 0)).setCell ⟨A, 8, none⟩ (.slice none 0 0)).setCell ⟨A, 9, none⟩ (.slice none 0 0)) A zeroM none 0 none 0 := setz_cells TA.out
      have HK : Keep (fun k => k = A) wl ((((((((((wl.setCell ⟨A, 0, none⟩ (.int .i64 0)).setCell ⟨A, 1, none⟩ (.int .u64 0)).setCell ⟨A, 2, none⟩ (.int .u64 0)).setCell ⟨A, 3, none⟩ (.int .i64 0)).setCell ⟨A, 4, none⟩ (.int .i64 0)).setCell ⟨A, 5, none⟩ (.float .f64 0)).setCell ⟨A, 6, none⟩ (.int .i64 0)).setCell ⟨A, 7, none⟩ (.int .u64 0)).setCell ⟨A, 8, none⟩ (.slice none 0 0)).setCell ⟨A, 9, none⟩ (.slice none 0 0)) := setz_keep wl A
      clear z0 z1 z2 z3 z4 z5 z6 z7 z8 z9 zf0 zf1 zf2 zf3 zf4 zf5 zf6 zf7 zf8 zf9 q0 q1 q2 q3 q4 q5 q6 q7 q8 q9
      generalize (((((((((wl.setCell ⟨A, 0, none⟩ (.int .i64 0)).setCell ⟨A, 1, none⟩ (.int .u64 0)).setCell ⟨A, 2, none⟩ (.int .u64 0)).setCell ⟨A, 3, none⟩ (.int .i64 0)).setCell ⟨A, 4, none⟩ (.int .i64 0)).setCell ⟨A, 5, none⟩ (.float .f64 0)).setCell ⟨A, 6, none⟩ (.int .i64 0)).setCell ⟨A, 7, none⟩ (.int .u64 0)).setCell ⟨A, 8, none⟩ (.slice none 0 0)).setCell ⟨A, 9, none⟩ (.slice none 0 0) = wf at TF HK ⊢
      have r0 : wf.cell? ⟨A, 0, none⟩ = some (.int .i64 0) := TF.c0
      have r1 : wf.cell? ⟨A, 1, none⟩ = some (.int .u64 0) := TF.c1
      have r2 : wf.cell? ⟨A, 2, none⟩ = some (.int .u64 0) := TF.c2
      have r3 : wf.cell? ⟨A, 3, none⟩ = some (.int .i64 0) := TF.c3
      have r4 : wf.cell? ⟨A, 4, none⟩ = some (.int .i64 0) := TF.c4
      have r5 : wf.cell? ⟨A, 5, none⟩ = some (.float .f64 0) := TF.c5
      have r6 : wf.cell? ⟨A, 6, none⟩ = some (.int .i64 0) := TF.c6
      have r7 : wf.cell? ⟨A, 7, none⟩ = some (.int .u64 0) := TF.c7
      have r8 : wf.cell? ⟨A, 8, none⟩ = some (.slice none 0 0) := TF.c8
      have r9 : wf.cell? ⟨A, 9, none⟩ = some (.slice none 0 0) := TF.c9
      clear TF
      refine bodyPost_ret (v := .tuple #[.agg zA, .bool false]) (by simp [results, Try.results18, go_sem, r0, r1, r2, r3, r4, r5, r6, r7, r8, r9]) rfl ?_
      have hO : okM bs = false := by rw [OK.out]; rfl
      have hG : gotM bs = zeroM := by unfold gotM; rw [hO]; rfl
      refine ⟨none, 0, none, 0, ?_, ?_, ?_⟩
      · rw [hO, hG]; rfl
      · rw [hG]; exact msgS_none _
      · exact BL.out.trans (HK.below BL.out.size (fun k e => by have := PP.out; omega))
    go_wp2_with fail
    refine (rgood_is (m := ⟨(f : Int), n, t, (k : Int), 0, 0, 0, 0, ys, zs⟩) MS.out O.out G2.out).mono ?_
    rintro e w4 ⟨rfl, hb⟩
    have MS4 := Lib.hid (MS.out.below hb)
    have BL4 := Lib.hid (BL.out.trans (hb.mono BL.out.size))
    have TB := Lib.hid (TA.out.keep (F := fun _ => False) (show Keep (fun _ => False) wl w4 from ⟨hb.os, hb.tape, hb.output, hb.size, fun i hi _ => hb.block i hi⟩) id)
    replace q0 := cell_go q0 hb
    replace q1 := cell_go q1 hb
    replace q2 := cell_go q2 hb
    replace q3 := cell_go q3 hb
    replace q4 := cell_go q4 hb
    replace q5 := cell_go q5 hb
    replace q6 := cell_go q6 hb
    replace q7 := cell_go q7 hb
    replace q8 := cell_go q8 hb
    replace q9 := cell_go q9 hb
    have FB := Lib.hid (And.intro Q2.out.fr Q1.out.fr)
    clear hb MS TA BL Q1 Q2
    cases b2
    case false =>
      have z0 : w4.cell? ⟨A, 0, none⟩ = some (.int .i64 0) := TB.out.c 0 (by decide)
      have zf0 := TB.out.fz 0
      have z1 : w4.cell? ⟨A, 1, none⟩ = some (.int .u64 0) := TB.out.c 1 (by decide)
      have zf1 := TB.out.fz 1
      have z2 : w4.cell? ⟨A, 2, none⟩ = some (.int .u64 0) := TB.out.c 2 (by decide)
      have zf2 := TB.out.fz 2
      have z3 : w4.cell? ⟨A, 3, none⟩ = some (.int .i64 0) := TB.out.c 3 (by decide)
      have zf3 := TB.out.fz 3
      have z4 : w4.cell? ⟨A, 4, none⟩ = some (.int .i64 0) := TB.out.c 4 (by decide)
      have zf4 := TB.out.fz 4
      have z5 : w4.cell? ⟨A, 5, none⟩ = some (.float .f64 0) := TB.out.c 5 (by decide)
      have zf5 := TB.out.fz 5
      have z6 : w4.cell? ⟨A, 6, none⟩ = some (.int .i64 0) := TB.out.c 6 (by decide)
      have zf6 := TB.out.fz 6
      have z7 : w4.cell? ⟨A, 7, none⟩ = some (.int .u64 0) := TB.out.c 7 (by decide)
      have zf7 := TB.out.fz 7
      have z8 : w4.cell? ⟨A, 8, none⟩ = some (.slice none 0 0) := TB.out.c 8 (by decide)
      have zf8 := TB.out.fz 8
      have z9 : w4.cell? ⟨A, 9, none⟩ = some (.slice none 0 0) := TB.out.c 9 (by decide)
      have zf9 := TB.out.fz 9
      go_wp2_with fail
      have TF : MsgB ((((((((((w4.setCell ⟨A, 0, none⟩ (.int .i64 0)).setCell ⟨A, 1, none⟩ (.int .u64 0)).setCell ⟨A, 2, none⟩ (.int .u64 0)).setCell ⟨A, 3, none⟩ (.int .i64 0)).setCell ⟨A, 4, none⟩ (.int .i64 0)).setCell ⟨A, 5, none⟩ (.float .f64 0)).setCell ⟨A, 6, none⟩ (.int .i64 0)).setCell ⟨A, 7, none⟩ (.int .u64 0)).setCell ⟨A, 8, none⟩ (.slice none 0 0)).setCell ⟨A, 9, none⟩ (.slice none 0 0)) A zeroM none 0 none 0 := setz_cells TB.out
      have HK : Keep (fun k => k = A) w4 ((((((((((w4.setCell ⟨A, 0, none⟩ (.int .i64 0)).setCell ⟨A, 1, none⟩ (.int .u64 0)).setCell ⟨A, 2, none⟩ (.int .u64 0)).setCell ⟨A, 3, none⟩ (.int .i64 0)).setCell ⟨A, 4, none⟩ (.int .i64 0)).setCell ⟨A, 5, none⟩ (.float .f64 0)).setCell ⟨A, 6, none⟩ (.int .i64 0)).setCell ⟨A, 7, none⟩ (.int .u64 0)).setCell ⟨A, 8, none⟩ (.slice none 0 0)).setCell ⟨A, 9, none⟩ (.slice none 0 0)) := setz_keep w4 A
      clear z0 z1 z2 z3 z4 z5 z6 z7 z8 z9 zf0 zf1 zf2 zf3 zf4 zf5 zf6 zf7 zf8 zf9 q0 q1 q2 q3 q4 q5 q6 q7 q8 q9
      generalize (((((((((w4.setCell ⟨A, 0, none⟩ (.int .i64 0)).setCell ⟨A, 1, none⟩ (.int .u64 0)).setCell ⟨A, 2, none⟩ (.int .u64 0)).setCell ⟨A, 3, none⟩ (.int .i64 0)).setCell ⟨A, 4, none⟩ (.int .i64 0)).setCell ⟨A, 5, none⟩ (.float .f64 0)).setCell ⟨A, 6, none⟩ (.int .i64 0)).setCell ⟨A, 7, none⟩ (.int .u64 0)).setCell ⟨A, 8, none⟩ (.slice none 0 0)).setCell ⟨A, 9, none⟩ (.slice none 0 0) = wf at TF HK ⊢
      have r0 : wf.cell? ⟨A, 0, none⟩ = some (.int .i64 0) := TF.c0
      have r1 : wf.cell? ⟨A, 1, none⟩ = some (.int .u64 0) := TF.c1
      have r2 : wf.cell? ⟨A, 2, none⟩ = some (.int .u64 0) := TF.c2
      have r3 : wf.cell? ⟨A, 3, none⟩ = some (.int .i64 0) := TF.c3
      have r4 : wf.cell? ⟨A, 4, none⟩ = some (.int .i64 0) := TF.c4
      have r5 : wf.cell? ⟨A, 5, none⟩ = some (.float .f64 0) := TF.c5
      have r6 : wf.cell? ⟨A, 6, none⟩ = some (.int .i64 0) := TF.c6
      have r7 : wf.cell? ⟨A, 7, none⟩ = some (.int .u64 0) := TF.c7
      have r8 : wf.cell? ⟨A, 8, none⟩ = some (.slice none 0 0) := TF.c8
      have r9 : wf.cell? ⟨A, 9, none⟩ = some (.slice none 0 0) := TF.c9
      clear TF
      refine bodyPost_ret (v := .tuple #[.agg zA, .bool false]) (by simp [results, Try.results18, go_sem, r0, r1, r2, r3, r4, r5, r6, r7, r8, r9]) rfl ?_
      have hO : okM bs = false := by rw [OK.out]; rfl
      have hG : gotM bs = zeroM := by unfold gotM; rw [hO]; rfl
      refine ⟨none, 0, none, 0, ?_, ?_, ?_⟩
      · rw [hO, hG]; rfl
      · rw [hG]; exact msgS_none _
      · exact BL4.out.trans (HK.below BL4.out.size (fun k e => by have := PP.out; omega))
    have z0 : w4.cell? ⟨A, 0, none⟩ = some (.int .i64 0) := TB.out.c 0 (by decide)
    have zf0 := TB.out.fz 0
    have z1 : w4.cell? ⟨A, 1, none⟩ = some (.int .u64 0) := TB.out.c 1 (by decide)
    have zf1 := TB.out.fz 1
    have z2 : w4.cell? ⟨A, 2, none⟩ = some (.int .u64 0) := TB.out.c 2 (by decide)
    have zf2 := TB.out.fz 2
    have z3 : w4.cell? ⟨A, 3, none⟩ = some (.int .i64 0) := TB.out.c 3 (by decide)
    have zf3 := TB.out.fz 3
    have z4 : w4.cell? ⟨A, 4, none⟩ = some (.int .i64 0) := TB.out.c 4 (by decide)
    have zf4 := TB.out.fz 4
    have z5 : w4.cell? ⟨A, 5, none⟩ = some (.float .f64 0) := TB.out.c 5 (by decide)
    have zf5 := TB.out.fz 5
    have z6 : w4.cell? ⟨A, 6, none⟩ = some (.int .i64 0) := TB.out.c 6 (by decide)
    have zf6 := TB.out.fz 6
    have z7 : w4.cell? ⟨A, 7, none⟩ = some (.int .u64 0) := TB.out.c 7 (by decide)
    have zf7 := TB.out.fz 7
    have z8 : w4.cell? ⟨A, 8, none⟩ = some (.slice none 0 0) := TB.out.c 8 (by decide)
    have zf8 := TB.out.fz 8
    have z9 : w4.cell? ⟨A, 9, none⟩ = some (.slice none 0 0) := TB.out.c 9 (by decide)
    have zf9 := TB.out.fz 9
    go_wp2_with fail
    have TF : MsgB ((((((((((w4.setCell ⟨A, 0, none⟩ (.int .i64 (f : Nat))).setCell ⟨A, 1, none⟩ (.int .u64 (n : Nat))).setCell ⟨A, 2, none⟩ (.int .u64 (t : Nat))).setCell ⟨A, 3, none⟩ (.int .i64 (k : Nat))).setCell ⟨A, 4, none⟩ (.int .i64 0)).setCell ⟨A, 5, none⟩ (.float .f64 0)).setCell ⟨A, 6, none⟩ (.int .i64 0)).setCell ⟨A, 7, none⟩ (.int .u64 0)).setCell ⟨A, 8, none⟩ (.slice a8 ys.length c8)).setCell ⟨A, 9, none⟩ (.slice a9 zs.length c9)) A ⟨(f : Int), n, t, (k : Int), 0, 0, 0, 0, ys, zs⟩ a8 c8 a9 c9 := set_cells TB.out ⟨(f : Int), n, t, (k : Int), 0, 0, 0, 0, ys, zs⟩ a8 c8 a9 c9
    have HK : Keep (fun k => k = A) w4 ((((((((((w4.setCell ⟨A, 0, none⟩ (.int .i64 (f : Nat))).setCell ⟨A, 1, none⟩ (.int .u64 (n : Nat))).setCell ⟨A, 2, none⟩ (.int .u64 (t : Nat))).setCell ⟨A, 3, none⟩ (.int .i64 (k : Nat))).setCell ⟨A, 4, none⟩ (.int .i64 0)).setCell ⟨A, 5, none⟩ (.float .f64 0)).setCell ⟨A, 6, none⟩ (.int .i64 0)).setCell ⟨A, 7, none⟩ (.int .u64 0)).setCell ⟨A, 8, none⟩ (.slice a8 ys.length c8)).setCell ⟨A, 9, none⟩ (.slice a9 zs.length c9)) := set_keep w4 A ⟨(f : Int), n, t, (k : Int), 0, 0, 0, 0, ys, zs⟩ a8 c8 a9 c9
    clear z0 z1 z2 z3 z4 z5 z6 z7 z8 z9 zf0 zf1 zf2 zf3 zf4 zf5 zf6 zf7 zf8 zf9 q0 q1 q2 q3 q4 q5 q6 q7 q8 q9
    generalize (((((((((w4.setCell ⟨A, 0, none⟩ (.int .i64 (f : Nat))).setCell ⟨A, 1, none⟩ (.int .u64 (n : Nat))).setCell ⟨A, 2, none⟩ (.int .u64 (t : Nat))).setCell ⟨A, 3, none⟩ (.int .i64 (k : Nat))).setCell ⟨A, 4, none⟩ (.int .i64 0)).setCell ⟨A, 5, none⟩ (.float .f64 0)).setCell ⟨A, 6, none⟩ (.int .i64 0)).setCell ⟨A, 7, none⟩ (.int .u64 0)).setCell ⟨A, 8, none⟩ (.slice a8 ys.length c8)).setCell ⟨A, 9, none⟩ (.slice a9 zs.length c9) = wf at TF HK ⊢
    have r0 : wf.cell? ⟨A, 0, none⟩ = some (.int .i64 (f : Nat)) := TF.c0
    have r1 : wf.cell? ⟨A, 1, none⟩ = some (.int .u64 (n : Nat)) := TF.c1
    have r2 : wf.cell? ⟨A, 2, none⟩ = some (.int .u64 (t : Nat)) := TF.c2
    have r3 : wf.cell? ⟨A, 3, none⟩ = some (.int .i64 (k : Nat)) := TF.c3
    have r4 : wf.cell? ⟨A, 4, none⟩ = some (.int .i64 0) := TF.c4
    have r5 : wf.cell? ⟨A, 5, none⟩ = some (.float .f64 0) := TF.c5
    have r6 : wf.cell? ⟨A, 6, none⟩ = some (.int .i64 0) := TF.c6
    have r7 : wf.cell? ⟨A, 7, none⟩ = some (.int .u64 0) := TF.c7
    have r8 : wf.cell? ⟨A, 8, none⟩ = some (.slice a8 ys.length c8) := TF.c8
    have r9 : wf.cell? ⟨A, 9, none⟩ = some (.slice a9 zs.length c9) := TF.c9
    clear TF
    refine bodyPost_ret (v := .tuple #[.agg #[.int .i64 (f : Nat), .int .u64 (n : Nat), .int .u64 (t : Nat), .int .i64 (k : Nat), .int .i64 0, .float .f64 0, .int .i64 0, .int .u64 0, .slice a8 ys.length c8, .slice a9 zs.length c9], .bool true]) (by simp [results, Try.results18, go_sem, r0, r1, r2, r3, r4, r5, r6, r7, r8, r9]) rfl ?_
    refine ⟨a8, c8, a9, c9, ?_, ?_, ?_⟩
    · rw [OK.out, GM.out]; rfl
    · rw [GM.out]
      exact ⟨MS4.out.b.keep HK (fun ad e _ f => by have := FB.out.1 ad e; have := B0.out; have := B00.out; omega), MS4.out.s.keep HK (fun ad e _ f => by have := FB.out.2 ad e; have := B0.out; have := B00.out; omega)⟩
    · exact BL4.out.trans (HK.below BL4.out.size (fun k e => by have := PP.out; omega))
  · have K := Lib.hid hk
    have e0 : ((k : Int) == 0) = false := by rw [hk]; rfl
    have e1 : ((k : Int) == 1) = true := by rw [hk]; rfl
    have e3 : ((k : Int) == 3) = false := by rw [hk]; rfl
    have TG := Lib.hid (show tagged (k : Int) = true by rw [hk]; rfl)
    clear hk
    obtain ⟨v, s5, e5⟩ : ∃ v s5, numR 15 s4 = (v, s5) := ⟨_, _, rfl⟩
    have l5 := numR_len 15 s4
    have bv := numR_le 15 s4
    rw [e5] at l5 bv
    have E5 := Lib.hid e5
    have L5 := Lib.hid (show (s5.getD []).length ≤ 1000000 by have := L4.out; simp only at l5; omega)
    clear e5 l5
    simp only at bv
    go_wp2_with fail
    generalize w4.setCell ⟨B, 3, none⟩ (.int .i64 (k : Nat)) = v3 at R3 ⊢
    clear cc ff
    refine (rrnumz (most := 15) R3.out rfl E5.out).mono ?_
    rintro e w5 ⟨rfl, h⟩
    have cc := h.ten.c 4 (by decide)
    have ff := h.ten.fz 4
    have R4 := Lib.hid (h.put 4 (.int .i64 (v : Nat)))
    clear h R3
    have k3b : (w5.setCell ⟨B, 4, none⟩ (.int .i64 (v : Nat))).cell? ⟨B, 3, none⟩ = some (.int .i64 (k : Nat)) := R4.out.ten.c 3 (by decide)
    obtain ⟨x, s6, e6⟩ : ∃ x s6, fltR s5 = (x, s6) := ⟨_, _, rfl⟩
    obtain ⟨z, s7, e7⟩ : ∃ z s7, numR 16 s6 = (z, s7) := ⟨_, _, rfl⟩
    obtain ⟨g, s8, e8⟩ : ∃ g s8, numR 18446744073709551615 s7 = (g, s8) := ⟨_, _, rfl⟩
    have l6 := fltR_len s5
    have l7 := numR_len 16 s6
    have l8 := numR_len 18446744073709551615 s7
    have bz := numR_le 16 s6
    rw [e6] at l6
    rw [e7] at l7 bz
    rw [e8] at l8
    have L8 := Lib.hid (show (s8.getD []).length ≤ 1000000 by have := L5.out; simp only at l6 l7 l8; omega)
    simp only at bz
    have E6 := Lib.hid e6
    have E7 := Lib.hid e7
    have E8 := Lib.hid e8
    clear e6 e7 e8 l6 l7 l8
    obtain ⟨y, hy⟩ : ∃ y : Int, (z : Int) - 1 = y := ⟨_, rfl⟩
    have Y := Lib.hid hy
    go_wp2_with fail
    generalize w5.setCell ⟨B, 4, none⟩ (.int .i64 (v : Nat)) = v4 at R4 ⊢
    clear cc ff
    refine (rrfltz R4.out E6.out).mono ?_
    rintro e w6 ⟨rfl, h⟩
    have cc := h.ten.c 5 (by decide)
    have ff := h.ten.fz 5
    have R5 := Lib.hid (h.put 5 (.float .f64 x))
    clear h R4
    clear k3b
    go_wp2_with fail
    generalize w6.setCell ⟨B, 5, none⟩ (.float .f64 x) = v5 at R5 ⊢
    clear cc ff
    refine (rrnumz (most := 16) R5.out rfl E7.out).mono ?_
    rintro e w7 ⟨rfl, h⟩
    have cc := h.ten.c 6 (by decide)
    have ff := h.ten.fz 6
    have R6 := Lib.hid (h.put 6 (.int .i64 y))
    clear h R5
    go_wp2_with fail
    generalize w7.setCell ⟨B, 6, none⟩ (.int .i64 y) = v6 at R6 ⊢
    clear cc ff
    refine (rrnumz (most := 18446744073709551615) R6.out rfl E8.out).mono ?_
    rintro e w8 ⟨rfl, h⟩
    have cc := h.ten.c 7 (by decide)
    have ff := h.ten.fz 7
    have R7 := Lib.hid (h.put 7 (.int .u64 (g : Nat)))
    clear h R6
    obtain ⟨zs, s9, e9⟩ : ∃ zs s9, bytR 20000 s8 = (zs, s9) := ⟨_, _, rfl⟩
    have E9 := Lib.hid e9
    clear e9
    go_wp2_with fail
    generalize w8.setCell ⟨B, 7, none⟩ (.int .u64 (g : Nat)) = v7 at R7 ⊢
    clear cc ff
    refine (rrbytz (most := 20000) R7.out HS.out (by decide) L8.out E9.out).mono ?_
    rintro e w9 ⟨a9, c9, rfl, h, h2⟩
    have cc := h.ten.c 9 (by decide)
    have ff := h.ten.fz 9
    have Q1 := Lib.hid (h.put 9 (.slice a9 zs.length c9))
    have Q2 := Lib.hid (h2.put 9 (.slice a9 zs.length c9))
    clear h h2 R7
    go_wp2_with fail
    generalize w9.setCell ⟨B, 9, none⟩ (.slice a9 zs.length c9) = wl at Q1 Q2 ⊢
    clear cc ff
    have RM : readM (some bs) = (⟨(f : Int), n, t, (k : Int), (v : Int), x, y, g, [], zs⟩, s9) := by
      have hm : midR k s4 = (v, [], s5) := by unfold midR; rw [if_neg (by rw [K.out]; decide), E5.out]
      have ht : tagR k s5 = (x, (z : Int) - 1, g, s8) := by unfold tagR; rw [TG.out]; simp only [if_true, E6.out, E7.out, E8.out]
      simp only [readM, E1.out, E2.out, E3.out, E4.out, hm, ht, E9.out, Y.out]
    obtain ⟨m, hm⟩ : ∃ m : Msg, ⟨(f : Int), n, t, (k : Int), (v : Int), x, y, g, [], zs⟩ = m := ⟨_, rfl⟩
    have HM := Lib.hid hm
    have O : Hid (MsgOk ⟨(f : Int), n, t, (k : Int), (v : Int), x, y, g, [], zs⟩) := Lib.hid (by have := OM.out; rw [RM] at this; exact this)
    have G1 : Hid (endR s9 = b1) := Lib.hid (by have := GB1.out; rw [RM] at this; exact this)
    have G2 : Hid (goodM ⟨(f : Int), n, t, (k : Int), (v : Int), x, y, g, [], zs⟩ = b2) := Lib.hid (by have := GB2.out; rw [RM] at this; exact this)
    have GM : Hid (gotM bs = if b1 && b2 then ⟨(f : Int), n, t, (k : Int), (v : Int), x, y, g, [], zs⟩ else zeroM) := Lib.hid (by unfold gotM; rw [OK.out, RM])
    clear RM hm HM m
    have MS : Hid (MsgS wl ⟨(f : Int), n, t, (k : Int), (v : Int), x, y, g, [], zs⟩ none 0 a9 c9) := Lib.hid ⟨Q2.out.sl, Q1.out.sl⟩
    have TA := Lib.hid (T1.out.keep Q1.out.kp (fun e => e.elim (fun e => by have := PP.out; omega) (fun e => by have := B0.out; omega)))
    have KB := Lib.hid (show Keep (fun k => k = p) w0 wl from K1.out.trans Q1.out.kp (fun i hi e => e.elim id (fun e => by have := HB0.out; omega)))
    have BL := Lib.hid (show Below W.heap.size W wl from W0.out.trans (KB.out.below (N := W.heap.size) W0.out.size (fun i e => by have := PP.out; omega)))
    have q0 : wl.cell? ⟨B, 0, none⟩ = some (.int .i64 (f : Nat)) := Q1.out.ten.c 0 (by decide)
    have q1 : wl.cell? ⟨B, 1, none⟩ = some (.int .u64 (n : Nat)) := Q1.out.ten.c 1 (by decide)
    have q2 : wl.cell? ⟨B, 2, none⟩ = some (.int .u64 (t : Nat)) := Q1.out.ten.c 2 (by decide)
    have q3 : wl.cell? ⟨B, 3, none⟩ = some (.int .i64 (k : Nat)) := Q1.out.ten.c 3 (by decide)
    have q4 : wl.cell? ⟨B, 4, none⟩ = some (.int .i64 (v : Nat)) := Q1.out.ten.c 4 (by decide)
    have q5 : wl.cell? ⟨B, 5, none⟩ = some (.float .f64 x) := Q1.out.ten.c 5 (by decide)
    have q6 : wl.cell? ⟨B, 6, none⟩ = some (.int .i64 y) := Q1.out.ten.c 6 (by decide)
    have q7 : wl.cell? ⟨B, 7, none⟩ = some (.int .u64 (g : Nat)) := Q1.out.ten.c 7 (by decide)
    have q8 : wl.cell? ⟨B, 8, none⟩ = some (.slice none 0 0) := Q1.out.ten.c 8 (by decide)
    have q9 : wl.cell? ⟨B, 9, none⟩ = some (.slice a9 zs.length c9) := Q1.out.ten.c 9 (by decide)
    have hend := rrend_any wl p _ s9 Q1.out.rd
    rw [G1.out] at hend
    refine hend.mono ?_
    rintro e w' ⟨rfl, rfl⟩
    clear hend
    cases b1
    case false =>
      have z0 : wl.cell? ⟨A, 0, none⟩ = some (.int .i64 0) := TA.out.c 0 (by decide)
      have zf0 := TA.out.fz 0
      have z1 : wl.cell? ⟨A, 1, none⟩ = some (.int .u64 0) := TA.out.c 1 (by decide)
      have zf1 := TA.out.fz 1
      have z2 : wl.cell? ⟨A, 2, none⟩ = some (.int .u64 0) := TA.out.c 2 (by decide)
      have zf2 := TA.out.fz 2
      have z3 : wl.cell? ⟨A, 3, none⟩ = some (.int .i64 0) := TA.out.c 3 (by decide)
      have zf3 := TA.out.fz 3
      have z4 : wl.cell? ⟨A, 4, none⟩ = some (.int .i64 0) := TA.out.c 4 (by decide)
      have zf4 := TA.out.fz 4
      have z5 : wl.cell? ⟨A, 5, none⟩ = some (.float .f64 0) := TA.out.c 5 (by decide)
      have zf5 := TA.out.fz 5
      have z6 : wl.cell? ⟨A, 6, none⟩ = some (.int .i64 0) := TA.out.c 6 (by decide)
      have zf6 := TA.out.fz 6
      have z7 : wl.cell? ⟨A, 7, none⟩ = some (.int .u64 0) := TA.out.c 7 (by decide)
      have zf7 := TA.out.fz 7
      have z8 : wl.cell? ⟨A, 8, none⟩ = some (.slice none 0 0) := TA.out.c 8 (by decide)
      have zf8 := TA.out.fz 8
      have z9 : wl.cell? ⟨A, 9, none⟩ = some (.slice none 0 0) := TA.out.c 9 (by decide)
      have zf9 := TA.out.fz 9
      go_wp2_with fail
      have TF : MsgB ((((((((((wl.setCell ⟨A, 0, none⟩ (.int .i64 0)).setCell ⟨A, 1, none⟩ (.int .u64 0)).setCell ⟨A, 2, none⟩ (.int .u64 0)).setCell ⟨A, 3, none⟩ (.int .i64 0)).setCell ⟨A, 4, none⟩ (.int .i64 0)).setCell ⟨A, 5, none⟩ (.float .f64 0)).setCell ⟨A, 6, none⟩ (.int .i64 0)).setCell ⟨A, 7, none⟩ (.int .u64 0)).setCell ⟨A, 8, none⟩ (.slice none 0 0)).setCell ⟨A, 9, none⟩ (.slice none 0 0)) A zeroM none 0 none 0 := setz_cells TA.out
      have HK : Keep (fun k => k = A) wl ((((((((((wl.setCell ⟨A, 0, none⟩ (.int .i64 0)).setCell ⟨A, 1, none⟩ (.int .u64 0)).setCell ⟨A, 2, none⟩ (.int .u64 0)).setCell ⟨A, 3, none⟩ (.int .i64 0)).setCell ⟨A, 4, none⟩ (.int .i64 0)).setCell ⟨A, 5, none⟩ (.float .f64 0)).setCell ⟨A, 6, none⟩ (.int .i64 0)).setCell ⟨A, 7, none⟩ (.int .u64 0)).setCell ⟨A, 8, none⟩ (.slice none 0 0)).setCell ⟨A, 9, none⟩ (.slice none 0 0)) := setz_keep wl A
      clear z0 z1 z2 z3 z4 z5 z6 z7 z8 z9 zf0 zf1 zf2 zf3 zf4 zf5 zf6 zf7 zf8 zf9 q0 q1 q2 q3 q4 q5 q6 q7 q8 q9
      generalize (((((((((wl.setCell ⟨A, 0, none⟩ (.int .i64 0)).setCell ⟨A, 1, none⟩ (.int .u64 0)).setCell ⟨A, 2, none⟩ (.int .u64 0)).setCell ⟨A, 3, none⟩ (.int .i64 0)).setCell ⟨A, 4, none⟩ (.int .i64 0)).setCell ⟨A, 5, none⟩ (.float .f64 0)).setCell ⟨A, 6, none⟩ (.int .i64 0)).setCell ⟨A, 7, none⟩ (.int .u64 0)).setCell ⟨A, 8, none⟩ (.slice none 0 0)).setCell ⟨A, 9, none⟩ (.slice none 0 0) = wf at TF HK ⊢
      have r0 : wf.cell? ⟨A, 0, none⟩ = some (.int .i64 0) := TF.c0
      have r1 : wf.cell? ⟨A, 1, none⟩ = some (.int .u64 0) := TF.c1
      have r2 : wf.cell? ⟨A, 2, none⟩ = some (.int .u64 0) := TF.c2
      have r3 : wf.cell? ⟨A, 3, none⟩ = some (.int .i64 0) := TF.c3
      have r4 : wf.cell? ⟨A, 4, none⟩ = some (.int .i64 0) := TF.c4
      have r5 : wf.cell? ⟨A, 5, none⟩ = some (.float .f64 0) := TF.c5
      have r6 : wf.cell? ⟨A, 6, none⟩ = some (.int .i64 0) := TF.c6
      have r7 : wf.cell? ⟨A, 7, none⟩ = some (.int .u64 0) := TF.c7
      have r8 : wf.cell? ⟨A, 8, none⟩ = some (.slice none 0 0) := TF.c8
      have r9 : wf.cell? ⟨A, 9, none⟩ = some (.slice none 0 0) := TF.c9
      clear TF
      refine bodyPost_ret (v := .tuple #[.agg zA, .bool false]) (by simp [results, Try.results18, go_sem, r0, r1, r2, r3, r4, r5, r6, r7, r8, r9]) rfl ?_
      have hO : okM bs = false := by rw [OK.out]; rfl
      have hG : gotM bs = zeroM := by unfold gotM; rw [hO]; rfl
      refine ⟨none, 0, none, 0, ?_, ?_, ?_⟩
      · rw [hO, hG]; rfl
      · rw [hG]; exact msgS_none _
      · exact BL.out.trans (HK.below BL.out.size (fun k e => by have := PP.out; omega))
    go_wp2_with fail
    refine (rgood_is (m := ⟨(f : Int), n, t, (k : Int), (v : Int), x, y, g, [], zs⟩) MS.out O.out G2.out).mono ?_
    rintro e w4 ⟨rfl, hb⟩
    have MS4 := Lib.hid (MS.out.below hb)
    have BL4 := Lib.hid (BL.out.trans (hb.mono BL.out.size))
    have TB := Lib.hid (TA.out.keep (F := fun _ => False) (show Keep (fun _ => False) wl w4 from ⟨hb.os, hb.tape, hb.output, hb.size, fun i hi _ => hb.block i hi⟩) id)
    replace q0 := cell_go q0 hb
    replace q1 := cell_go q1 hb
    replace q2 := cell_go q2 hb
    replace q3 := cell_go q3 hb
    replace q4 := cell_go q4 hb
    replace q5 := cell_go q5 hb
    replace q6 := cell_go q6 hb
    replace q7 := cell_go q7 hb
    replace q8 := cell_go q8 hb
    replace q9 := cell_go q9 hb
    have FB := Lib.hid (And.intro Q2.out.fr Q1.out.fr)
    clear hb MS TA BL Q1 Q2
    cases b2
    case false =>
      have z0 : w4.cell? ⟨A, 0, none⟩ = some (.int .i64 0) := TB.out.c 0 (by decide)
      have zf0 := TB.out.fz 0
      have z1 : w4.cell? ⟨A, 1, none⟩ = some (.int .u64 0) := TB.out.c 1 (by decide)
      have zf1 := TB.out.fz 1
      have z2 : w4.cell? ⟨A, 2, none⟩ = some (.int .u64 0) := TB.out.c 2 (by decide)
      have zf2 := TB.out.fz 2
      have z3 : w4.cell? ⟨A, 3, none⟩ = some (.int .i64 0) := TB.out.c 3 (by decide)
      have zf3 := TB.out.fz 3
      have z4 : w4.cell? ⟨A, 4, none⟩ = some (.int .i64 0) := TB.out.c 4 (by decide)
      have zf4 := TB.out.fz 4
      have z5 : w4.cell? ⟨A, 5, none⟩ = some (.float .f64 0) := TB.out.c 5 (by decide)
      have zf5 := TB.out.fz 5
      have z6 : w4.cell? ⟨A, 6, none⟩ = some (.int .i64 0) := TB.out.c 6 (by decide)
      have zf6 := TB.out.fz 6
      have z7 : w4.cell? ⟨A, 7, none⟩ = some (.int .u64 0) := TB.out.c 7 (by decide)
      have zf7 := TB.out.fz 7
      have z8 : w4.cell? ⟨A, 8, none⟩ = some (.slice none 0 0) := TB.out.c 8 (by decide)
      have zf8 := TB.out.fz 8
      have z9 : w4.cell? ⟨A, 9, none⟩ = some (.slice none 0 0) := TB.out.c 9 (by decide)
      have zf9 := TB.out.fz 9
      go_wp2_with fail
      have TF : MsgB ((((((((((w4.setCell ⟨A, 0, none⟩ (.int .i64 0)).setCell ⟨A, 1, none⟩ (.int .u64 0)).setCell ⟨A, 2, none⟩ (.int .u64 0)).setCell ⟨A, 3, none⟩ (.int .i64 0)).setCell ⟨A, 4, none⟩ (.int .i64 0)).setCell ⟨A, 5, none⟩ (.float .f64 0)).setCell ⟨A, 6, none⟩ (.int .i64 0)).setCell ⟨A, 7, none⟩ (.int .u64 0)).setCell ⟨A, 8, none⟩ (.slice none 0 0)).setCell ⟨A, 9, none⟩ (.slice none 0 0)) A zeroM none 0 none 0 := setz_cells TB.out
      have HK : Keep (fun k => k = A) w4 ((((((((((w4.setCell ⟨A, 0, none⟩ (.int .i64 0)).setCell ⟨A, 1, none⟩ (.int .u64 0)).setCell ⟨A, 2, none⟩ (.int .u64 0)).setCell ⟨A, 3, none⟩ (.int .i64 0)).setCell ⟨A, 4, none⟩ (.int .i64 0)).setCell ⟨A, 5, none⟩ (.float .f64 0)).setCell ⟨A, 6, none⟩ (.int .i64 0)).setCell ⟨A, 7, none⟩ (.int .u64 0)).setCell ⟨A, 8, none⟩ (.slice none 0 0)).setCell ⟨A, 9, none⟩ (.slice none 0 0)) := setz_keep w4 A
      clear z0 z1 z2 z3 z4 z5 z6 z7 z8 z9 zf0 zf1 zf2 zf3 zf4 zf5 zf6 zf7 zf8 zf9 q0 q1 q2 q3 q4 q5 q6 q7 q8 q9
      generalize (((((((((w4.setCell ⟨A, 0, none⟩ (.int .i64 0)).setCell ⟨A, 1, none⟩ (.int .u64 0)).setCell ⟨A, 2, none⟩ (.int .u64 0)).setCell ⟨A, 3, none⟩ (.int .i64 0)).setCell ⟨A, 4, none⟩ (.int .i64 0)).setCell ⟨A, 5, none⟩ (.float .f64 0)).setCell ⟨A, 6, none⟩ (.int .i64 0)).setCell ⟨A, 7, none⟩ (.int .u64 0)).setCell ⟨A, 8, none⟩ (.slice none 0 0)).setCell ⟨A, 9, none⟩ (.slice none 0 0) = wf at TF HK ⊢
      have r0 : wf.cell? ⟨A, 0, none⟩ = some (.int .i64 0) := TF.c0
      have r1 : wf.cell? ⟨A, 1, none⟩ = some (.int .u64 0) := TF.c1
      have r2 : wf.cell? ⟨A, 2, none⟩ = some (.int .u64 0) := TF.c2
      have r3 : wf.cell? ⟨A, 3, none⟩ = some (.int .i64 0) := TF.c3
      have r4 : wf.cell? ⟨A, 4, none⟩ = some (.int .i64 0) := TF.c4
      have r5 : wf.cell? ⟨A, 5, none⟩ = some (.float .f64 0) := TF.c5
      have r6 : wf.cell? ⟨A, 6, none⟩ = some (.int .i64 0) := TF.c6
      have r7 : wf.cell? ⟨A, 7, none⟩ = some (.int .u64 0) := TF.c7
      have r8 : wf.cell? ⟨A, 8, none⟩ = some (.slice none 0 0) := TF.c8
      have r9 : wf.cell? ⟨A, 9, none⟩ = some (.slice none 0 0) := TF.c9
      clear TF
      refine bodyPost_ret (v := .tuple #[.agg zA, .bool false]) (by simp [results, Try.results18, go_sem, r0, r1, r2, r3, r4, r5, r6, r7, r8, r9]) rfl ?_
      have hO : okM bs = false := by rw [OK.out]; rfl
      have hG : gotM bs = zeroM := by unfold gotM; rw [hO]; rfl
      refine ⟨none, 0, none, 0, ?_, ?_, ?_⟩
      · rw [hO, hG]; rfl
      · rw [hG]; exact msgS_none _
      · exact BL4.out.trans (HK.below BL4.out.size (fun k e => by have := PP.out; omega))
    have z0 : w4.cell? ⟨A, 0, none⟩ = some (.int .i64 0) := TB.out.c 0 (by decide)
    have zf0 := TB.out.fz 0
    have z1 : w4.cell? ⟨A, 1, none⟩ = some (.int .u64 0) := TB.out.c 1 (by decide)
    have zf1 := TB.out.fz 1
    have z2 : w4.cell? ⟨A, 2, none⟩ = some (.int .u64 0) := TB.out.c 2 (by decide)
    have zf2 := TB.out.fz 2
    have z3 : w4.cell? ⟨A, 3, none⟩ = some (.int .i64 0) := TB.out.c 3 (by decide)
    have zf3 := TB.out.fz 3
    have z4 : w4.cell? ⟨A, 4, none⟩ = some (.int .i64 0) := TB.out.c 4 (by decide)
    have zf4 := TB.out.fz 4
    have z5 : w4.cell? ⟨A, 5, none⟩ = some (.float .f64 0) := TB.out.c 5 (by decide)
    have zf5 := TB.out.fz 5
    have z6 : w4.cell? ⟨A, 6, none⟩ = some (.int .i64 0) := TB.out.c 6 (by decide)
    have zf6 := TB.out.fz 6
    have z7 : w4.cell? ⟨A, 7, none⟩ = some (.int .u64 0) := TB.out.c 7 (by decide)
    have zf7 := TB.out.fz 7
    have z8 : w4.cell? ⟨A, 8, none⟩ = some (.slice none 0 0) := TB.out.c 8 (by decide)
    have zf8 := TB.out.fz 8
    have z9 : w4.cell? ⟨A, 9, none⟩ = some (.slice none 0 0) := TB.out.c 9 (by decide)
    have zf9 := TB.out.fz 9
    go_wp2_with fail
    have TF : MsgB ((((((((((w4.setCell ⟨A, 0, none⟩ (.int .i64 (f : Nat))).setCell ⟨A, 1, none⟩ (.int .u64 (n : Nat))).setCell ⟨A, 2, none⟩ (.int .u64 (t : Nat))).setCell ⟨A, 3, none⟩ (.int .i64 (k : Nat))).setCell ⟨A, 4, none⟩ (.int .i64 (v : Nat))).setCell ⟨A, 5, none⟩ (.float .f64 x)).setCell ⟨A, 6, none⟩ (.int .i64 y)).setCell ⟨A, 7, none⟩ (.int .u64 (g : Nat))).setCell ⟨A, 8, none⟩ (.slice none 0 0)).setCell ⟨A, 9, none⟩ (.slice a9 zs.length c9)) A ⟨(f : Int), n, t, (k : Int), (v : Int), x, y, g, [], zs⟩ none 0 a9 c9 := set_cells TB.out ⟨(f : Int), n, t, (k : Int), (v : Int), x, y, g, [], zs⟩ none 0 a9 c9
    have HK : Keep (fun k => k = A) w4 ((((((((((w4.setCell ⟨A, 0, none⟩ (.int .i64 (f : Nat))).setCell ⟨A, 1, none⟩ (.int .u64 (n : Nat))).setCell ⟨A, 2, none⟩ (.int .u64 (t : Nat))).setCell ⟨A, 3, none⟩ (.int .i64 (k : Nat))).setCell ⟨A, 4, none⟩ (.int .i64 (v : Nat))).setCell ⟨A, 5, none⟩ (.float .f64 x)).setCell ⟨A, 6, none⟩ (.int .i64 y)).setCell ⟨A, 7, none⟩ (.int .u64 (g : Nat))).setCell ⟨A, 8, none⟩ (.slice none 0 0)).setCell ⟨A, 9, none⟩ (.slice a9 zs.length c9)) := set_keep w4 A ⟨(f : Int), n, t, (k : Int), (v : Int), x, y, g, [], zs⟩ none 0 a9 c9
    clear z0 z1 z2 z3 z4 z5 z6 z7 z8 z9 zf0 zf1 zf2 zf3 zf4 zf5 zf6 zf7 zf8 zf9 q0 q1 q2 q3 q4 q5 q6 q7 q8 q9
    generalize (((((((((w4.setCell ⟨A, 0, none⟩ (.int .i64 (f : Nat))).setCell ⟨A, 1, none⟩ (.int .u64 (n : Nat))).setCell ⟨A, 2, none⟩ (.int .u64 (t : Nat))).setCell ⟨A, 3, none⟩ (.int .i64 (k : Nat))).setCell ⟨A, 4, none⟩ (.int .i64 (v : Nat))).setCell ⟨A, 5, none⟩ (.float .f64 x)).setCell ⟨A, 6, none⟩ (.int .i64 y)).setCell ⟨A, 7, none⟩ (.int .u64 (g : Nat))).setCell ⟨A, 8, none⟩ (.slice none 0 0)).setCell ⟨A, 9, none⟩ (.slice a9 zs.length c9) = wf at TF HK ⊢
    have r0 : wf.cell? ⟨A, 0, none⟩ = some (.int .i64 (f : Nat)) := TF.c0
    have r1 : wf.cell? ⟨A, 1, none⟩ = some (.int .u64 (n : Nat)) := TF.c1
    have r2 : wf.cell? ⟨A, 2, none⟩ = some (.int .u64 (t : Nat)) := TF.c2
    have r3 : wf.cell? ⟨A, 3, none⟩ = some (.int .i64 (k : Nat)) := TF.c3
    have r4 : wf.cell? ⟨A, 4, none⟩ = some (.int .i64 (v : Nat)) := TF.c4
    have r5 : wf.cell? ⟨A, 5, none⟩ = some (.float .f64 x) := TF.c5
    have r6 : wf.cell? ⟨A, 6, none⟩ = some (.int .i64 y) := TF.c6
    have r7 : wf.cell? ⟨A, 7, none⟩ = some (.int .u64 (g : Nat)) := TF.c7
    have r8 : wf.cell? ⟨A, 8, none⟩ = some (.slice none 0 0) := TF.c8
    have r9 : wf.cell? ⟨A, 9, none⟩ = some (.slice a9 zs.length c9) := TF.c9
    clear TF
    refine bodyPost_ret (v := .tuple #[.agg #[.int .i64 (f : Nat), .int .u64 (n : Nat), .int .u64 (t : Nat), .int .i64 (k : Nat), .int .i64 (v : Nat), .float .f64 x, .int .i64 y, .int .u64 (g : Nat), .slice none 0 0, .slice a9 zs.length c9], .bool true]) (by simp [results, Try.results18, go_sem, r0, r1, r2, r3, r4, r5, r6, r7, r8, r9]) rfl ?_
    refine ⟨none, 0, a9, c9, ?_, ?_, ?_⟩
    · rw [OK.out, GM.out]; rfl
    · rw [GM.out]
      exact ⟨MS4.out.b.keep HK (fun ad e _ f => by have := FB.out.1 ad e; have := B0.out; have := B00.out; omega), MS4.out.s.keep HK (fun ad e _ f => by have := FB.out.2 ad e; have := B0.out; have := B00.out; omega)⟩
    · exact BL4.out.trans (HK.below BL4.out.size (fun k e => by have := PP.out; omega))
  · have K := Lib.hid hk
    have e0 : ((k : Int) == 0) = false := by rw [hk]; rfl
    have e1 : ((k : Int) == 1) = false := by rw [hk]; rfl
    have e3 : ((k : Int) == 3) = false := by rw [hk]; rfl
    have TG := Lib.hid (show tagged (k : Int) = false by rw [hk]; rfl)
    clear hk
    obtain ⟨v, s5, e5⟩ : ∃ v s5, numR 15 s4 = (v, s5) := ⟨_, _, rfl⟩
    have l5 := numR_len 15 s4
    have bv := numR_le 15 s4
    rw [e5] at l5 bv
    have E5 := Lib.hid e5
    have L5 := Lib.hid (show (s5.getD []).length ≤ 1000000 by have := L4.out; simp only at l5; omega)
    clear e5 l5
    simp only at bv
    go_wp2_with fail
    generalize w4.setCell ⟨B, 3, none⟩ (.int .i64 (k : Nat)) = v3 at R3 ⊢
    clear cc ff
    refine (rrnumz (most := 15) R3.out rfl E5.out).mono ?_
    rintro e w5 ⟨rfl, h⟩
    have cc := h.ten.c 4 (by decide)
    have ff := h.ten.fz 4
    have R4 := Lib.hid (h.put 4 (.int .i64 (v : Nat)))
    clear h R3
    have k3b : (w5.setCell ⟨B, 4, none⟩ (.int .i64 (v : Nat))).cell? ⟨B, 3, none⟩ = some (.int .i64 (k : Nat)) := R4.out.ten.c 3 (by decide)
    obtain ⟨zs, s9, e9⟩ : ∃ zs s9, bytR 20000 s5 = (zs, s9) := ⟨_, _, rfl⟩
    have E9 := Lib.hid e9
    clear e9
    go_wp2_with fail
    generalize w5.setCell ⟨B, 4, none⟩ (.int .i64 (v : Nat)) = v4 at R4 ⊢
    clear cc ff
    clear k3b
    refine (rrbytz (most := 20000) R4.out HS.out (by decide) L5.out E9.out).mono ?_
    rintro e w6 ⟨a9, c9, rfl, h, h2⟩
    have cc := h.ten.c 9 (by decide)
    have ff := h.ten.fz 9
    have Q1 := Lib.hid (h.put 9 (.slice a9 zs.length c9))
    have Q2 := Lib.hid (h2.put 9 (.slice a9 zs.length c9))
    clear h h2 R4
    go_wp2_with fail
    generalize w6.setCell ⟨B, 9, none⟩ (.slice a9 zs.length c9) = wl at Q1 Q2 ⊢
    clear cc ff
    have RM : readM (some bs) = (⟨(f : Int), n, t, (k : Int), (v : Int), 0, 0, 0, [], zs⟩, s9) := by
      have hm : midR k s4 = (v, [], s5) := by unfold midR; rw [if_neg (by rw [K.out]; decide), E5.out]
      have ht : tagR k s5 = (0, 0, 0, s5) := by unfold tagR; rw [TG.out]; rfl
      simp only [readM, E1.out, E2.out, E3.out, E4.out, hm, ht, E9.out]
    obtain ⟨m, hm⟩ : ∃ m : Msg, ⟨(f : Int), n, t, (k : Int), (v : Int), 0, 0, 0, [], zs⟩ = m := ⟨_, rfl⟩
    have HM := Lib.hid hm
    have O : Hid (MsgOk ⟨(f : Int), n, t, (k : Int), (v : Int), 0, 0, 0, [], zs⟩) := Lib.hid (by have := OM.out; rw [RM] at this; exact this)
    have G1 : Hid (endR s9 = b1) := Lib.hid (by have := GB1.out; rw [RM] at this; exact this)
    have G2 : Hid (goodM ⟨(f : Int), n, t, (k : Int), (v : Int), 0, 0, 0, [], zs⟩ = b2) := Lib.hid (by have := GB2.out; rw [RM] at this; exact this)
    have GM : Hid (gotM bs = if b1 && b2 then ⟨(f : Int), n, t, (k : Int), (v : Int), 0, 0, 0, [], zs⟩ else zeroM) := Lib.hid (by unfold gotM; rw [OK.out, RM])
    clear RM hm HM m
    have MS : Hid (MsgS wl ⟨(f : Int), n, t, (k : Int), (v : Int), 0, 0, 0, [], zs⟩ none 0 a9 c9) := Lib.hid ⟨Q2.out.sl, Q1.out.sl⟩
    have TA := Lib.hid (T1.out.keep Q1.out.kp (fun e => e.elim (fun e => by have := PP.out; omega) (fun e => by have := B0.out; omega)))
    have KB := Lib.hid (show Keep (fun k => k = p) w0 wl from K1.out.trans Q1.out.kp (fun i hi e => e.elim id (fun e => by have := HB0.out; omega)))
    have BL := Lib.hid (show Below W.heap.size W wl from W0.out.trans (KB.out.below (N := W.heap.size) W0.out.size (fun i e => by have := PP.out; omega)))
    have q0 : wl.cell? ⟨B, 0, none⟩ = some (.int .i64 (f : Nat)) := Q1.out.ten.c 0 (by decide)
    have q1 : wl.cell? ⟨B, 1, none⟩ = some (.int .u64 (n : Nat)) := Q1.out.ten.c 1 (by decide)
    have q2 : wl.cell? ⟨B, 2, none⟩ = some (.int .u64 (t : Nat)) := Q1.out.ten.c 2 (by decide)
    have q3 : wl.cell? ⟨B, 3, none⟩ = some (.int .i64 (k : Nat)) := Q1.out.ten.c 3 (by decide)
    have q4 : wl.cell? ⟨B, 4, none⟩ = some (.int .i64 (v : Nat)) := Q1.out.ten.c 4 (by decide)
    have q5 : wl.cell? ⟨B, 5, none⟩ = some (.float .f64 0) := Q1.out.ten.c 5 (by decide)
    have q6 : wl.cell? ⟨B, 6, none⟩ = some (.int .i64 0) := Q1.out.ten.c 6 (by decide)
    have q7 : wl.cell? ⟨B, 7, none⟩ = some (.int .u64 0) := Q1.out.ten.c 7 (by decide)
    have q8 : wl.cell? ⟨B, 8, none⟩ = some (.slice none 0 0) := Q1.out.ten.c 8 (by decide)
    have q9 : wl.cell? ⟨B, 9, none⟩ = some (.slice a9 zs.length c9) := Q1.out.ten.c 9 (by decide)
    have hend := rrend_any wl p _ s9 Q1.out.rd
    rw [G1.out] at hend
    refine hend.mono ?_
    rintro e w' ⟨rfl, rfl⟩
    clear hend
    cases b1
    case false =>
      have z0 : wl.cell? ⟨A, 0, none⟩ = some (.int .i64 0) := TA.out.c 0 (by decide)
      have zf0 := TA.out.fz 0
      have z1 : wl.cell? ⟨A, 1, none⟩ = some (.int .u64 0) := TA.out.c 1 (by decide)
      have zf1 := TA.out.fz 1
      have z2 : wl.cell? ⟨A, 2, none⟩ = some (.int .u64 0) := TA.out.c 2 (by decide)
      have zf2 := TA.out.fz 2
      have z3 : wl.cell? ⟨A, 3, none⟩ = some (.int .i64 0) := TA.out.c 3 (by decide)
      have zf3 := TA.out.fz 3
      have z4 : wl.cell? ⟨A, 4, none⟩ = some (.int .i64 0) := TA.out.c 4 (by decide)
      have zf4 := TA.out.fz 4
      have z5 : wl.cell? ⟨A, 5, none⟩ = some (.float .f64 0) := TA.out.c 5 (by decide)
      have zf5 := TA.out.fz 5
      have z6 : wl.cell? ⟨A, 6, none⟩ = some (.int .i64 0) := TA.out.c 6 (by decide)
      have zf6 := TA.out.fz 6
      have z7 : wl.cell? ⟨A, 7, none⟩ = some (.int .u64 0) := TA.out.c 7 (by decide)
      have zf7 := TA.out.fz 7
      have z8 : wl.cell? ⟨A, 8, none⟩ = some (.slice none 0 0) := TA.out.c 8 (by decide)
      have zf8 := TA.out.fz 8
      have z9 : wl.cell? ⟨A, 9, none⟩ = some (.slice none 0 0) := TA.out.c 9 (by decide)
      have zf9 := TA.out.fz 9
      go_wp2_with fail
      have TF : MsgB ((((((((((wl.setCell ⟨A, 0, none⟩ (.int .i64 0)).setCell ⟨A, 1, none⟩ (.int .u64 0)).setCell ⟨A, 2, none⟩ (.int .u64 0)).setCell ⟨A, 3, none⟩ (.int .i64 0)).setCell ⟨A, 4, none⟩ (.int .i64 0)).setCell ⟨A, 5, none⟩ (.float .f64 0)).setCell ⟨A, 6, none⟩ (.int .i64 0)).setCell ⟨A, 7, none⟩ (.int .u64 0)).setCell ⟨A, 8, none⟩ (.slice none 0 0)).setCell ⟨A, 9, none⟩ (.slice none 0 0)) A zeroM none 0 none 0 := setz_cells TA.out
      have HK : Keep (fun k => k = A) wl ((((((((((wl.setCell ⟨A, 0, none⟩ (.int .i64 0)).setCell ⟨A, 1, none⟩ (.int .u64 0)).setCell ⟨A, 2, none⟩ (.int .u64 0)).setCell ⟨A, 3, none⟩ (.int .i64 0)).setCell ⟨A, 4, none⟩ (.int .i64 0)).setCell ⟨A, 5, none⟩ (.float .f64 0)).setCell ⟨A, 6, none⟩ (.int .i64 0)).setCell ⟨A, 7, none⟩ (.int .u64 0)).setCell ⟨A, 8, none⟩ (.slice none 0 0)).setCell ⟨A, 9, none⟩ (.slice none 0 0)) := setz_keep wl A
      clear z0 z1 z2 z3 z4 z5 z6 z7 z8 z9 zf0 zf1 zf2 zf3 zf4 zf5 zf6 zf7 zf8 zf9 q0 q1 q2 q3 q4 q5 q6 q7 q8 q9
      generalize (((((((((wl.setCell ⟨A, 0, none⟩ (.int .i64 0)).setCell ⟨A, 1, none⟩ (.int .u64 0)).setCell ⟨A, 2, none⟩ (.int .u64 0)).setCell ⟨A, 3, none⟩ (.int .i64 0)).setCell ⟨A, 4, none⟩ (.int .i64 0)).setCell ⟨A, 5, none⟩ (.float .f64 0)).setCell ⟨A, 6, none⟩ (.int .i64 0)).setCell ⟨A, 7, none⟩ (.int .u64 0)).setCell ⟨A, 8, none⟩ (.slice none 0 0)).setCell ⟨A, 9, none⟩ (.slice none 0 0) = wf at TF HK ⊢
      have r0 : wf.cell? ⟨A, 0, none⟩ = some (.int .i64 0) := TF.c0
      have r1 : wf.cell? ⟨A, 1, none⟩ = some (.int .u64 0) := TF.c1
      have r2 : wf.cell? ⟨A, 2, none⟩ = some (.int .u64 0) := TF.c2
      have r3 : wf.cell? ⟨A, 3, none⟩ = some (.int .i64 0) := TF.c3
      have r4 : wf.cell? ⟨A, 4, none⟩ = some (.int .i64 0) := TF.c4
      have r5 : wf.cell? ⟨A, 5, none⟩ = some (.float .f64 0) := TF.c5
      have r6 : wf.cell? ⟨A, 6, none⟩ = some (.int .i64 0) := TF.c6
      have r7 : wf.cell? ⟨A, 7, none⟩ = some (.int .u64 0) := TF.c7
      have r8 : wf.cell? ⟨A, 8, none⟩ = some (.slice none 0 0) := TF.c8
      have r9 : wf.cell? ⟨A, 9, none⟩ = some (.slice none 0 0) := TF.c9
      clear TF
      refine bodyPost_ret (v := .tuple #[.agg zA, .bool false]) (by simp [results, Try.results18, go_sem, r0, r1, r2, r3, r4, r5, r6, r7, r8, r9]) rfl ?_
      have hO : okM bs = false := by rw [OK.out]; rfl
      have hG : gotM bs = zeroM := by unfold gotM; rw [hO]; rfl
      refine ⟨none, 0, none, 0, ?_, ?_, ?_⟩
      · rw [hO, hG]; rfl
      · rw [hG]; exact msgS_none _
      · exact BL.out.trans (HK.below BL.out.size (fun k e => by have := PP.out; omega))
    go_wp2_with fail
    refine (rgood_is (m := ⟨(f : Int), n, t, (k : Int), (v : Int), 0, 0, 0, [], zs⟩) MS.out O.out G2.out).mono ?_
    rintro e w4 ⟨rfl, hb⟩
    have MS4 := Lib.hid (MS.out.below hb)
    have BL4 := Lib.hid (BL.out.trans (hb.mono BL.out.size))
    have TB := Lib.hid (TA.out.keep (F := fun _ => False) (show Keep (fun _ => False) wl w4 from ⟨hb.os, hb.tape, hb.output, hb.size, fun i hi _ => hb.block i hi⟩) id)
    replace q0 := cell_go q0 hb
    replace q1 := cell_go q1 hb
    replace q2 := cell_go q2 hb
    replace q3 := cell_go q3 hb
    replace q4 := cell_go q4 hb
    replace q5 := cell_go q5 hb
    replace q6 := cell_go q6 hb
    replace q7 := cell_go q7 hb
    replace q8 := cell_go q8 hb
    replace q9 := cell_go q9 hb
    have FB := Lib.hid (And.intro Q2.out.fr Q1.out.fr)
    clear hb MS TA BL Q1 Q2
    cases b2
    case false =>
      have z0 : w4.cell? ⟨A, 0, none⟩ = some (.int .i64 0) := TB.out.c 0 (by decide)
      have zf0 := TB.out.fz 0
      have z1 : w4.cell? ⟨A, 1, none⟩ = some (.int .u64 0) := TB.out.c 1 (by decide)
      have zf1 := TB.out.fz 1
      have z2 : w4.cell? ⟨A, 2, none⟩ = some (.int .u64 0) := TB.out.c 2 (by decide)
      have zf2 := TB.out.fz 2
      have z3 : w4.cell? ⟨A, 3, none⟩ = some (.int .i64 0) := TB.out.c 3 (by decide)
      have zf3 := TB.out.fz 3
      have z4 : w4.cell? ⟨A, 4, none⟩ = some (.int .i64 0) := TB.out.c 4 (by decide)
      have zf4 := TB.out.fz 4
      have z5 : w4.cell? ⟨A, 5, none⟩ = some (.float .f64 0) := TB.out.c 5 (by decide)
      have zf5 := TB.out.fz 5
      have z6 : w4.cell? ⟨A, 6, none⟩ = some (.int .i64 0) := TB.out.c 6 (by decide)
      have zf6 := TB.out.fz 6
      have z7 : w4.cell? ⟨A, 7, none⟩ = some (.int .u64 0) := TB.out.c 7 (by decide)
      have zf7 := TB.out.fz 7
      have z8 : w4.cell? ⟨A, 8, none⟩ = some (.slice none 0 0) := TB.out.c 8 (by decide)
      have zf8 := TB.out.fz 8
      have z9 : w4.cell? ⟨A, 9, none⟩ = some (.slice none 0 0) := TB.out.c 9 (by decide)
      have zf9 := TB.out.fz 9
      go_wp2_with fail
      have TF : MsgB ((((((((((w4.setCell ⟨A, 0, none⟩ (.int .i64 0)).setCell ⟨A, 1, none⟩ (.int .u64 0)).setCell ⟨A, 2, none⟩ (.int .u64 0)).setCell ⟨A, 3, none⟩ (.int .i64 0)).setCell ⟨A, 4, none⟩ (.int .i64 0)).setCell ⟨A, 5, none⟩ (.float .f64 0)).setCell ⟨A, 6, none⟩ (.int .i64 0)).setCell ⟨A, 7, none⟩ (.int .u64 0)).setCell ⟨A, 8, none⟩ (.slice none 0 0)).setCell ⟨A, 9, none⟩ (.slice none 0 0)) A zeroM none 0 none 0 := setz_cells TB.out
      have HK : Keep (fun k => k = A) w4 ((((((((((w4.setCell ⟨A, 0, none⟩ (.int .i64 0)).setCell ⟨A, 1, none⟩ (.int .u64 0)).setCell ⟨A, 2, none⟩ (.int .u64 0)).setCell ⟨A, 3, none⟩ (.int .i64 0)).setCell ⟨A, 4, none⟩ (.int .i64 0)).setCell ⟨A, 5, none⟩ (.float .f64 0)).setCell ⟨A, 6, none⟩ (.int .i64 0)).setCell ⟨A, 7, none⟩ (.int .u64 0)).setCell ⟨A, 8, none⟩ (.slice none 0 0)).setCell ⟨A, 9, none⟩ (.slice none 0 0)) := setz_keep w4 A
      clear z0 z1 z2 z3 z4 z5 z6 z7 z8 z9 zf0 zf1 zf2 zf3 zf4 zf5 zf6 zf7 zf8 zf9 q0 q1 q2 q3 q4 q5 q6 q7 q8 q9
      generalize (((((((((w4.setCell ⟨A, 0, none⟩ (.int .i64 0)).setCell ⟨A, 1, none⟩ (.int .u64 0)).setCell ⟨A, 2, none⟩ (.int .u64 0)).setCell ⟨A, 3, none⟩ (.int .i64 0)).setCell ⟨A, 4, none⟩ (.int .i64 0)).setCell ⟨A, 5, none⟩ (.float .f64 0)).setCell ⟨A, 6, none⟩ (.int .i64 0)).setCell ⟨A, 7, none⟩ (.int .u64 0)).setCell ⟨A, 8, none⟩ (.slice none 0 0)).setCell ⟨A, 9, none⟩ (.slice none 0 0) = wf at TF HK ⊢
      have r0 : wf.cell? ⟨A, 0, none⟩ = some (.int .i64 0) := TF.c0
      have r1 : wf.cell? ⟨A, 1, none⟩ = some (.int .u64 0) := TF.c1
      have r2 : wf.cell? ⟨A, 2, none⟩ = some (.int .u64 0) := TF.c2
      have r3 : wf.cell? ⟨A, 3, none⟩ = some (.int .i64 0) := TF.c3
      have r4 : wf.cell? ⟨A, 4, none⟩ = some (.int .i64 0) := TF.c4
      have r5 : wf.cell? ⟨A, 5, none⟩ = some (.float .f64 0) := TF.c5
      have r6 : wf.cell? ⟨A, 6, none⟩ = some (.int .i64 0) := TF.c6
      have r7 : wf.cell? ⟨A, 7, none⟩ = some (.int .u64 0) := TF.c7
      have r8 : wf.cell? ⟨A, 8, none⟩ = some (.slice none 0 0) := TF.c8
      have r9 : wf.cell? ⟨A, 9, none⟩ = some (.slice none 0 0) := TF.c9
      clear TF
      refine bodyPost_ret (v := .tuple #[.agg zA, .bool false]) (by simp [results, Try.results18, go_sem, r0, r1, r2, r3, r4, r5, r6, r7, r8, r9]) rfl ?_
      have hO : okM bs = false := by rw [OK.out]; rfl
      have hG : gotM bs = zeroM := by unfold gotM; rw [hO]; rfl
      refine ⟨none, 0, none, 0, ?_, ?_, ?_⟩
      · rw [hO, hG]; rfl
      · rw [hG]; exact msgS_none _
      · exact BL4.out.trans (HK.below BL4.out.size (fun k e => by have := PP.out; omega))
    have z0 : w4.cell? ⟨A, 0, none⟩ = some (.int .i64 0) := TB.out.c 0 (by decide)
    have zf0 := TB.out.fz 0
    have z1 : w4.cell? ⟨A, 1, none⟩ = some (.int .u64 0) := TB.out.c 1 (by decide)
    have zf1 := TB.out.fz 1
    have z2 : w4.cell? ⟨A, 2, none⟩ = some (.int .u64 0) := TB.out.c 2 (by decide)
    have zf2 := TB.out.fz 2
    have z3 : w4.cell? ⟨A, 3, none⟩ = some (.int .i64 0) := TB.out.c 3 (by decide)
    have zf3 := TB.out.fz 3
    have z4 : w4.cell? ⟨A, 4, none⟩ = some (.int .i64 0) := TB.out.c 4 (by decide)
    have zf4 := TB.out.fz 4
    have z5 : w4.cell? ⟨A, 5, none⟩ = some (.float .f64 0) := TB.out.c 5 (by decide)
    have zf5 := TB.out.fz 5
    have z6 : w4.cell? ⟨A, 6, none⟩ = some (.int .i64 0) := TB.out.c 6 (by decide)
    have zf6 := TB.out.fz 6
    have z7 : w4.cell? ⟨A, 7, none⟩ = some (.int .u64 0) := TB.out.c 7 (by decide)
    have zf7 := TB.out.fz 7
    have z8 : w4.cell? ⟨A, 8, none⟩ = some (.slice none 0 0) := TB.out.c 8 (by decide)
    have zf8 := TB.out.fz 8
    have z9 : w4.cell? ⟨A, 9, none⟩ = some (.slice none 0 0) := TB.out.c 9 (by decide)
    have zf9 := TB.out.fz 9
    go_wp2_with fail
    have TF : MsgB ((((((((((w4.setCell ⟨A, 0, none⟩ (.int .i64 (f : Nat))).setCell ⟨A, 1, none⟩ (.int .u64 (n : Nat))).setCell ⟨A, 2, none⟩ (.int .u64 (t : Nat))).setCell ⟨A, 3, none⟩ (.int .i64 (k : Nat))).setCell ⟨A, 4, none⟩ (.int .i64 (v : Nat))).setCell ⟨A, 5, none⟩ (.float .f64 0)).setCell ⟨A, 6, none⟩ (.int .i64 0)).setCell ⟨A, 7, none⟩ (.int .u64 0)).setCell ⟨A, 8, none⟩ (.slice none 0 0)).setCell ⟨A, 9, none⟩ (.slice a9 zs.length c9)) A ⟨(f : Int), n, t, (k : Int), (v : Int), 0, 0, 0, [], zs⟩ none 0 a9 c9 := set_cells TB.out ⟨(f : Int), n, t, (k : Int), (v : Int), 0, 0, 0, [], zs⟩ none 0 a9 c9
    have HK : Keep (fun k => k = A) w4 ((((((((((w4.setCell ⟨A, 0, none⟩ (.int .i64 (f : Nat))).setCell ⟨A, 1, none⟩ (.int .u64 (n : Nat))).setCell ⟨A, 2, none⟩ (.int .u64 (t : Nat))).setCell ⟨A, 3, none⟩ (.int .i64 (k : Nat))).setCell ⟨A, 4, none⟩ (.int .i64 (v : Nat))).setCell ⟨A, 5, none⟩ (.float .f64 0)).setCell ⟨A, 6, none⟩ (.int .i64 0)).setCell ⟨A, 7, none⟩ (.int .u64 0)).setCell ⟨A, 8, none⟩ (.slice none 0 0)).setCell ⟨A, 9, none⟩ (.slice a9 zs.length c9)) := set_keep w4 A ⟨(f : Int), n, t, (k : Int), (v : Int), 0, 0, 0, [], zs⟩ none 0 a9 c9
    clear z0 z1 z2 z3 z4 z5 z6 z7 z8 z9 zf0 zf1 zf2 zf3 zf4 zf5 zf6 zf7 zf8 zf9 q0 q1 q2 q3 q4 q5 q6 q7 q8 q9
    generalize (((((((((w4.setCell ⟨A, 0, none⟩ (.int .i64 (f : Nat))).setCell ⟨A, 1, none⟩ (.int .u64 (n : Nat))).setCell ⟨A, 2, none⟩ (.int .u64 (t : Nat))).setCell ⟨A, 3, none⟩ (.int .i64 (k : Nat))).setCell ⟨A, 4, none⟩ (.int .i64 (v : Nat))).setCell ⟨A, 5, none⟩ (.float .f64 0)).setCell ⟨A, 6, none⟩ (.int .i64 0)).setCell ⟨A, 7, none⟩ (.int .u64 0)).setCell ⟨A, 8, none⟩ (.slice none 0 0)).setCell ⟨A, 9, none⟩ (.slice a9 zs.length c9) = wf at TF HK ⊢
    have r0 : wf.cell? ⟨A, 0, none⟩ = some (.int .i64 (f : Nat)) := TF.c0
    have r1 : wf.cell? ⟨A, 1, none⟩ = some (.int .u64 (n : Nat)) := TF.c1
    have r2 : wf.cell? ⟨A, 2, none⟩ = some (.int .u64 (t : Nat)) := TF.c2
    have r3 : wf.cell? ⟨A, 3, none⟩ = some (.int .i64 (k : Nat)) := TF.c3
    have r4 : wf.cell? ⟨A, 4, none⟩ = some (.int .i64 (v : Nat)) := TF.c4
    have r5 : wf.cell? ⟨A, 5, none⟩ = some (.float .f64 0) := TF.c5
    have r6 : wf.cell? ⟨A, 6, none⟩ = some (.int .i64 0) := TF.c6
    have r7 : wf.cell? ⟨A, 7, none⟩ = some (.int .u64 0) := TF.c7
    have r8 : wf.cell? ⟨A, 8, none⟩ = some (.slice none 0 0) := TF.c8
    have r9 : wf.cell? ⟨A, 9, none⟩ = some (.slice a9 zs.length c9) := TF.c9
    clear TF
    refine bodyPost_ret (v := .tuple #[.agg #[.int .i64 (f : Nat), .int .u64 (n : Nat), .int .u64 (t : Nat), .int .i64 (k : Nat), .int .i64 (v : Nat), .float .f64 0, .int .i64 0, .int .u64 0, .slice none 0 0, .slice a9 zs.length c9], .bool true]) (by simp [results, Try.results18, go_sem, r0, r1, r2, r3, r4, r5, r6, r7, r8, r9]) rfl ?_
    refine ⟨none, 0, a9, c9, ?_, ?_, ?_⟩
    · rw [OK.out, GM.out]; rfl
    · rw [GM.out]
      exact ⟨MS4.out.b.keep HK (fun ad e _ f => by have := FB.out.1 ad e; have := B0.out; have := B00.out; omega), MS4.out.s.keep HK (fun ad e _ f => by have := FB.out.2 ad e; have := B0.out; have := B00.out; omega)⟩
    · exact BL4.out.trans (HK.below BL4.out.size (fun k e => by have := PP.out; omega))
  · have K := Lib.hid hk
    have e0 : ((k : Int) == 0) = false := by rw [hk]; rfl
    have e1 : ((k : Int) == 1) = false := by rw [hk]; rfl
    have e3 : ((k : Int) == 3) = true := by rw [hk]; rfl
    have TG := Lib.hid (show tagged (k : Int) = true by rw [hk]; rfl)
    clear hk
    obtain ⟨v, s5, e5⟩ : ∃ v s5, numR 15 s4 = (v, s5) := ⟨_, _, rfl⟩
    have l5 := numR_len 15 s4
    have bv := numR_le 15 s4
    rw [e5] at l5 bv
    have E5 := Lib.hid e5
    have L5 := Lib.hid (show (s5.getD []).length ≤ 1000000 by have := L4.out; simp only at l5; omega)
    clear e5 l5
    simp only at bv
    go_wp2_with fail
    generalize w4.setCell ⟨B, 3, none⟩ (.int .i64 (k : Nat)) = v3 at R3 ⊢
    clear cc ff
    refine (rrnumz (most := 15) R3.out rfl E5.out).mono ?_
    rintro e w5 ⟨rfl, h⟩
    have cc := h.ten.c 4 (by decide)
    have ff := h.ten.fz 4
    have R4 := Lib.hid (h.put 4 (.int .i64 (v : Nat)))
    clear h R3
    have k3b : (w5.setCell ⟨B, 4, none⟩ (.int .i64 (v : Nat))).cell? ⟨B, 3, none⟩ = some (.int .i64 (k : Nat)) := R4.out.ten.c 3 (by decide)
    obtain ⟨x, s6, e6⟩ : ∃ x s6, fltR s5 = (x, s6) := ⟨_, _, rfl⟩
    obtain ⟨z, s7, e7⟩ : ∃ z s7, numR 16 s6 = (z, s7) := ⟨_, _, rfl⟩
    obtain ⟨g, s8, e8⟩ : ∃ g s8, numR 18446744073709551615 s7 = (g, s8) := ⟨_, _, rfl⟩
    have l6 := fltR_len s5
    have l7 := numR_len 16 s6
    have l8 := numR_len 18446744073709551615 s7
    have bz := numR_le 16 s6
    rw [e6] at l6
    rw [e7] at l7 bz
    rw [e8] at l8
    have L8 := Lib.hid (show (s8.getD []).length ≤ 1000000 by have := L5.out; simp only at l6 l7 l8; omega)
    simp only at bz
    have E6 := Lib.hid e6
    have E7 := Lib.hid e7
    have E8 := Lib.hid e8
    clear e6 e7 e8 l6 l7 l8
    obtain ⟨y, hy⟩ : ∃ y : Int, (z : Int) - 1 = y := ⟨_, rfl⟩
    have Y := Lib.hid hy
    go_wp2_with fail
    generalize w5.setCell ⟨B, 4, none⟩ (.int .i64 (v : Nat)) = v4 at R4 ⊢
    clear cc ff
    refine (rrfltz R4.out E6.out).mono ?_
    rintro e w6 ⟨rfl, h⟩
    have cc := h.ten.c 5 (by decide)
    have ff := h.ten.fz 5
    have R5 := Lib.hid (h.put 5 (.float .f64 x))
    clear h R4
    clear k3b
    go_wp2_with fail
    generalize w6.setCell ⟨B, 5, none⟩ (.float .f64 x) = v5 at R5 ⊢
    clear cc ff
    refine (rrnumz (most := 16) R5.out rfl E7.out).mono ?_
    rintro e w7 ⟨rfl, h⟩
    have cc := h.ten.c 6 (by decide)
    have ff := h.ten.fz 6
    have R6 := Lib.hid (h.put 6 (.int .i64 y))
    clear h R5
    go_wp2_with fail
    generalize w7.setCell ⟨B, 6, none⟩ (.int .i64 y) = v6 at R6 ⊢
    clear cc ff
    refine (rrnumz (most := 18446744073709551615) R6.out rfl E8.out).mono ?_
    rintro e w8 ⟨rfl, h⟩
    have cc := h.ten.c 7 (by decide)
    have ff := h.ten.fz 7
    have R7 := Lib.hid (h.put 7 (.int .u64 (g : Nat)))
    clear h R6
    obtain ⟨zs, s9, e9⟩ : ∃ zs s9, bytR 20000 s8 = (zs, s9) := ⟨_, _, rfl⟩
    have E9 := Lib.hid e9
    clear e9
    go_wp2_with fail
    generalize w8.setCell ⟨B, 7, none⟩ (.int .u64 (g : Nat)) = v7 at R7 ⊢
    clear cc ff
    refine (rrbytz (most := 20000) R7.out HS.out (by decide) L8.out E9.out).mono ?_
    rintro e w9 ⟨a9, c9, rfl, h, h2⟩
    have cc := h.ten.c 9 (by decide)
    have ff := h.ten.fz 9
    have Q1 := Lib.hid (h.put 9 (.slice a9 zs.length c9))
    have Q2 := Lib.hid (h2.put 9 (.slice a9 zs.length c9))
    clear h h2 R7
    go_wp2_with fail
    generalize w9.setCell ⟨B, 9, none⟩ (.slice a9 zs.length c9) = wl at Q1 Q2 ⊢
    clear cc ff
    have RM : readM (some bs) = (⟨(f : Int), n, t, (k : Int), (v : Int), x, y, g, [], zs⟩, s9) := by
      have hm : midR k s4 = (v, [], s5) := by unfold midR; rw [if_neg (by rw [K.out]; decide), E5.out]
      have ht : tagR k s5 = (x, (z : Int) - 1, g, s8) := by unfold tagR; rw [TG.out]; simp only [if_true, E6.out, E7.out, E8.out]
      simp only [readM, E1.out, E2.out, E3.out, E4.out, hm, ht, E9.out, Y.out]
    obtain ⟨m, hm⟩ : ∃ m : Msg, ⟨(f : Int), n, t, (k : Int), (v : Int), x, y, g, [], zs⟩ = m := ⟨_, rfl⟩
    have HM := Lib.hid hm
    have O : Hid (MsgOk ⟨(f : Int), n, t, (k : Int), (v : Int), x, y, g, [], zs⟩) := Lib.hid (by have := OM.out; rw [RM] at this; exact this)
    have G1 : Hid (endR s9 = b1) := Lib.hid (by have := GB1.out; rw [RM] at this; exact this)
    have G2 : Hid (goodM ⟨(f : Int), n, t, (k : Int), (v : Int), x, y, g, [], zs⟩ = b2) := Lib.hid (by have := GB2.out; rw [RM] at this; exact this)
    have GM : Hid (gotM bs = if b1 && b2 then ⟨(f : Int), n, t, (k : Int), (v : Int), x, y, g, [], zs⟩ else zeroM) := Lib.hid (by unfold gotM; rw [OK.out, RM])
    clear RM hm HM m
    have MS : Hid (MsgS wl ⟨(f : Int), n, t, (k : Int), (v : Int), x, y, g, [], zs⟩ none 0 a9 c9) := Lib.hid ⟨Q2.out.sl, Q1.out.sl⟩
    have TA := Lib.hid (T1.out.keep Q1.out.kp (fun e => e.elim (fun e => by have := PP.out; omega) (fun e => by have := B0.out; omega)))
    have KB := Lib.hid (show Keep (fun k => k = p) w0 wl from K1.out.trans Q1.out.kp (fun i hi e => e.elim id (fun e => by have := HB0.out; omega)))
    have BL := Lib.hid (show Below W.heap.size W wl from W0.out.trans (KB.out.below (N := W.heap.size) W0.out.size (fun i e => by have := PP.out; omega)))
    have q0 : wl.cell? ⟨B, 0, none⟩ = some (.int .i64 (f : Nat)) := Q1.out.ten.c 0 (by decide)
    have q1 : wl.cell? ⟨B, 1, none⟩ = some (.int .u64 (n : Nat)) := Q1.out.ten.c 1 (by decide)
    have q2 : wl.cell? ⟨B, 2, none⟩ = some (.int .u64 (t : Nat)) := Q1.out.ten.c 2 (by decide)
    have q3 : wl.cell? ⟨B, 3, none⟩ = some (.int .i64 (k : Nat)) := Q1.out.ten.c 3 (by decide)
    have q4 : wl.cell? ⟨B, 4, none⟩ = some (.int .i64 (v : Nat)) := Q1.out.ten.c 4 (by decide)
    have q5 : wl.cell? ⟨B, 5, none⟩ = some (.float .f64 x) := Q1.out.ten.c 5 (by decide)
    have q6 : wl.cell? ⟨B, 6, none⟩ = some (.int .i64 y) := Q1.out.ten.c 6 (by decide)
    have q7 : wl.cell? ⟨B, 7, none⟩ = some (.int .u64 (g : Nat)) := Q1.out.ten.c 7 (by decide)
    have q8 : wl.cell? ⟨B, 8, none⟩ = some (.slice none 0 0) := Q1.out.ten.c 8 (by decide)
    have q9 : wl.cell? ⟨B, 9, none⟩ = some (.slice a9 zs.length c9) := Q1.out.ten.c 9 (by decide)
    have hend := rrend_any wl p _ s9 Q1.out.rd
    rw [G1.out] at hend
    refine hend.mono ?_
    rintro e w' ⟨rfl, rfl⟩
    clear hend
    cases b1
    case false =>
      have z0 : wl.cell? ⟨A, 0, none⟩ = some (.int .i64 0) := TA.out.c 0 (by decide)
      have zf0 := TA.out.fz 0
      have z1 : wl.cell? ⟨A, 1, none⟩ = some (.int .u64 0) := TA.out.c 1 (by decide)
      have zf1 := TA.out.fz 1
      have z2 : wl.cell? ⟨A, 2, none⟩ = some (.int .u64 0) := TA.out.c 2 (by decide)
      have zf2 := TA.out.fz 2
      have z3 : wl.cell? ⟨A, 3, none⟩ = some (.int .i64 0) := TA.out.c 3 (by decide)
      have zf3 := TA.out.fz 3
      have z4 : wl.cell? ⟨A, 4, none⟩ = some (.int .i64 0) := TA.out.c 4 (by decide)
      have zf4 := TA.out.fz 4
      have z5 : wl.cell? ⟨A, 5, none⟩ = some (.float .f64 0) := TA.out.c 5 (by decide)
      have zf5 := TA.out.fz 5
      have z6 : wl.cell? ⟨A, 6, none⟩ = some (.int .i64 0) := TA.out.c 6 (by decide)
      have zf6 := TA.out.fz 6
      have z7 : wl.cell? ⟨A, 7, none⟩ = some (.int .u64 0) := TA.out.c 7 (by decide)
      have zf7 := TA.out.fz 7
      have z8 : wl.cell? ⟨A, 8, none⟩ = some (.slice none 0 0) := TA.out.c 8 (by decide)
      have zf8 := TA.out.fz 8
      have z9 : wl.cell? ⟨A, 9, none⟩ = some (.slice none 0 0) := TA.out.c 9 (by decide)
      have zf9 := TA.out.fz 9
      go_wp2_with fail
      have TF : MsgB ((((((((((wl.setCell ⟨A, 0, none⟩ (.int .i64 0)).setCell ⟨A, 1, none⟩ (.int .u64 0)).setCell ⟨A, 2, none⟩ (.int .u64 0)).setCell ⟨A, 3, none⟩ (.int .i64 0)).setCell ⟨A, 4, none⟩ (.int .i64 0)).setCell ⟨A, 5, none⟩ (.float .f64 0)).setCell ⟨A, 6, none⟩ (.int .i64 0)).setCell ⟨A, 7, none⟩ (.int .u64 0)).setCell ⟨A, 8, none⟩ (.slice none 0 0)).setCell ⟨A, 9, none⟩ (.slice none 0 0)) A zeroM none 0 none 0 := setz_cells TA.out
      have HK : Keep (fun k => k = A) wl ((((((((((wl.setCell ⟨A, 0, none⟩ (.int .i64 0)).setCell ⟨A, 1, none⟩ (.int .u64 0)).setCell ⟨A, 2, none⟩ (.int .u64 0)).setCell ⟨A, 3, none⟩ (.int .i64 0)).setCell ⟨A, 4, none⟩ (.int .i64 0)).setCell ⟨A, 5, none⟩ (.float .f64 0)).setCell ⟨A, 6, none⟩ (.int .i64 0)).setCell ⟨A, 7, none⟩ (.int .u64 0)).setCell ⟨A, 8, none⟩ (.slice none 0 0)).setCell ⟨A, 9, none⟩ (.slice none 0 0)) := setz_keep wl A
      clear z0 z1 z2 z3 z4 z5 z6 z7 z8 z9 zf0 zf1 zf2 zf3 zf4 zf5 zf6 zf7 zf8 zf9 q0 q1 q2 q3 q4 q5 q6 q7 q8 q9
      generalize (((((((((wl.setCell ⟨A, 0, none⟩ (.int .i64 0)).setCell ⟨A, 1, none⟩ (.int .u64 0)).setCell ⟨A, 2, none⟩ (.int .u64 0)).setCell ⟨A, 3, none⟩ (.int .i64 0)).setCell ⟨A, 4, none⟩ (.int .i64 0)).setCell ⟨A, 5, none⟩ (.float .f64 0)).setCell ⟨A, 6, none⟩ (.int .i64 0)).setCell ⟨A, 7, none⟩ (.int .u64 0)).setCell ⟨A, 8, none⟩ (.slice none 0 0)).setCell ⟨A, 9, none⟩ (.slice none 0 0) = wf at TF HK ⊢
      have r0 : wf.cell? ⟨A, 0, none⟩ = some (.int .i64 0) := TF.c0
      have r1 : wf.cell? ⟨A, 1, none⟩ = some (.int .u64 0) := TF.c1
      have r2 : wf.cell? ⟨A, 2, none⟩ = some (.int .u64 0) := TF.c2
      have r3 : wf.cell? ⟨A, 3, none⟩ = some (.int .i64 0) := TF.c3
      have r4 : wf.cell? ⟨A, 4, none⟩ = some (.int .i64 0) := TF.c4
      have r5 : wf.cell? ⟨A, 5, none⟩ = some (.float .f64 0) := TF.c5
      have r6 : wf.cell? ⟨A, 6, none⟩ = some (.int .i64 0) := TF.c6
      have r7 : wf.cell? ⟨A, 7, none⟩ = some (.int .u64 0) := TF.c7
      have r8 : wf.cell? ⟨A, 8, none⟩ = some (.slice none 0 0) := TF.c8
      have r9 : wf.cell? ⟨A, 9, none⟩ = some (.slice none 0 0) := TF.c9
      clear TF
      refine bodyPost_ret (v := .tuple #[.agg zA, .bool false]) (by simp [results, Try.results18, go_sem, r0, r1, r2, r3, r4, r5, r6, r7, r8, r9]) rfl ?_
      have hO : okM bs = false := by rw [OK.out]; rfl
      have hG : gotM bs = zeroM := by unfold gotM; rw [hO]; rfl
      refine ⟨none, 0, none, 0, ?_, ?_, ?_⟩
      · rw [hO, hG]; rfl
      · rw [hG]; exact msgS_none _
      · exact BL.out.trans (HK.below BL.out.size (fun k e => by have := PP.out; omega))
    go_wp2_with fail
    refine (rgood_is (m := ⟨(f : Int), n, t, (k : Int), (v : Int), x, y, g, [], zs⟩) MS.out O.out G2.out).mono ?_
    rintro e w4 ⟨rfl, hb⟩
    have MS4 := Lib.hid (MS.out.below hb)
    have BL4 := Lib.hid (BL.out.trans (hb.mono BL.out.size))
    have TB := Lib.hid (TA.out.keep (F := fun _ => False) (show Keep (fun _ => False) wl w4 from ⟨hb.os, hb.tape, hb.output, hb.size, fun i hi _ => hb.block i hi⟩) id)
    replace q0 := cell_go q0 hb
    replace q1 := cell_go q1 hb
    replace q2 := cell_go q2 hb
    replace q3 := cell_go q3 hb
    replace q4 := cell_go q4 hb
    replace q5 := cell_go q5 hb
    replace q6 := cell_go q6 hb
    replace q7 := cell_go q7 hb
    replace q8 := cell_go q8 hb
    replace q9 := cell_go q9 hb
    have FB := Lib.hid (And.intro Q2.out.fr Q1.out.fr)
    clear hb MS TA BL Q1 Q2
    cases b2
    case false =>
      have z0 : w4.cell? ⟨A, 0, none⟩ = some (.int .i64 0) := TB.out.c 0 (by decide)
      have zf0 := TB.out.fz 0
      have z1 : w4.cell? ⟨A, 1, none⟩ = some (.int .u64 0) := TB.out.c 1 (by decide)
      have zf1 := TB.out.fz 1
      have z2 : w4.cell? ⟨A, 2, none⟩ = some (.int .u64 0) := TB.out.c 2 (by decide)
      have zf2 := TB.out.fz 2
      have z3 : w4.cell? ⟨A, 3, none⟩ = some (.int .i64 0) := TB.out.c 3 (by decide)
      have zf3 := TB.out.fz 3
      have z4 : w4.cell? ⟨A, 4, none⟩ = some (.int .i64 0) := TB.out.c 4 (by decide)
      have zf4 := TB.out.fz 4
      have z5 : w4.cell? ⟨A, 5, none⟩ = some (.float .f64 0) := TB.out.c 5 (by decide)
      have zf5 := TB.out.fz 5
      have z6 : w4.cell? ⟨A, 6, none⟩ = some (.int .i64 0) := TB.out.c 6 (by decide)
      have zf6 := TB.out.fz 6
      have z7 : w4.cell? ⟨A, 7, none⟩ = some (.int .u64 0) := TB.out.c 7 (by decide)
      have zf7 := TB.out.fz 7
      have z8 : w4.cell? ⟨A, 8, none⟩ = some (.slice none 0 0) := TB.out.c 8 (by decide)
      have zf8 := TB.out.fz 8
      have z9 : w4.cell? ⟨A, 9, none⟩ = some (.slice none 0 0) := TB.out.c 9 (by decide)
      have zf9 := TB.out.fz 9
      go_wp2_with fail
      have TF : MsgB ((((((((((w4.setCell ⟨A, 0, none⟩ (.int .i64 0)).setCell ⟨A, 1, none⟩ (.int .u64 0)).setCell ⟨A, 2, none⟩ (.int .u64 0)).setCell ⟨A, 3, none⟩ (.int .i64 0)).setCell ⟨A, 4, none⟩ (.int .i64 0)).setCell ⟨A, 5, none⟩ (.float .f64 0)).setCell ⟨A, 6, none⟩ (.int .i64 0)).setCell ⟨A, 7, none⟩ (.int .u64 0)).setCell ⟨A, 8, none⟩ (.slice none 0 0)).setCell ⟨A, 9, none⟩ (.slice none 0 0)) A zeroM none 0 none 0 := setz_cells TB.out
      have HK : Keep (fun k => k = A) w4 ((((((((((w4.setCell ⟨A, 0, none⟩ (.int .i64 0)).setCell ⟨A, 1, none⟩ (.int .u64 0)).setCell ⟨A, 2, none⟩ (.int .u64 0)).setCell ⟨A, 3, none⟩ (.int .i64 0)).setCell ⟨A, 4, none⟩ (.int .i64 0)).setCell ⟨A, 5, none⟩ (.float .f64 0)).setCell ⟨A, 6, none⟩ (.int .i64 0)).setCell ⟨A, 7, none⟩ (.int .u64 0)).setCell ⟨A, 8, none⟩ (.slice none 0 0)).setCell ⟨A, 9, none⟩ (.slice none 0 0)) := setz_keep w4 A
      clear z0 z1 z2 z3 z4 z5 z6 z7 z8 z9 zf0 zf1 zf2 zf3 zf4 zf5 zf6 zf7 zf8 zf9 q0 q1 q2 q3 q4 q5 q6 q7 q8 q9
      generalize (((((((((w4.setCell ⟨A, 0, none⟩ (.int .i64 0)).setCell ⟨A, 1, none⟩ (.int .u64 0)).setCell ⟨A, 2, none⟩ (.int .u64 0)).setCell ⟨A, 3, none⟩ (.int .i64 0)).setCell ⟨A, 4, none⟩ (.int .i64 0)).setCell ⟨A, 5, none⟩ (.float .f64 0)).setCell ⟨A, 6, none⟩ (.int .i64 0)).setCell ⟨A, 7, none⟩ (.int .u64 0)).setCell ⟨A, 8, none⟩ (.slice none 0 0)).setCell ⟨A, 9, none⟩ (.slice none 0 0) = wf at TF HK ⊢
      have r0 : wf.cell? ⟨A, 0, none⟩ = some (.int .i64 0) := TF.c0
      have r1 : wf.cell? ⟨A, 1, none⟩ = some (.int .u64 0) := TF.c1
      have r2 : wf.cell? ⟨A, 2, none⟩ = some (.int .u64 0) := TF.c2
      have r3 : wf.cell? ⟨A, 3, none⟩ = some (.int .i64 0) := TF.c3
      have r4 : wf.cell? ⟨A, 4, none⟩ = some (.int .i64 0) := TF.c4
      have r5 : wf.cell? ⟨A, 5, none⟩ = some (.float .f64 0) := TF.c5
      have r6 : wf.cell? ⟨A, 6, none⟩ = some (.int .i64 0) := TF.c6
      have r7 : wf.cell? ⟨A, 7, none⟩ = some (.int .u64 0) := TF.c7
      have r8 : wf.cell? ⟨A, 8, none⟩ = some (.slice none 0 0) := TF.c8
      have r9 : wf.cell? ⟨A, 9, none⟩ = some (.slice none 0 0) := TF.c9
      clear TF
      refine bodyPost_ret (v := .tuple #[.agg zA, .bool false]) (by simp [results, Try.results18, go_sem, r0, r1, r2, r3, r4, r5, r6, r7, r8, r9]) rfl ?_
      have hO : okM bs = false := by rw [OK.out]; rfl
      have hG : gotM bs = zeroM := by unfold gotM; rw [hO]; rfl
      refine ⟨none, 0, none, 0, ?_, ?_, ?_⟩
      · rw [hO, hG]; rfl
      · rw [hG]; exact msgS_none _
      · exact BL4.out.trans (HK.below BL4.out.size (fun k e => by have := PP.out; omega))
    have z0 : w4.cell? ⟨A, 0, none⟩ = some (.int .i64 0) := TB.out.c 0 (by decide)
    have zf0 := TB.out.fz 0
    have z1 : w4.cell? ⟨A, 1, none⟩ = some (.int .u64 0) := TB.out.c 1 (by decide)
    have zf1 := TB.out.fz 1
    have z2 : w4.cell? ⟨A, 2, none⟩ = some (.int .u64 0) := TB.out.c 2 (by decide)
    have zf2 := TB.out.fz 2
    have z3 : w4.cell? ⟨A, 3, none⟩ = some (.int .i64 0) := TB.out.c 3 (by decide)
    have zf3 := TB.out.fz 3
    have z4 : w4.cell? ⟨A, 4, none⟩ = some (.int .i64 0) := TB.out.c 4 (by decide)
    have zf4 := TB.out.fz 4
    have z5 : w4.cell? ⟨A, 5, none⟩ = some (.float .f64 0) := TB.out.c 5 (by decide)
    have zf5 := TB.out.fz 5
    have z6 : w4.cell? ⟨A, 6, none⟩ = some (.int .i64 0) := TB.out.c 6 (by decide)
    have zf6 := TB.out.fz 6
    have z7 : w4.cell? ⟨A, 7, none⟩ = some (.int .u64 0) := TB.out.c 7 (by decide)
    have zf7 := TB.out.fz 7
    have z8 : w4.cell? ⟨A, 8, none⟩ = some (.slice none 0 0) := TB.out.c 8 (by decide)
    have zf8 := TB.out.fz 8
    have z9 : w4.cell? ⟨A, 9, none⟩ = some (.slice none 0 0) := TB.out.c 9 (by decide)
    have zf9 := TB.out.fz 9
    go_wp2_with fail
    have TF : MsgB ((((((((((w4.setCell ⟨A, 0, none⟩ (.int .i64 (f : Nat))).setCell ⟨A, 1, none⟩ (.int .u64 (n : Nat))).setCell ⟨A, 2, none⟩ (.int .u64 (t : Nat))).setCell ⟨A, 3, none⟩ (.int .i64 (k : Nat))).setCell ⟨A, 4, none⟩ (.int .i64 (v : Nat))).setCell ⟨A, 5, none⟩ (.float .f64 x)).setCell ⟨A, 6, none⟩ (.int .i64 y)).setCell ⟨A, 7, none⟩ (.int .u64 (g : Nat))).setCell ⟨A, 8, none⟩ (.slice none 0 0)).setCell ⟨A, 9, none⟩ (.slice a9 zs.length c9)) A ⟨(f : Int), n, t, (k : Int), (v : Int), x, y, g, [], zs⟩ none 0 a9 c9 := set_cells TB.out ⟨(f : Int), n, t, (k : Int), (v : Int), x, y, g, [], zs⟩ none 0 a9 c9
    have HK : Keep (fun k => k = A) w4 ((((((((((w4.setCell ⟨A, 0, none⟩ (.int .i64 (f : Nat))).setCell ⟨A, 1, none⟩ (.int .u64 (n : Nat))).setCell ⟨A, 2, none⟩ (.int .u64 (t : Nat))).setCell ⟨A, 3, none⟩ (.int .i64 (k : Nat))).setCell ⟨A, 4, none⟩ (.int .i64 (v : Nat))).setCell ⟨A, 5, none⟩ (.float .f64 x)).setCell ⟨A, 6, none⟩ (.int .i64 y)).setCell ⟨A, 7, none⟩ (.int .u64 (g : Nat))).setCell ⟨A, 8, none⟩ (.slice none 0 0)).setCell ⟨A, 9, none⟩ (.slice a9 zs.length c9)) := set_keep w4 A ⟨(f : Int), n, t, (k : Int), (v : Int), x, y, g, [], zs⟩ none 0 a9 c9
    clear z0 z1 z2 z3 z4 z5 z6 z7 z8 z9 zf0 zf1 zf2 zf3 zf4 zf5 zf6 zf7 zf8 zf9 q0 q1 q2 q3 q4 q5 q6 q7 q8 q9
    generalize (((((((((w4.setCell ⟨A, 0, none⟩ (.int .i64 (f : Nat))).setCell ⟨A, 1, none⟩ (.int .u64 (n : Nat))).setCell ⟨A, 2, none⟩ (.int .u64 (t : Nat))).setCell ⟨A, 3, none⟩ (.int .i64 (k : Nat))).setCell ⟨A, 4, none⟩ (.int .i64 (v : Nat))).setCell ⟨A, 5, none⟩ (.float .f64 x)).setCell ⟨A, 6, none⟩ (.int .i64 y)).setCell ⟨A, 7, none⟩ (.int .u64 (g : Nat))).setCell ⟨A, 8, none⟩ (.slice none 0 0)).setCell ⟨A, 9, none⟩ (.slice a9 zs.length c9) = wf at TF HK ⊢
    have r0 : wf.cell? ⟨A, 0, none⟩ = some (.int .i64 (f : Nat)) := TF.c0
    have r1 : wf.cell? ⟨A, 1, none⟩ = some (.int .u64 (n : Nat)) := TF.c1
    have r2 : wf.cell? ⟨A, 2, none⟩ = some (.int .u64 (t : Nat)) := TF.c2
    have r3 : wf.cell? ⟨A, 3, none⟩ = some (.int .i64 (k : Nat)) := TF.c3
    have r4 : wf.cell? ⟨A, 4, none⟩ = some (.int .i64 (v : Nat)) := TF.c4
    have r5 : wf.cell? ⟨A, 5, none⟩ = some (.float .f64 x) := TF.c5
    have r6 : wf.cell? ⟨A, 6, none⟩ = some (.int .i64 y) := TF.c6
    have r7 : wf.cell? ⟨A, 7, none⟩ = some (.int .u64 (g : Nat)) := TF.c7
    have r8 : wf.cell? ⟨A, 8, none⟩ = some (.slice none 0 0) := TF.c8
    have r9 : wf.cell? ⟨A, 9, none⟩ = some (.slice a9 zs.length c9) := TF.c9
    clear TF
    refine bodyPost_ret (v := .tuple #[.agg #[.int .i64 (f : Nat), .int .u64 (n : Nat), .int .u64 (t : Nat), .int .i64 (k : Nat), .int .i64 (v : Nat), .float .f64 x, .int .i64 y, .int .u64 (g : Nat), .slice none 0 0, .slice a9 zs.length c9], .bool true]) (by simp [results, Try.results18, go_sem, r0, r1, r2, r3, r4, r5, r6, r7, r8, r9]) rfl ?_
    refine ⟨none, 0, a9, c9, ?_, ?_, ?_⟩
    · rw [OK.out, GM.out]; rfl
    · rw [GM.out]
      exact ⟨MS4.out.b.keep HK (fun ad e _ f => by have := FB.out.1 ad e; have := B0.out; have := B00.out; omega), MS4.out.s.keep HK (fun ad e _ f => by have := FB.out.2 ad e; have := B0.out; have := B00.out; omega)⟩
    · exact BL4.out.trans (HK.below BL4.out.size (fun k e => by have := PP.out; omega))

end Go.Proofs.Ytjdnaonhfacpoaa
