/-
  What chapter 7 says of what each kind has: the walk of the statement MailKnown.
-/
import Derived.Test.YtjdnaonhfacpoaaJrow
import Derived.Test.YtjdnaonhfacpoaaJown
import Derived.Deep.RegionHeld3
namespace Go.Proofs.Ytjdnaonhfacpoaa
open Go.RowKit

def KnRel (W : World) (N B : Nat) (i : Value) (wr : World) : Prop := ∃ (k : Nat) (a : Nat → Option Addr), k ≤ 16 ∧ i = .int .i64 (k : Nat) ∧ Hid (Rows16 W N B k a wr)
def KnRel2 (W : World) (N B : Nat) (a : Nat → Option Addr) (s5 s11 : Option Addr) (r i : Value) (wr : World) : Prop := ∃ k : Nat, k ≤ 16 ∧ r = .bool false ∧ i = .int .i64 (k : Nat) ∧ Hid (BadAll W N B a s5 s11 wr)
theorem copy_mk (w : World) : Calls Try.prog 9 #[.float .f64 0, .float .f64 13830554455654793216] w fun e w' => e = .returned (.float .f64 9223372036854775808) ∧ w = w' := by
  have := copysign_any 0 13830554455654793216 w (by decide) (by decide)
  rwa [show copyN 0 13830554455654793216 = 9223372036854775808 by decide +kernel] at this

theorem bothN {W w' : World} {N B D : Nat} {m n : Msg} {ba b3 : Option Addr} {bc c3 : Nat} {sa s3 : Option Addr} {sc d3 : Nat} (hx : Hid (Mun W N B m ba bc sa sc w')) (hy : Hid (Mun W N D n b3 c3 s3 d3 w')) :
    w'.cell? ⟨B, 0, none⟩ = some (.int .i64 m.frm) ∧ w'.cell? ⟨B, 1, none⟩ = some (.int .u64 (m.num : Nat)) ∧ w'.cell? ⟨B, 2, none⟩ = some (.int .u64 (m.to : Nat)) ∧ w'.cell? ⟨B, 3, none⟩ = some (.int .i64 m.kind) ∧ w'.cell? ⟨B, 4, none⟩ = some (.int .i64 m.vr) ∧ w'.cell? ⟨B, 5, none⟩ = some (.float .f64 m.val) ∧ w'.cell? ⟨B, 6, none⟩ = some (.int .i64 m.wri) ∧ w'.cell? ⟨B, 7, none⟩ = some (.int .u64 (m.tag : Nat)) ∧ w'.cell? ⟨B, 8, none⟩ = some (.slice ba m.bod.length bc) ∧ w'.cell? ⟨B, 9, none⟩ = some (.slice sa m.stp.length sc) ∧ w'.cell? ⟨D, 0, none⟩ = some (.int .i64 n.frm) ∧ w'.cell? ⟨D, 1, none⟩ = some (.int .u64 (n.num : Nat)) ∧ w'.cell? ⟨D, 2, none⟩ = some (.int .u64 (n.to : Nat)) ∧ w'.cell? ⟨D, 3, none⟩ = some (.int .i64 n.kind) ∧ w'.cell? ⟨D, 4, none⟩ = some (.int .i64 n.vr) ∧ w'.cell? ⟨D, 5, none⟩ = some (.float .f64 n.val) ∧ w'.cell? ⟨D, 6, none⟩ = some (.int .i64 n.wri) ∧ w'.cell? ⟨D, 7, none⟩ = some (.int .u64 (n.tag : Nat)) ∧ w'.cell? ⟨D, 8, none⟩ = some (.slice b3 n.bod.length c3) ∧ w'.cell? ⟨D, 9, none⟩ = some (.slice s3 n.stp.length d3) ∧ Hid (Mun W N B m ba bc sa sc w') ∧ Hid (Mun W N D n b3 c3 s3 d3 w') :=
  ⟨hx.out.bx.c0, hx.out.bx.c1, hx.out.bx.c2, hx.out.bx.c3, hx.out.bx.c4, hx.out.bx.c5, hx.out.bx.c6, hx.out.bx.c7, hx.out.bx.c8, hx.out.bx.c9, hy.out.bx.c0, hy.out.bx.c1, hy.out.bx.c2, hy.out.bx.c3, hy.out.bx.c4, hy.out.bx.c5, hy.out.bx.c6, hy.out.bx.c7, hy.out.bx.c8, hy.out.bx.c9, hx, hy⟩
abbrev aArr : Array Value := #[.int .i64 1, .int .u64 300, .int .u64 1, .int .i64 3, .int .i64 2, .float .f64 nanW, .int .i64 (-1), .int .u64 0, .slice none 0 0, .slice none 0 0]
def aM : Msg := ⟨1, 300, 1, 3, 2, nanW, -1, 0, [], []⟩
theorem aM_ok : MsgOk aM := ⟨by decide, by decide, by decide, by decide⟩
theorem aM_good : goodM aM = true := by decide +kernel
theorem aM_back : backM aM = aM := by
  show (⟨1, 300, 1, 3, 2, if tagged 3 then backN nanW else 0, -1, 0, [], []⟩ : Msg) = ⟨1, 300, 1, 3, 2, nanW, -1, 0, [], []⟩
  rw [show tagged 3 = true from rfl, if_pos rfl, show backN nanW = nanW by unfold backN; rw [nan_w]; rfl]
theorem aM_got : gotM (putL aM) = aM ∧ okM (putL aM) = true := by
  have h := got_put aM_ok (of_decide_eq_true aM_good)
  rw [aM_back] at h
  exact ⟨h.2, h.1⟩
theorem aM_len : (putL aM).length ≤ 1000000 := by
  have a1 := lens aM.frm.toNat (by decide)
  have a2 := lens aM.num (by decide)
  have a3 := lens aM.to (by decide)
  have a4 := lens aM.kind.toNat (by decide)
  have a5 := lens aM.vr.toNat (by decide)
  have a6 := lens (aM.wri + 1).toNat (by decide)
  have a7 := lens aM.tag (by decide)
  have a8 := lens aM.bod.length (by decide)
  have a9 := lens aM.stp.length (by decide)
  have b1 : aM.bod.length = 0 := rfl
  have b2 : aM.stp.length = 0 := rfl
  unfold putL
  split <;> split <;> simp only [List.length_append, List.length_nil, beL_len] <;> omega
theorem none_got : gotM [] = zeroM ∧ okM [] = false := by
  have h : okM [] = false := by decide +kernel
  exact ⟨by unfold gotM; rw [h]; rfl, h⟩
theorem more_got : gotM [0, 1, 2, 0, 1, 97, 0, 0] = zeroM ∧ okM [0, 1, 2, 0, 1, 97, 0, 0] = false := by
  have e : putL wordM = [0, 1, 2, 0, 1, 97, 0] := by
    have := word_bytes
    unfold bytesM at this
    rwa [word_good, if_pos rfl] at this
  have hr := read_put word_ok (of_decide_eq_true word_good) [0]
  rw [e] at hr
  have h : okM [0, 1, 2, 0, 1, 97, 0, 0] = false := by
    unfold okM
    rw [show ([0, 1, 2, 0, 1, 97, 0, 0] : List Nat) = [0, 1, 2, 0, 1, 97, 0] ++ [0] from rfl, hr]
    rfl
  exact ⟨by unfold gotM; rw [h]; rfl, h⟩
def g1 : Msg := ⟨0, 1, 2, 2, 15, 0, 0, 0, [], []⟩
def g2 : Msg := ⟨3, 1, 2, 1, 0, 0, 3, 1, [], []⟩
theorem g1_ok : MsgOk g1 := ⟨by decide, by decide, by decide, by decide⟩
theorem g2_ok : MsgOk g2 := ⟨by decide, by decide, by decide, by decide⟩
theorem g1_good : goodM g1 = true := by decide +kernel
theorem g2_good : goodM g2 = true := by decide +kernel
theorem msgS_nil (w : World) (m : Msg) (h : m.bod = []) (h2 : m.stp = []) : MsgS w m none 0 none 0 := ⟨by rw [h]; exact SlAt.none _ _ _, by rw [h2]; exact SlAt.none _ _ _⟩

set_option maxRecDepth 100000 in
set_option maxHeartbeats 64000000 in
theorem law_MailKnown (W : World) : Calls Try.prog 3 #[] W (Ok W) := by
  have hst := store_float
  have hmk : ∀ w, (Instr.makeSlice 23 (.int .i64 16) (.int .i64 16)).run Try.prog w = .ok (.slice (some ⟨w.heap.size, 0, none⟩) 16 16) (w.alloc (.cells zeros16 29)) := fun _ => by kernel_rfl
  go_enter Try.func3, Try.ntmps3
  go_wp2_with fail
  refine (awake_any _).mono ?_
  rintro e w1 ⟨rfl, hb⟩
  have B1 := Lib.hid hb
  clear hb
  go_wp2_with fail
  have X1 := Lib.hid (rows_start B1.out B1.out.size (fun _ => none) 29)
  generalize w1.alloc (.cells zeros16 29) = w2 at X1 ⊢
  generalize w1.heap.size = B at X1 ⊢
  clear B1 hmk
  go_loopw [2] (fun i wr => KnRel W W.heap.size B i wr) (fun i _ => 16 - (intOf i).toNat)
  case atStart => exact ⟨0, _, by omega, rfl, X1⟩
  case round =>
    obtain ⟨k, a, hk, rfl, X⟩ := hrel
    clear X1
    by_cases hlt : k < 16
    · go_wp2_with fail
      refine (word_any _).mono ?_
      rintro e w3 ⟨x, rfl, hs, hb, hf⟩
      have X2 := Lib.hid (X.out.below hb)
      have FX : Hid (SlF B x 1 [97] w3) := Lib.hid ⟨hs.b, fun ad e => by have := hf ad e; have := X.out.row.lt; omega⟩
      have XN := Lib.hid (X2.out.next FX.out)
      clear hs hb hf X
      have c0 := X2.out.row.c (k * 10) (by omega)
      have f0 := X2.out.row.fz (k * 10)
      have c1 := X2.out.row.c (k * 10 + 1) (by omega)
      have f1 := X2.out.row.fz (k * 10 + 1)
      have c2 := X2.out.row.c (k * 10 + 2) (by omega)
      have f2 := X2.out.row.fz (k * 10 + 2)
      have c3 := X2.out.row.c (k * 10 + 3) (by omega)
      have f3 := X2.out.row.fz (k * 10 + 3)
      have c4 := X2.out.row.c (k * 10 + 4) (by omega)
      have f4 := X2.out.row.fz (k * 10 + 4)
      have c5 := X2.out.row.c (k * 10 + 5) (by omega)
      have f5 := X2.out.row.fz (k * 10 + 5)
      have c6 := X2.out.row.c (k * 10 + 6) (by omega)
      have f6 := X2.out.row.fz (k * 10 + 6)
      have c7 := X2.out.row.c (k * 10 + 7) (by omega)
      have f7 := X2.out.row.fz (k * 10 + 7)
      have c8 := X2.out.row.c (k * 10 + 8) (by omega)
      have f8 := X2.out.row.fz (k * 10 + 8)
      have c9 := X2.out.row.c (k * 10 + 9) (by omega)
      have f9 := X2.out.row.fz (k * 10 + 9)
      clear X2 FX
      go_wp2_with fail
      go_roundw
      case rel => exact ⟨k + 1, _, by omega, by go_num, XN⟩
      case measure => simp only [intOf]; omega
    · obtain rfl : k = 16 := by omega
      have X1 : Hid (RowsV W W.heap.size B (rowV 16 a) a wr) := Lib.hid ⟨X.out.row, X.out.sl⟩
      clear X
      have X2 := X1.out
      replace X2 := X2.put 0 (.int .i64 16)
      replace X2 := X2.put 11 (.int .u64 0)
      replace X2 := X2.put 22 (.int .u64 1)
      replace X2 := X2.put 32 (.int .u64 65536)
      replace X2 := X2.put 43 (.int .i64 4)
      obtain ⟨w5, H5, hmk1, hb, hs, hz⟩ := make_b (((((wr.setCell ⟨B, 0, none⟩ (.int .i64 16)).setCell ⟨B, 11, none⟩ (.int .u64 0)).setCell ⟨B, 22, none⟩ (.int .u64 1)).setCell ⟨B, 32, none⟩ (.int .u64 65536)).setCell ⟨B, 43, none⟩ (.int .i64 4)) 257 (z := 257) rfl (by decide)
      have X3 := Lib.hid (X2.below hb)
      have hlt4 := X2.row.lt
      have S5 : Hid (SlF B (some ⟨H5, 0, none⟩) 257 (List.replicate 257 0) w5) := Lib.hid ⟨hs, fun ad e => by cases e; simp only; omega⟩
      clear hb hs hz hlt4 X2
      have X4 := X3.out
      have S6 := S5.out
      replace X4 := X4.put 58 (.slice (some ⟨H5, 0, none⟩) 257 257)
      replace S6 := S6.put 58 (.slice (some ⟨H5, 0, none⟩) 257 257)
      replace X4 := X4.put 63 (.int .i64 2)
      replace S6 := S6.put 63 (.int .i64 2)
      replace X4 := X4.put 74 (.int .i64 1)
      replace S6 := S6.put 74 (.int .i64 1)
      replace X4 := X4.put 85 (.float .f64 4607182418800017408)
      replace S6 := S6.put 85 (.float .f64 4607182418800017408)
      replace X4 := X4.put 96 (.int .i64 1)
      replace S6 := S6.put 96 (.int .i64 1)
      replace X4 := X4.put 107 (.int .u64 1)
      replace S6 := S6.put 107 (.int .u64 1)
      obtain ⟨w11, H11, hmk2, hb, hs, hz⟩ := make_b ((((((w5.setCell ⟨B, 58, none⟩ (.slice (some ⟨H5, 0, none⟩) 257 257)).setCell ⟨B, 63, none⟩ (.int .i64 2)).setCell ⟨B, 74, none⟩ (.int .i64 1)).setCell ⟨B, 85, none⟩ (.float .f64 4607182418800017408)).setCell ⟨B, 96, none⟩ (.int .i64 1)).setCell ⟨B, 107, none⟩ (.int .u64 1)) 20001 (z := 20001) rfl (by decide)
      have X7 := Lib.hid (X4.below hb)
      have S7 := Lib.hid (S6.below hb)
      have hlt6 := X4.row.lt
      have T7 : Hid (SlF B (some ⟨H11, 0, none⟩) 20001 (List.replicate 20001 0) w11) := Lib.hid ⟨hs, fun ad e => by cases e; simp only; omega⟩
      clear hb hs hz hlt6 X4 S6
      have X8 := X7.out
      have S8 := S7.out
      have T8 := T7.out
      replace X8 := X8.put 119 (.slice (some ⟨H11, 0, none⟩) 20001 20001)
      replace S8 := S8.put 119 (.slice (some ⟨H11, 0, none⟩) 20001 20001)
      replace T8 := T8.put 119 (.slice (some ⟨H11, 0, none⟩) 20001 20001)
      replace X8 := X8.put 120 (.int .i64 0)
      replace S8 := S8.put 120 (.int .i64 0)
      replace T8 := T8.put 120 (.int .i64 0)
      replace X8 := X8.put 121 (.int .u64 1)
      replace S8 := S8.put 121 (.int .u64 1)
      replace T8 := T8.put 121 (.int .u64 1)
      replace X8 := X8.put 122 (.int .u64 2)
      replace S8 := S8.put 122 (.int .u64 2)
      replace T8 := T8.put 122 (.int .u64 2)
      replace X8 := X8.put 123 (.int .i64 1)
      replace S8 := S8.put 123 (.int .i64 1)
      replace T8 := T8.put 123 (.int .i64 1)
      replace X8 := X8.put 124 (.int .i64 0)
      replace S8 := S8.put 124 (.int .i64 0)
      replace T8 := T8.put 124 (.int .i64 0)
      replace X8 := X8.put 125 (.float .f64 0)
      replace S8 := S8.put 125 (.float .f64 0)
      replace T8 := T8.put 125 (.float .f64 0)
      replace X8 := X8.put 126 (.int .i64 1)
      replace S8 := S8.put 126 (.int .i64 1)
      replace T8 := T8.put 126 (.int .i64 1)
      replace X8 := X8.put 127 (.int .u64 1)
      replace S8 := S8.put 127 (.int .u64 1)
      replace T8 := T8.put 127 (.int .u64 1)
      replace X8 := X8.put 128 (.slice none 0 0)
      replace S8 := S8.put 128 (.slice none 0 0)
      replace T8 := T8.put 128 (.slice none 0 0)
      replace X8 := X8.put 129 (.slice none 0 0)
      replace S8 := S8.put 129 (.slice none 0 0)
      replace T8 := T8.put 129 (.slice none 0 0)
      replace X8 := X8.put 130 (.int .i64 0)
      replace S8 := S8.put 130 (.int .i64 0)
      replace T8 := T8.put 130 (.int .i64 0)
      replace X8 := X8.put 131 (.int .u64 1)
      replace S8 := S8.put 131 (.int .u64 1)
      replace T8 := T8.put 131 (.int .u64 1)
      replace X8 := X8.put 132 (.int .u64 2)
      replace S8 := S8.put 132 (.int .u64 2)
      replace T8 := T8.put 132 (.int .u64 2)
      replace X8 := X8.put 133 (.int .i64 1)
      replace S8 := S8.put 133 (.int .i64 1)
      replace T8 := T8.put 133 (.int .i64 1)
      replace X8 := X8.put 134 (.int .i64 0)
      replace S8 := S8.put 134 (.int .i64 0)
      replace T8 := T8.put 134 (.int .i64 0)
      replace X8 := X8.put 135 (.float .f64 0)
      replace S8 := S8.put 135 (.float .f64 0)
      replace T8 := T8.put 135 (.float .f64 0)
      replace X8 := X8.put 136 (.int .i64 0)
      replace S8 := S8.put 136 (.int .i64 0)
      replace T8 := T8.put 136 (.int .i64 0)
      replace X8 := X8.put 137 (.int .u64 0)
      replace S8 := S8.put 137 (.int .u64 0)
      replace T8 := T8.put 137 (.int .u64 0)
      replace X8 := X8.put 138 (.slice none 0 0)
      replace S8 := S8.put 138 (.slice none 0 0)
      replace T8 := T8.put 138 (.slice none 0 0)
      replace X8 := X8.put 139 (.slice none 0 0)
      replace S8 := S8.put 139 (.slice none 0 0)
      replace T8 := T8.put 139 (.slice none 0 0)
      replace X8 := X8.put 140 (.int .i64 0)
      replace S8 := S8.put 140 (.int .i64 0)
      replace T8 := T8.put 140 (.int .i64 0)
      replace X8 := X8.put 141 (.int .u64 1)
      replace S8 := S8.put 141 (.int .u64 1)
      replace T8 := T8.put 141 (.int .u64 1)
      replace X8 := X8.put 142 (.int .u64 2)
      replace S8 := S8.put 142 (.int .u64 2)
      replace T8 := T8.put 142 (.int .u64 2)
      replace X8 := X8.put 143 (.int .i64 3)
      replace S8 := S8.put 143 (.int .i64 3)
      replace T8 := T8.put 143 (.int .i64 3)
      replace X8 := X8.put 144 (.int .i64 0)
      replace S8 := S8.put 144 (.int .i64 0)
      replace T8 := T8.put 144 (.int .i64 0)
      replace X8 := X8.put 145 (.float .f64 0)
      replace S8 := S8.put 145 (.float .f64 0)
      replace T8 := T8.put 145 (.float .f64 0)
      replace X8 := X8.put 146 (.int .i64 2)
      replace S8 := S8.put 146 (.int .i64 2)
      replace T8 := T8.put 146 (.int .i64 2)
      replace X8 := X8.put 147 (.int .u64 0)
      replace S8 := S8.put 147 (.int .u64 0)
      replace T8 := T8.put 147 (.int .u64 0)
      replace X8 := X8.put 148 (.slice none 0 0)
      replace S8 := S8.put 148 (.slice none 0 0)
      replace T8 := T8.put 148 (.slice none 0 0)
      replace X8 := X8.put 149 (.slice none 0 0)
      replace S8 := S8.put 149 (.slice none 0 0)
      replace T8 := T8.put 149 (.slice none 0 0)
      replace X8 := X8.put 155 (.float .f64 9223372036854775808)
      replace S8 := S8.put 155 (.float .f64 9223372036854775808)
      replace T8 := T8.put 155 (.float .f64 9223372036854775808)
      have X9 : Hid (BadAll W W.heap.size B a (some ⟨H5, 0, none⟩) (some ⟨H11, 0, none⟩) ((((((((((((((((((((((((((((((((w11.setCell ⟨B, 119, none⟩ (.slice (some ⟨H11, 0, none⟩) 20001 20001)).setCell ⟨B, 120, none⟩ (.int .i64 0)).setCell ⟨B, 121, none⟩ (.int .u64 1)).setCell ⟨B, 122, none⟩ (.int .u64 2)).setCell ⟨B, 123, none⟩ (.int .i64 1)).setCell ⟨B, 124, none⟩ (.int .i64 0)).setCell ⟨B, 125, none⟩ (.float .f64 0)).setCell ⟨B, 126, none⟩ (.int .i64 1)).setCell ⟨B, 127, none⟩ (.int .u64 1)).setCell ⟨B, 128, none⟩ (.slice none 0 0)).setCell ⟨B, 129, none⟩ (.slice none 0 0)).setCell ⟨B, 130, none⟩ (.int .i64 0)).setCell ⟨B, 131, none⟩ (.int .u64 1)).setCell ⟨B, 132, none⟩ (.int .u64 2)).setCell ⟨B, 133, none⟩ (.int .i64 1)).setCell ⟨B, 134, none⟩ (.int .i64 0)).setCell ⟨B, 135, none⟩ (.float .f64 0)).setCell ⟨B, 136, none⟩ (.int .i64 0)).setCell ⟨B, 137, none⟩ (.int .u64 0)).setCell ⟨B, 138, none⟩ (.slice none 0 0)).setCell ⟨B, 139, none⟩ (.slice none 0 0)).setCell ⟨B, 140, none⟩ (.int .i64 0)).setCell ⟨B, 141, none⟩ (.int .u64 1)).setCell ⟨B, 142, none⟩ (.int .u64 2)).setCell ⟨B, 143, none⟩ (.int .i64 3)).setCell ⟨B, 144, none⟩ (.int .i64 0)).setCell ⟨B, 145, none⟩ (.float .f64 0)).setCell ⟨B, 146, none⟩ (.int .i64 2)).setCell ⟨B, 147, none⟩ (.int .u64 0)).setCell ⟨B, 148, none⟩ (.slice none 0 0)).setCell ⟨B, 149, none⟩ (.slice none 0 0)).setCell ⟨B, 155, none⟩ (.float .f64 9223372036854775808))) := Lib.hid ⟨X8, S8, T8⟩
      clear X8 S8 T8
      have c0 := X1.out.row.c 0 (by decide)
      have f0 := X1.out.row.fz 0
      have c11 := X1.out.row.c 11 (by decide)
      have f11 := X1.out.row.fz 11
      have c22 := X1.out.row.c 22 (by decide)
      have f22 := X1.out.row.fz 22
      have c32 := X1.out.row.c 32 (by decide)
      have f32 := X1.out.row.fz 32
      have c43 := X1.out.row.c 43 (by decide)
      have f43 := X1.out.row.fz 43
      have c58 := X3.out.row.c 58 (by decide)
      have f58 := X3.out.row.fz 58
      have c63 := X3.out.row.c 63 (by decide)
      have f63 := X3.out.row.fz 63
      have c74 := X3.out.row.c 74 (by decide)
      have f74 := X3.out.row.fz 74
      have c85 := X3.out.row.c 85 (by decide)
      have f85 := X3.out.row.fz 85
      have c96 := X3.out.row.c 96 (by decide)
      have f96 := X3.out.row.fz 96
      have c107 := X3.out.row.c 107 (by decide)
      have f107 := X3.out.row.fz 107
      have c119 := X7.out.row.c 119 (by decide)
      have f119 := X7.out.row.fz 119
      have c120 := X7.out.row.c 120 (by decide)
      have f120 := X7.out.row.fz 120
      have c121 := X7.out.row.c 121 (by decide)
      have f121 := X7.out.row.fz 121
      have c122 := X7.out.row.c 122 (by decide)
      have f122 := X7.out.row.fz 122
      have c123 := X7.out.row.c 123 (by decide)
      have f123 := X7.out.row.fz 123
      have c124 := X7.out.row.c 124 (by decide)
      have f124 := X7.out.row.fz 124
      have c125 := X7.out.row.c 125 (by decide)
      have f125 := X7.out.row.fz 125
      have c126 := X7.out.row.c 126 (by decide)
      have f126 := X7.out.row.fz 126
      have c127 := X7.out.row.c 127 (by decide)
      have f127 := X7.out.row.fz 127
      have c128 := X7.out.row.c 128 (by decide)
      have f128 := X7.out.row.fz 128
      have c129 := X7.out.row.c 129 (by decide)
      have f129 := X7.out.row.fz 129
      have c130 := X7.out.row.c 130 (by decide)
      have f130 := X7.out.row.fz 130
      have c131 := X7.out.row.c 131 (by decide)
      have f131 := X7.out.row.fz 131
      have c132 := X7.out.row.c 132 (by decide)
      have f132 := X7.out.row.fz 132
      have c133 := X7.out.row.c 133 (by decide)
      have f133 := X7.out.row.fz 133
      have c134 := X7.out.row.c 134 (by decide)
      have f134 := X7.out.row.fz 134
      have c135 := X7.out.row.c 135 (by decide)
      have f135 := X7.out.row.fz 135
      have c136 := X7.out.row.c 136 (by decide)
      have f136 := X7.out.row.fz 136
      have c137 := X7.out.row.c 137 (by decide)
      have f137 := X7.out.row.fz 137
      have c138 := X7.out.row.c 138 (by decide)
      have f138 := X7.out.row.fz 138
      have c139 := X7.out.row.c 139 (by decide)
      have f139 := X7.out.row.fz 139
      have c140 := X7.out.row.c 140 (by decide)
      have f140 := X7.out.row.fz 140
      have c141 := X7.out.row.c 141 (by decide)
      have f141 := X7.out.row.fz 141
      have c142 := X7.out.row.c 142 (by decide)
      have f142 := X7.out.row.fz 142
      have c143 := X7.out.row.c 143 (by decide)
      have f143 := X7.out.row.fz 143
      have c144 := X7.out.row.c 144 (by decide)
      have f144 := X7.out.row.fz 144
      have c145 := X7.out.row.c 145 (by decide)
      have f145 := X7.out.row.fz 145
      have c146 := X7.out.row.c 146 (by decide)
      have f146 := X7.out.row.fz 146
      have c147 := X7.out.row.c 147 (by decide)
      have f147 := X7.out.row.fz 147
      have c148 := X7.out.row.c 148 (by decide)
      have f148 := X7.out.row.fz 148
      have c149 := X7.out.row.c 149 (by decide)
      have f149 := X7.out.row.fz 149
      have c155 := X7.out.row.c 155 (by decide)
      have f155 := X7.out.row.fz 155
      clear X1 X3 X7 S5 S7 T7
      go_wp2_with (go_at_call 9; refine (copy_mk _).mono ?_; rintro e w' ⟨rfl, rfl⟩)
      generalize ((((((((((((((((((((((((((((((((w11.setCell ⟨B, 119, none⟩ (.slice (some ⟨H11, 0, none⟩) 20001 20001)).setCell ⟨B, 120, none⟩ (.int .i64 0)).setCell ⟨B, 121, none⟩ (.int .u64 1)).setCell ⟨B, 122, none⟩ (.int .u64 2)).setCell ⟨B, 123, none⟩ (.int .i64 1)).setCell ⟨B, 124, none⟩ (.int .i64 0)).setCell ⟨B, 125, none⟩ (.float .f64 0)).setCell ⟨B, 126, none⟩ (.int .i64 1)).setCell ⟨B, 127, none⟩ (.int .u64 1)).setCell ⟨B, 128, none⟩ (.slice none 0 0)).setCell ⟨B, 129, none⟩ (.slice none 0 0)).setCell ⟨B, 130, none⟩ (.int .i64 0)).setCell ⟨B, 131, none⟩ (.int .u64 1)).setCell ⟨B, 132, none⟩ (.int .u64 2)).setCell ⟨B, 133, none⟩ (.int .i64 1)).setCell ⟨B, 134, none⟩ (.int .i64 0)).setCell ⟨B, 135, none⟩ (.float .f64 0)).setCell ⟨B, 136, none⟩ (.int .i64 0)).setCell ⟨B, 137, none⟩ (.int .u64 0)).setCell ⟨B, 138, none⟩ (.slice none 0 0)).setCell ⟨B, 139, none⟩ (.slice none 0 0)).setCell ⟨B, 140, none⟩ (.int .i64 0)).setCell ⟨B, 141, none⟩ (.int .u64 1)).setCell ⟨B, 142, none⟩ (.int .u64 2)).setCell ⟨B, 143, none⟩ (.int .i64 3)).setCell ⟨B, 144, none⟩ (.int .i64 0)).setCell ⟨B, 145, none⟩ (.float .f64 0)).setCell ⟨B, 146, none⟩ (.int .i64 2)).setCell ⟨B, 147, none⟩ (.int .u64 0)).setCell ⟨B, 148, none⟩ (.slice none 0 0)).setCell ⟨B, 149, none⟩ (.slice none 0 0)).setCell ⟨B, 155, none⟩ (.float .f64 9223372036854775808)) = w12 at X9 ⊢
      clear c0 f0 c11 f11 c22 f22 c32 f32 c43 f43 c58 f58 c63 f63 c74 f74 c85 f85 c96 f96 c107 f107 c119 f119 c120 f120 c121 f121 c122 f122 c123 f123 c124 f124 c125 f125 c126 f126 c127 f127 c128 f128 c129 f129 c130 f130 c131 f131 c132 f132 c133 f133 c134 f134 c135 f135 c136 f136 c137 f137 c138 f138 c139 f139 c140 f140 c141 f141 c142 f142 c143 f143 c144 f144 c145 f145 c146 f146 c147 f147 c148 f148 c149 f149 c155 f155 hmk1 hmk2
      generalize ha1 : (some ⟨H5, 0, none⟩ : Option Addr) = s5 at X9 ⊢
      generalize ha2 : (some ⟨H11, 0, none⟩ : Option Addr) = s11 at X9 ⊢
      clear ha1 ha2
      have e16 : ((16 : Nat) : Int) = 16 := rfl
      try rw [e16]
      clear e16
      go_loopw [0, 3] (fun r i wr => KnRel2 W W.heap.size B a s5 s11 r i wr) (fun _ i _ => 16 - (intOf i).toNat)
      case atStart => exact ⟨0, by omega, rfl, rfl, X9⟩
      case round =>
        obtain ⟨k, hk, rfl, rfl, X⟩ := hrel
        clear X9
        by_cases hlt : k < 16
        · have A := X.out.at k hlt
          have G := Lib.hid (bad_good k hlt)
          have O := Lib.hid (bad_ok k hlt)
          have XA := Lib.hid (fun (w : World) (h : BadAll W W.heap.size B a s5 s11 w) => h.at k hlt)
          generalize badM k = x at *
          generalize badA a s5 k = ba at *
          generalize badCap k = bc at *
          generalize badS s11 k = sa at *
          generalize badSc k = sc at *
          have E := Lib.hid (show bytesM x = [] by unfold bytesM; rw [G.out]; rfl)
          obtain ⟨c0, c1, c2, c3, c4, c5, c6, c7, c8, c9, sl⟩ := A
          have SL := Lib.hid sl
          clear sl
          go_wp2_with fail
          refine (good_is (m := x) SL.out O.out G.out).mono ?_
          rintro e w20 ⟨rfl, hb⟩
          have X2 := Lib.hid (X.out.below hb)
          have A := XA.out _ X2.out
          clear hb X SL c0 c1 c2 c3 c4 c5 c6 c7 c8 c9
          obtain ⟨c0, c1, c2, c3, c4, c5, c6, c7, c8, c9, sl⟩ := A
          have SL := Lib.hid sl
          clear sl
          go_wp2_with fail
          refine (mput_is (m := x) SL.out O.out E.out).mono ?_
          rintro e w21 ⟨a21, cap21, rfl, _, hb⟩
          have X3 := Lib.hid (X2.out.below hb)
          have A := XA.out _ X3.out
          clear hb X2 SL c0 c1 c2 c3 c4 c5 c6 c7 c8 c9
          obtain ⟨c0, c1, c2, c3, c4, c5, c6, c7, c8, c9, sl⟩ := A
          have SL := Lib.hid sl
          clear sl
          go_wp2_with fail
          refine (msize_is (m := x) (z := 0) SL.out O.out (by rw [E.out]; rfl)).mono ?_
          rintro e w22 ⟨rfl, hb⟩
          have X4 := Lib.hid (X3.out.below hb)
          clear hb X3 SL c0 c1 c2 c3 c4 c5 c6 c7 c8 c9
          go_wp2_with fail
          go_roundw
          case rel => exact ⟨k + 1, by omega, rfl, by go_num, X4⟩
          case measure => simp only [intOf]; omega
        · have BE := Lib.hid X.out.rows.row.be
          clear X
          go_wp2_with fail
          refine (nan_any _).mono ?_
          rintro e w' ⟨rfl, rfl⟩
          have X1 : Hid (Mun W W.heap.size wr.heap.size aM none 0 none 0 (wr.alloc (.cells aArr 29))) :=
            Lib.hid ⟨BE.out.alloc BE.out.size _, (BE.out.alloc BE.out.size (.cells (msgA aM none 0 none 0) 29)).size, msgB_new wr aM none 0 none 0 _, msgS_nil _ aM rfl rfl⟩
          clear BE
          go_wp2_with fail
          generalize wr.alloc (.cells aArr 29) = w30 at X1 ⊢
          obtain ⟨D, hD⟩ : ∃ D, wr.heap.size = D := ⟨_, rfl⟩
          rw [hD] at X1 ⊢
          clear hD
          refine (mput_is (m := aM) X1.out.sl aM_ok (show bytesM aM = putL aM by unfold bytesM; rw [aM_good]; rfl)).mono ?_
          rintro e w31 ⟨a31, c31, rfl, hsl, hb⟩
          have X2 := Mun.of hb X1
          have S2 := Lib.hid hsl
          clear hb hsl X1
          go_wp2_with fail
          refine (mget_of S2.out rfl aM_len aM_got.1 aM_got.2).mono ?_
          rintro e w32 ⟨b3, c3, s3, d3, rfl, hs3, hb⟩
          have X3 := Mun.of hb X2
          clear hb X2 S2
          have Y3 : Hid (Mun W W.heap.size w32.heap.size aM b3 c3 s3 d3 (w32.alloc (.cells (msgA aM b3 c3 s3 d3) 29))) :=
            Lib.hid ⟨X3.out.be.alloc X3.out.le _, (Mun.alloc X3).out.le, msgB_new w32 aM b3 c3 s3 d3 _, hs3.below (below_alloc (Below.refl _ _) _)⟩
          have X4 : Hid (Mun W W.heap.size D aM none 0 none 0 (w32.alloc (.cells (msgA aM b3 c3 s3 d3) 29))) := Mun.alloc X3
          clear X3 hs3
          go_wp2_with fail
          generalize w32.alloc (.cells (msgA aM b3 c3 s3 d3) 29) = w33 at X4 Y3 ⊢
          obtain ⟨F, hF⟩ : ∃ F, w32.heap.size = F := ⟨_, rfl⟩
          rw [hF] at Y3 ⊢
          clear hF
          refine (mget_of (bs := []) (SlAt.none bV 256 w33) rfl (by decide) none_got.1 none_got.2).mono ?_
          rintro e w34 ⟨b5, c5, s5', d5, rfl, hn34, hb⟩
          clear hn34
          have X5 := Mun.alloc (o := .cells (msgA zeroM b5 c5 s5' d5) 29) (Mun.of hb X4)
          have Y5 := Mun.alloc (o := .cells (msgA zeroM b5 c5 s5' d5) 29) (Mun.of hb Y3)
          clear hb X4 Y3
          go_wp2_with fail
          generalize w34.alloc (.cells (msgA zeroM b5 c5 s5' d5) 29) = w35 at X5 Y5 ⊢
          generalize w34.heap.size = G7
          refine (word_any _).mono ?_
          rintro e w36 ⟨a36, rfl, hs36, hb, hn36⟩
          clear hn36
          have X6 := Mun.of hb X5
          have Y6 := Mun.of hb Y5
          have S6 := Lib.hid hs36
          clear hb X5 Y5 hs36
          go_wp2_with fail
          refine (show Calls Try.prog 11 #[.agg (msgA wordM a36 1 none 0)] w36 (OwnedPost w36 (bytesM wordM)) from mput_own wordM a36 1 none 0 w36 S6.out word_ok).mono ?_
          rw [word_bytes]
          rintro e w37 ⟨a37, c37, rfl, hown, hb⟩
          obtain ⟨i0, hi0, hz0, hz1, hz2⟩ := info_parts Try.infoB
          have O := Lib.hid (show w37.ownsRow w36.heap.size 5 1 (.slice a37 7 c37) 7 (([0, 1, 2, 0, 1, 97, 0] : List Nat).map bV) from hown)
          have B7 := Lib.hid hb
          clear hb hown S6
          go_wp2_with (at_builtin; refine wpList_append_opt rfl (.tmp 113) (.tmp 114) 27 rfl w36.heap.size 5 i0 (.int .u8 0) 1 1 Try.underlying27 hi0 hz0 hz1 hz2 rfl (by decide) _ _ _ rfl (World.ownsRow.alloc O.out _) (some ⟨w37.heap.size, 0, none⟩) 1 1 [bV 0] rfl rfl (fun e => by cases e) (fun ad e => by cases e; exact World.news_of_block (heap_alloc_new _ _)) (by simp [bV, Value.oneCell']) (by unfold maxLen; omega) (by omega) (by have := B7.out.size; simp; omega) ?_
                       intro v2 w38 hown2 hgr2
                       have hb2 : Below w36.heap.size w36 w38 := (B7.out.alloc B7.out.size _).grown hgr2 (by have := B7.out.size; simp; omega) (fun k h => (O.out.lt k h).1)
                       have R2 := Lib.hid hown2
                       have BB := Lib.hid hb2
                       clear hown2 hgr2 hb2)
          obtain ⟨hloop, a38, c38, rfl, hs38⟩ := own_sl (M := 256) (xs := [0, 1, 2, 0, 1, 97, 0, 0]) R2.out (by decide)
          have S8 := Lib.hid hs38
          have X7 := Mun.of BB.out X6
          have Y7 := Mun.of BB.out Y6
          clear hloop R2 BB hs38 X6 Y6 O B7 hz0 hz1 hz2 hi0
          clear i0
          go_wp2_with fail
          refine (mget_of S8.out rfl (by decide) more_got.1 more_got.2).mono ?_
          rintro e w39 ⟨b9, c9, s9, d9, rfl, hn39, hb⟩
          clear hn39
          have X8 := Mun.alloc (o := .cells (msgA zeroM b9 c9 s9 d9) 29) (Mun.of hb X7)
          have Y8 := Mun.alloc (o := .cells (msgA zeroM b9 c9 s9 d9) 29) (Mun.of hb Y7)
          clear hb X7 Y7 S8
          go_wp2_with fail
          generalize w39.alloc (.cells (msgA zeroM b9 c9 s9 d9) 29) = w40 at X8 Y8 ⊢
          generalize w39.heap.size = G9
          refine wp_region_noPanic ?_
          refine wp_region_held_drew (S := (fun w' => w'.cell? ⟨D, 0, none⟩ = some (.int .i64 aM.frm) ∧ w'.cell? ⟨D, 1, none⟩ = some (.int .u64 (aM.num : Nat)) ∧ w'.cell? ⟨D, 2, none⟩ = some (.int .u64 (aM.to : Nat)) ∧ w'.cell? ⟨D, 3, none⟩ = some (.int .i64 aM.kind) ∧ w'.cell? ⟨D, 4, none⟩ = some (.int .i64 aM.vr) ∧ w'.cell? ⟨D, 5, none⟩ = some (.float .f64 aM.val) ∧ w'.cell? ⟨D, 6, none⟩ = some (.int .i64 aM.wri) ∧ w'.cell? ⟨D, 7, none⟩ = some (.int .u64 (aM.tag : Nat)) ∧ w'.cell? ⟨D, 8, none⟩ = some (.slice none aM.bod.length 0) ∧ w'.cell? ⟨D, 9, none⟩ = some (.slice none aM.stp.length 0) ∧ w'.cell? ⟨F, 0, none⟩ = some (.int .i64 aM.frm) ∧ w'.cell? ⟨F, 1, none⟩ = some (.int .u64 (aM.num : Nat)) ∧ w'.cell? ⟨F, 2, none⟩ = some (.int .u64 (aM.to : Nat)) ∧ w'.cell? ⟨F, 3, none⟩ = some (.int .i64 aM.kind) ∧ w'.cell? ⟨F, 4, none⟩ = some (.int .i64 aM.vr) ∧ w'.cell? ⟨F, 5, none⟩ = some (.float .f64 aM.val) ∧ w'.cell? ⟨F, 6, none⟩ = some (.int .i64 aM.wri) ∧ w'.cell? ⟨F, 7, none⟩ = some (.int .u64 (aM.tag : Nat)) ∧ w'.cell? ⟨F, 8, none⟩ = some (.slice b3 aM.bod.length c3) ∧ w'.cell? ⟨F, 9, none⟩ = some (.slice s3 aM.stp.length d3) ∧ Hid (Mun W W.heap.size D aM none 0 none 0 w') ∧ Hid (Mun W W.heap.size F aM b3 c3 s3 d3 w'))) (by kernel_rfl) ?_ (fun hHeld => ?_)
          · exact bothN (Mun.drew X8) (Mun.drew Y8)
          refine wpAnyH_take (i := 0) (oi := { dst := some 119, op := Op.load 29 (Operand.tmp 4), type := 29, pos := "law.go:65", after := #[], guard := none }) (v := ?_) rfl (by kernel_rfl) (by kernel_rfl) (by kernel_rfl) (fun _ _ _ h => h) (Or.inl ⟨by rfl, ?_⟩) (by assumption) ?_
          rotate_left
          · (intro w hSw; (try dsimp only at hSw); go_simp; try with_reducible rfl)
          ((try simp only [Act.put]); (try simp only [List.setIfInBounds_toArray]); (try simp only [List.set_cons_succ]); (try simp only [List.set_cons_zero]))
          refine wpAnyH_ready (rs := [1]) (by kernel_rfl) (by simp) ?_
          refine AllReadyH.cons (o := { dst := some 120, op := Op.call { callee := Callee.value (Operand.func 10), args := #[Operand.tmp 119], argTypes := #[29] }, type := 4, pos := "law.go:65", after := #[{ on := 0, ground := Ground.data }], guard := none }) rfl (fun K hK => ?_) AllReadyH.nil
          go_simp
          refine (good_is (m := aM) hHeld.2.2.2.2.2.2.2.2.2.2.2.2.2.2.2.2.2.2.2.2.1.out.sl aM_ok aM_good).mono ?_
          rintro e w' ⟨rfl, hb⟩
          try go_wp2_with fail
          refine hK.out _ _ ?_ (fun hNew => ?_)
          · first | exact hHeld | exact bothN (Mun.of hb hHeld.2.2.2.2.2.2.2.2.2.2.2.2.2.2.2.2.2.2.2.2.1) (Mun.of hb hHeld.2.2.2.2.2.2.2.2.2.2.2.2.2.2.2.2.2.2.2.2.2)
          clear hK K
          replace hHeld := hNew
          clear hNew
          ((try simp only [Act.put]); (try simp only [List.setIfInBounds_toArray]); (try simp only [List.set_cons_succ]); (try simp only [List.set_cons_zero]))
          refine wpAnyH_take (i := 2) (oi := { dst := some 121, op := Op.move (Operand.tmp 120), type := 4, pos := "law.go:65", after := #[{ on := 1, ground := Ground.data }, { on := 1, ground := Ground.chain }], guard := none }) (v := ?_) rfl (by kernel_rfl) (by kernel_rfl) (by kernel_rfl) (fun _ _ _ h => h) (Or.inl ⟨by rfl, ?_⟩) (by assumption) ?_
          rotate_left
          · (intro w hSw; (try dsimp only at hSw); go_simp; try with_reducible rfl)
          ((try simp only [Act.put]); (try simp only [List.setIfInBounds_toArray]); (try simp only [List.set_cons_succ]); (try simp only [List.set_cons_zero]))
          refine wpAnyH_take (i := 3) (oi := { dst := some 122, op := Op.move (Operand.tmp 6), type := 36, pos := "law.go:65", after := #[{ on := 2, ground := Ground.guard }], guard := some (2, true) }) (v := ?_) rfl (by kernel_rfl) (by kernel_rfl) (by kernel_rfl) (fun _ _ _ h => h) (Or.inl ⟨by rfl, ?_⟩) (by assumption) ?_
          rotate_left
          · (intro w hSw; (try dsimp only at hSw); go_simp; try with_reducible rfl)
          ((try simp only [Act.put]); (try simp only [List.setIfInBounds_toArray]); (try simp only [List.set_cons_succ]); (try simp only [List.set_cons_zero]))
          refine wpAnyH_take (i := 4) (oi := { dst := some 123, op := Op.binOp BinOp.eql 36 (Operand.tmp 122) (Operand.const (Value.int IntKind.i64 0)) 36, type := 4, pos := "law.go:65", after := #[{ on := 3, ground := Ground.data }, { on := 2, ground := Ground.guard }], guard := some (2, true) }) (v := ?_) rfl (by kernel_rfl) (by kernel_rfl) (by kernel_rfl) (fun _ _ _ h => h) (Or.inl ⟨by rfl, ?_⟩) (by assumption) ?_
          rotate_left
          · (intro w hSw; (try dsimp only at hSw); go_simp; try with_reducible rfl)
          ((try simp only [Act.put]); (try simp only [List.setIfInBounds_toArray]); (try simp only [List.set_cons_succ]); (try simp only [List.set_cons_zero]))
          refine wpAnyH_take (i := 5) (oi := { dst := some 124, op := Op.pick (Operand.tmp 121) (Operand.tmp 123) (Operand.const (Value.bool false)), type := 4, pos := "law.go:65", after := #[{ on := 2, ground := Ground.data }, { on := 4, ground := Ground.data }], guard := none }) (v := ?_) rfl (by kernel_rfl) (by kernel_rfl) (by kernel_rfl) (fun _ _ _ h => h) (Or.inl ⟨by rfl, ?_⟩) (by assumption) ?_
          rotate_left
          · (intro w hSw; (try dsimp only at hSw); go_simp; try with_reducible rfl)
          ((try simp only [Act.put]); (try simp only [List.setIfInBounds_toArray]); (try simp only [List.set_cons_succ]); (try simp only [List.set_cons_zero]))
          refine wpAnyH_take (i := 6) (oi := { dst := some 125, op := Op.move (Operand.tmp 124), type := 4, pos := "law.go:65", after := #[{ on := 5, ground := Ground.data }, { on := 2, ground := Ground.chain }], guard := none }) (v := ?_) rfl (by kernel_rfl) (by kernel_rfl) (by kernel_rfl) (fun _ _ _ h => h) (Or.inl ⟨by rfl, ?_⟩) (by assumption) ?_
          rotate_left
          · (intro w hSw; (try dsimp only at hSw); go_simp; try with_reducible rfl)
          ((try simp only [Act.put]); (try simp only [List.setIfInBounds_toArray]); (try simp only [List.set_cons_succ]); (try simp only [List.set_cons_zero]))
          refine wpAnyH_take (i := 7) (oi := { dst := some 126, op := Op.load 29 (Operand.tmp 4), type := 29, pos := "law.go:65", after := #[{ on := 6, ground := Ground.guard }], guard := some (6, true) }) (v := ?_) rfl (by kernel_rfl) (by kernel_rfl) (by kernel_rfl) (fun _ _ _ h => h) (Or.inl ⟨by rfl, ?_⟩) (by assumption) ?_
          rotate_left
          · (intro w hSw; (try dsimp only at hSw); go_simp; try with_reducible rfl)
          ((try simp only [Act.put]); (try simp only [List.setIfInBounds_toArray]); (try simp only [List.set_cons_succ]); (try simp only [List.set_cons_zero]))
          refine wpAnyH_take (i := 9) (oi := { dst := some 128, op := Op.load 29 (Operand.tmp 5), type := 29, pos := "law.go:65", after := #[{ on := 6, ground := Ground.guard }], guard := some (6, true) }) (v := ?_) rfl (by kernel_rfl) (by kernel_rfl) (by kernel_rfl) (fun _ _ _ h => h) (Or.inl ⟨by rfl, ?_⟩) (by assumption) ?_
          rotate_left
          · (intro w hSw; (try dsimp only at hSw); go_simp; try with_reducible rfl)
          ((try simp only [Act.put]); (try simp only [List.setIfInBounds_toArray]); (try simp only [List.set_cons_succ]); (try simp only [List.set_cons_zero]))
          refine wpAnyH_ready (rs := [8]) (by kernel_rfl) (by simp) ?_
          refine AllReadyH.cons (o := { dst := some 127, op := Op.call { callee := Callee.value (Operand.func 16), args := #[Operand.tmp 126], argTypes := #[29] }, type := 41, pos := "law.go:65", after := #[{ on := 7, ground := Ground.data }, { on := 6, ground := Ground.chain }, { on := 6, ground := Ground.guard }], guard := some (6, true) }) rfl (fun K hK => ?_) AllReadyH.nil
          go_simp
          refine (own_any aM none 0 none 0 _).mono ?_
          rintro e w' ⟨rfl, hb⟩
          try go_wp2_with fail
          refine hK.out _ _ ?_ (fun hNew => ?_)
          · first | exact hHeld | exact bothN (Mun.of hb hHeld.2.2.2.2.2.2.2.2.2.2.2.2.2.2.2.2.2.2.2.2.1) (Mun.of hb hHeld.2.2.2.2.2.2.2.2.2.2.2.2.2.2.2.2.2.2.2.2.2)
          clear hK K
          replace hHeld := hNew
          clear hNew
          ((try simp only [Act.put]); (try simp only [List.setIfInBounds_toArray]); (try simp only [List.set_cons_succ]); (try simp only [List.set_cons_zero]))
          refine wpAnyH_ready (rs := [10]) (by kernel_rfl) (by simp) ?_
          refine AllReadyH.cons (o := { dst := some 129, op := Op.call { callee := Callee.value (Operand.func 16), args := #[Operand.tmp 128], argTypes := #[29] }, type := 41, pos := "law.go:65", after := #[{ on := 9, ground := Ground.data }, { on := 8, ground := Ground.chain }, { on := 6, ground := Ground.guard }], guard := some (6, true) }) rfl (fun K hK => ?_) AllReadyH.nil
          go_simp
          refine (own_any aM b3 c3 s3 d3 _).mono ?_
          rintro e w' ⟨rfl, hb⟩
          try go_wp2_with fail
          refine hK.out _ _ ?_ (fun hNew => ?_)
          · first | exact hHeld | exact bothN (Mun.of hb hHeld.2.2.2.2.2.2.2.2.2.2.2.2.2.2.2.2.2.2.2.2.1) (Mun.of hb hHeld.2.2.2.2.2.2.2.2.2.2.2.2.2.2.2.2.2.2.2.2.2)
          clear hK K
          replace hHeld := hNew
          clear hNew
          ((try simp only [Act.put]); (try simp only [List.setIfInBounds_toArray]); (try simp only [List.set_cons_succ]); (try simp only [List.set_cons_zero]))
          refine wpAnyH_ready (rs := [11]) (by kernel_rfl) (by simp) ?_
          refine AllReadyH.cons (o := { dst := some 130, op := Op.call { callee := Callee.value (Operand.func 15), args := #[Operand.tmp 127, Operand.tmp 129], argTypes := #[41, 41] }, type := 4, pos := "law.go:65", after := #[{ on := 8, ground := Ground.data }, { on := 10, ground := Ground.data }, { on := 10, ground := Ground.chain }, { on := 6, ground := Ground.guard }], guard := some (6, true) }) rfl (fun K hK => ?_) AllReadyH.nil
          go_simp
          refine (alike_any aM aM.val aM.val none 0 none 0 b3 c3 s3 d3 _ hHeld.2.2.2.2.2.2.2.2.2.2.2.2.2.2.2.2.2.2.2.2.1.out.sl hHeld.2.2.2.2.2.2.2.2.2.2.2.2.2.2.2.2.2.2.2.2.2.out.sl aM_ok.val aM_ok.val (by simp [sameN])).mono ?_
          rintro e w' ⟨rfl, hb⟩
          try go_wp2_with fail
          refine hK.out _ _ ?_ (fun hNew => ?_)
          · first | exact hHeld | exact bothN (Mun.of hb hHeld.2.2.2.2.2.2.2.2.2.2.2.2.2.2.2.2.2.2.2.2.1) (Mun.of hb hHeld.2.2.2.2.2.2.2.2.2.2.2.2.2.2.2.2.2.2.2.2.2)
          clear hK K
          replace hHeld := hNew
          clear hNew
          ((try simp only [Act.put]); (try simp only [List.setIfInBounds_toArray]); (try simp only [List.set_cons_succ]); (try simp only [List.set_cons_zero]))
          refine wpAnyH_take (i := 12) (oi := { dst := some 131, op := Op.pick (Operand.tmp 125) (Operand.tmp 130) (Operand.const (Value.bool false)), type := 4, pos := "law.go:65", after := #[{ on := 6, ground := Ground.data }, { on := 11, ground := Ground.data }], guard := none }) (v := ?_) rfl (by kernel_rfl) (by kernel_rfl) (by kernel_rfl) (fun _ _ _ h => h) (Or.inl ⟨by rfl, ?_⟩) (by assumption) ?_
          rotate_left
          · (intro w hSw; (try dsimp only at hSw); go_simp; try with_reducible rfl)
          ((try simp only [Act.put]); (try simp only [List.setIfInBounds_toArray]); (try simp only [List.set_cons_succ]); (try simp only [List.set_cons_zero]))
          refine wpAnyH_take (i := 13) (oi := { dst := some 132, op := Op.move (Operand.tmp 131), type := 4, pos := "law.go:65", after := #[{ on := 12, ground := Ground.data }, { on := 11, ground := Ground.chain }], guard := none }) (v := ?_) rfl (by kernel_rfl) (by kernel_rfl) (by kernel_rfl) (fun _ _ _ h => h) (Or.inl ⟨by rfl, ?_⟩) (by assumption) ?_
          rotate_left
          · (intro w hSw; (try dsimp only at hSw); go_simp; try with_reducible rfl)
          ((try simp only [Act.put]); (try simp only [List.setIfInBounds_toArray]); (try simp only [List.set_cons_succ]); (try simp only [List.set_cons_zero]))
          refine wpAnyH_take (i := 14) (oi := { dst := some 133, op := Op.move (Operand.tmp 8), type := 36, pos := "law.go:65", after := #[{ on := 13, ground := Ground.guard }], guard := some (13, true) }) (v := ?_) rfl (by kernel_rfl) (by kernel_rfl) (by kernel_rfl) (fun _ _ _ h => h) (Or.inl ⟨by rfl, ?_⟩) (by assumption) ?_
          rotate_left
          · (intro w hSw; (try dsimp only at hSw); go_simp; try with_reducible rfl)
          ((try simp only [Act.put]); (try simp only [List.setIfInBounds_toArray]); (try simp only [List.set_cons_succ]); (try simp only [List.set_cons_zero]))
          refine wpAnyH_take (i := 15) (oi := { dst := some 134, op := Op.binOp BinOp.eql 36 (Operand.tmp 133) (Operand.const (Value.int IntKind.i64 2)) 36, type := 4, pos := "law.go:65", after := #[{ on := 14, ground := Ground.data }, { on := 13, ground := Ground.guard }], guard := some (13, true) }) (v := ?_) rfl (by kernel_rfl) (by kernel_rfl) (by kernel_rfl) (fun _ _ _ h => h) (Or.inl ⟨by rfl, ?_⟩) (by assumption) ?_
          rotate_left
          · (intro w hSw; (try dsimp only at hSw); go_simp; try with_reducible rfl)
          ((try simp only [Act.put]); (try simp only [List.setIfInBounds_toArray]); (try simp only [List.set_cons_succ]); (try simp only [List.set_cons_zero]))
          refine wpAnyH_take (i := 16) (oi := { dst := some 135, op := Op.pick (Operand.tmp 132) (Operand.tmp 134) (Operand.const (Value.bool false)), type := 4, pos := "law.go:65", after := #[{ on := 13, ground := Ground.data }, { on := 15, ground := Ground.data }], guard := none }) (v := ?_) rfl (by kernel_rfl) (by kernel_rfl) (by kernel_rfl) (fun _ _ _ h => h) (Or.inl ⟨by rfl, ?_⟩) (by assumption) ?_
          rotate_left
          · (intro w hSw; (try dsimp only at hSw); go_simp; try with_reducible rfl)
          ((try simp only [Act.put]); (try simp only [List.setIfInBounds_toArray]); (try simp only [List.set_cons_succ]); (try simp only [List.set_cons_zero]))
          refine wpAnyH_take (i := 17) (oi := { dst := some 136, op := Op.move (Operand.tmp 135), type := 4, pos := "law.go:65", after := #[{ on := 16, ground := Ground.data }, { on := 13, ground := Ground.chain }], guard := none }) (v := ?_) rfl (by kernel_rfl) (by kernel_rfl) (by kernel_rfl) (fun _ _ _ h => h) (Or.inl ⟨by rfl, ?_⟩) (by assumption) ?_
          rotate_left
          · (intro w hSw; (try dsimp only at hSw); go_simp; try with_reducible rfl)
          ((try simp only [Act.put]); (try simp only [List.setIfInBounds_toArray]); (try simp only [List.set_cons_succ]); (try simp only [List.set_cons_zero]))
          refine wpAnyH_take (i := 18) (oi := { dst := some 137, op := Op.move (Operand.tmp 10), type := 36, pos := "law.go:65", after := #[{ on := 17, ground := Ground.guard }], guard := some (17, true) }) (v := ?_) rfl (by kernel_rfl) (by kernel_rfl) (by kernel_rfl) (fun _ _ _ h => h) (Or.inl ⟨by rfl, ?_⟩) (by assumption) ?_
          rotate_left
          · (intro w hSw; (try dsimp only at hSw); go_simp; try with_reducible rfl)
          ((try simp only [Act.put]); (try simp only [List.setIfInBounds_toArray]); (try simp only [List.set_cons_succ]); (try simp only [List.set_cons_zero]))
          refine wpAnyH_take (i := 19) (oi := { dst := some 138, op := Op.binOp BinOp.eql 36 (Operand.tmp 137) (Operand.const (Value.int IntKind.i64 2)) 36, type := 4, pos := "law.go:65", after := #[{ on := 18, ground := Ground.data }, { on := 17, ground := Ground.guard }], guard := some (17, true) }) (v := ?_) rfl (by kernel_rfl) (by kernel_rfl) (by kernel_rfl) (fun _ _ _ h => h) (Or.inl ⟨by rfl, ?_⟩) (by assumption) ?_
          rotate_left
          · (intro w hSw; (try dsimp only at hSw); go_simp; try with_reducible rfl)
          ((try simp only [Act.put]); (try simp only [List.setIfInBounds_toArray]); (try simp only [List.set_cons_succ]); (try simp only [List.set_cons_zero]))
          refine wpAnyH_take (i := 20) (oi := { dst := some 139, op := Op.pick (Operand.tmp 136) (Operand.tmp 138) (Operand.const (Value.bool false)), type := 4, pos := "law.go:65", after := #[{ on := 17, ground := Ground.data }, { on := 19, ground := Ground.data }], guard := none }) (v := ?_) rfl (by kernel_rfl) (by kernel_rfl) (by kernel_rfl) (fun _ _ _ h => h) (Or.inl ⟨by rfl, ?_⟩) (by assumption) ?_
          rotate_left
          · (intro w hSw; (try dsimp only at hSw); go_simp; try with_reducible rfl)
          ((try simp only [Act.put]); (try simp only [List.setIfInBounds_toArray]); (try simp only [List.set_cons_succ]); (try simp only [List.set_cons_zero]))
          refine wpAnyH_take (i := 21) (oi := { dst := some 140, op := Op.move (Operand.tmp 139), type := 4, pos := "law.go:65", after := #[{ on := 20, ground := Ground.data }, { on := 17, ground := Ground.chain }], guard := none }) (v := ?_) rfl (by kernel_rfl) (by kernel_rfl) (by kernel_rfl) (fun _ _ _ h => h) (Or.inl ⟨by rfl, ?_⟩) (by assumption) ?_
          rotate_left
          · (intro w hSw; (try dsimp only at hSw); go_simp; try with_reducible rfl)
          ((try simp only [Act.put]); (try simp only [List.setIfInBounds_toArray]); (try simp only [List.set_cons_succ]); (try simp only [List.set_cons_zero]))
          refine wpAnyH_take (i := 22) (oi := { dst := some 141, op := Op.build 29 #[(1, Operand.const (Value.int IntKind.u64 1)), (2, Operand.const (Value.int IntKind.u64 2)), (3, Operand.const (Value.int IntKind.i64 2)), (4, Operand.const (Value.int IntKind.i64 15))], type := 29, pos := "law.go:65", after := #[{ on := 21, ground := Ground.guard }], guard := some (21, true) }) (v := ?_) rfl (by kernel_rfl) (by kernel_rfl) (by kernel_rfl) (fun _ _ _ h => h) (Or.inl ⟨by rfl, ?_⟩) (by assumption) ?_
          rotate_left
          · (intro w hSw; (try dsimp only at hSw); go_simp; try with_reducible rfl)
          ((try simp only [Act.put]); (try simp only [List.setIfInBounds_toArray]); (try simp only [List.set_cons_succ]); (try simp only [List.set_cons_zero]))
          refine wpAnyH_ready (rs := [23]) (by kernel_rfl) (by simp) ?_
          refine AllReadyH.cons (o := { dst := some 142, op := Op.call { callee := Callee.value (Operand.func 10), args := #[Operand.tmp 141], argTypes := #[29] }, type := 4, pos := "law.go:65", after := #[{ on := 22, ground := Ground.data }, { on := 21, ground := Ground.chain }, { on := 21, ground := Ground.guard }], guard := some (21, true) }) rfl (fun K hK => ?_) AllReadyH.nil
          go_simp
          refine (good_is (m := g1) (msgS_nil _ g1 rfl rfl) g1_ok g1_good).mono ?_
          rintro e w' ⟨rfl, hb⟩
          try go_wp2_with fail
          refine hK.out _ _ ?_ (fun hNew => ?_)
          · first | exact hHeld | exact bothN (Mun.of hb hHeld.2.2.2.2.2.2.2.2.2.2.2.2.2.2.2.2.2.2.2.2.1) (Mun.of hb hHeld.2.2.2.2.2.2.2.2.2.2.2.2.2.2.2.2.2.2.2.2.2)
          clear hK K
          replace hHeld := hNew
          clear hNew
          ((try simp only [Act.put]); (try simp only [List.setIfInBounds_toArray]); (try simp only [List.set_cons_succ]); (try simp only [List.set_cons_zero]))
          refine wpAnyH_take (i := 24) (oi := { dst := some 143, op := Op.pick (Operand.tmp 140) (Operand.tmp 142) (Operand.const (Value.bool false)), type := 4, pos := "law.go:65", after := #[{ on := 21, ground := Ground.data }, { on := 23, ground := Ground.data }], guard := none }) (v := ?_) rfl (by kernel_rfl) (by kernel_rfl) (by kernel_rfl) (fun _ _ _ h => h) (Or.inl ⟨by rfl, ?_⟩) (by assumption) ?_
          rotate_left
          · (intro w hSw; (try dsimp only at hSw); go_simp; try with_reducible rfl)
          ((try simp only [Act.put]); (try simp only [List.setIfInBounds_toArray]); (try simp only [List.set_cons_succ]); (try simp only [List.set_cons_zero]))
          refine wpAnyH_take (i := 25) (oi := { dst := some 144, op := Op.move (Operand.tmp 143), type := 4, pos := "law.go:65", after := #[{ on := 24, ground := Ground.data }, { on := 23, ground := Ground.chain }], guard := none }) (v := ?_) rfl (by kernel_rfl) (by kernel_rfl) (by kernel_rfl) (fun _ _ _ h => h) (Or.inl ⟨by rfl, ?_⟩) (by assumption) ?_
          rotate_left
          · (intro w hSw; (try dsimp only at hSw); go_simp; try with_reducible rfl)
          ((try simp only [Act.put]); (try simp only [List.setIfInBounds_toArray]); (try simp only [List.set_cons_succ]); (try simp only [List.set_cons_zero]))
          refine wpAnyH_take (i := 26) (oi := { dst := some 145, op := Op.build 29 #[(0, Operand.const (Value.int IntKind.i64 3)), (1, Operand.const (Value.int IntKind.u64 1)), (2, Operand.const (Value.int IntKind.u64 2)), (3, Operand.const (Value.int IntKind.i64 1)), (6, Operand.const (Value.int IntKind.i64 3)), (7, Operand.const (Value.int IntKind.u64 1))], type := 29, pos := "law.go:65", after := #[{ on := 25, ground := Ground.guard }], guard := some (25, true) }) (v := ?_) rfl (by kernel_rfl) (by kernel_rfl) (by kernel_rfl) (fun _ _ _ h => h) (Or.inl ⟨by rfl, ?_⟩) (by assumption) ?_
          rotate_left
          · (intro w hSw; (try dsimp only at hSw); go_simp; try with_reducible rfl)
          ((try simp only [Act.put]); (try simp only [List.setIfInBounds_toArray]); (try simp only [List.set_cons_succ]); (try simp only [List.set_cons_zero]))
          refine wpAnyH_ready (rs := [27]) (by kernel_rfl) (by simp) ?_
          refine AllReadyH.cons (o := { dst := some 146, op := Op.call { callee := Callee.value (Operand.func 10), args := #[Operand.tmp 145], argTypes := #[29] }, type := 4, pos := "law.go:65", after := #[{ on := 26, ground := Ground.data }, { on := 25, ground := Ground.chain }, { on := 25, ground := Ground.guard }], guard := some (25, true) }) rfl (fun K hK => ?_) AllReadyH.nil
          go_simp
          refine (good_is (m := g2) (msgS_nil _ g2 rfl rfl) g2_ok g2_good).mono ?_
          rintro e w' ⟨rfl, hb⟩
          try go_wp2_with fail
          refine hK.out _ _ ?_ (fun hNew => ?_)
          · first | exact hHeld | exact bothN (Mun.of hb hHeld.2.2.2.2.2.2.2.2.2.2.2.2.2.2.2.2.2.2.2.2.1) (Mun.of hb hHeld.2.2.2.2.2.2.2.2.2.2.2.2.2.2.2.2.2.2.2.2.2)
          clear hK K
          replace hHeld := hNew
          clear hNew
          ((try simp only [Act.put]); (try simp only [List.setIfInBounds_toArray]); (try simp only [List.set_cons_succ]); (try simp only [List.set_cons_zero]))
          refine wpAnyH_take (i := 28) (oi := { dst := some 147, op := Op.pick (Operand.tmp 144) (Operand.tmp 146) (Operand.const (Value.bool false)), type := 4, pos := "law.go:65", after := #[{ on := 25, ground := Ground.data }, { on := 27, ground := Ground.data }], guard := none }) (v := ?_) rfl (by kernel_rfl) (by kernel_rfl) (by kernel_rfl) (fun _ _ _ h => h) (Or.inl ⟨by rfl, ?_⟩) (by assumption) ?_
          rotate_left
          · (intro w hSw; (try dsimp only at hSw); go_simp; try with_reducible rfl)
          ((try simp only [Act.put]); (try simp only [List.setIfInBounds_toArray]); (try simp only [List.set_cons_succ]); (try simp only [List.set_cons_zero]))
          refine wpAnyH_take (i := 29) (oi := { dst := some 0, op := Op.assign (Operand.tmp 147), type := 4, pos := "law.go:65", after := #[{ on := 28, ground := Ground.data }, { on := 27, ground := Ground.chain }, { on := 0, ground := Ground.phase }, { on := 1, ground := Ground.phase }, { on := 2, ground := Ground.phase }, { on := 3, ground := Ground.phase }, { on := 4, ground := Ground.phase }, { on := 5, ground := Ground.phase }, { on := 6, ground := Ground.phase }, { on := 7, ground := Ground.phase }, { on := 8, ground := Ground.phase }, { on := 9, ground := Ground.phase }, { on := 10, ground := Ground.phase }, { on := 11, ground := Ground.phase }, { on := 12, ground := Ground.phase }, { on := 13, ground := Ground.phase }, { on := 14, ground := Ground.phase }, { on := 15, ground := Ground.phase }, { on := 16, ground := Ground.phase }, { on := 17, ground := Ground.phase }, { on := 18, ground := Ground.phase }, { on := 19, ground := Ground.phase }, { on := 20, ground := Ground.phase }, { on := 21, ground := Ground.phase }, { on := 22, ground := Ground.phase }, { on := 23, ground := Ground.phase }, { on := 24, ground := Ground.phase }, { on := 25, ground := Ground.phase }, { on := 26, ground := Ground.phase }, { on := 27, ground := Ground.phase }, { on := 28, ground := Ground.phase }], guard := none }) (v := ?_) rfl (by kernel_rfl) (by kernel_rfl) (by kernel_rfl) (fun _ _ _ h => h) (Or.inl ⟨by rfl, ?_⟩) (by assumption) ?_
          rotate_left
          · (intro w hSw; (try dsimp only at hSw); go_simp; try with_reducible rfl)
          ((try simp only [Act.put]); (try simp only [List.setIfInBounds_toArray]); (try simp only [List.set_cons_succ]); (try simp only [List.set_cons_zero]))
          refine wpAnyH_done (by kernel_rfl) ?_ _
          refine NoPanic.normal ?_
          go_wp2_with fail
          go_ret
          exact ⟨rfl, hHeld.2.2.2.2.2.2.2.2.2.2.2.2.2.2.2.2.2.2.2.2.1.out.be⟩

end Go.Proofs.Ytjdnaonhfacpoaa
