/-
  TieKnown.
-/
import Derived.Test.YtfbojcaedcimcaaMap
import Derived.Deep.OwnRows
namespace Go.Proofs.Ytfbojcaedcimcaa
open Go.RowKit

/-- Very many noughts. -/
theorem make_many (w : World) : ∃ w' H, (Instr.makeSlice 30 (.int .i64 30001) (.int .i64 30001)).run Try.prog w = .ok (.slice (some ⟨H, 0, none⟩) 30001 30001) w' ∧ Below w.heap.size w w' := by
  obtain ⟨n, hn⟩ : ∃ n : Nat, n = 30001 := ⟨_, rfl⟩
  have hm := run_make_row' (P := Try.prog) 30 5 (.int .u8 0) 1 Try.underlying30 Try.infoB rfl .i64 .i64 n (by omega) (by omega) w
  have hz : (n : Int) = 30001 := by omega
  rw [hz] at hm
  exact ⟨_, w.heap.size, (by rw [← hn]; exact hm), below_alloc (Below.refl _ _) _⟩

set_option maxRecDepth 20000 in
set_option maxHeartbeats 16000000 in
theorem law_TieKnown (W : World) : Calls Try.prog 3 #[] W (TiOk W) := by
  have hcv := fun (w : World) (C : Array Value) (n c : Nat) => Lib.run_convert_bytes_const (P := Try.prog) w 30 5 C n c Try.underlying30 Try.underlying5
  go_enter Try.func3, Try.ntmps3
  go_wp2_with fail
  refine (ti_awake W).mono ?_
  rintro e w0 ⟨rfl, hb0⟩
  have B0 := Lib.hid hb0
  clear hb0
  go_wp2_with fail
  refine (tie_new_no 17 3 2 8 w0 (by decide)).mono ?_
  rintro e w1 ⟨rfl, hw⟩
  have hw2 := hw.symm
  clear hw
  subst hw2
  go_wp2_with fail
  refine (ti_new (W := W) (wi := 2) (qu := 3) (f := 2) (m := 8) rfl rfl rfl rfl (by decide) (by decide) (by decide) B0.out).mono ?_
  rintro e w1 ⟨N, t, rfl, h1⟩
  have L1 := Lib.hid h1
  clear h1 B0
  go_wp2_with fail
  refine (ti_lit (n := 10) (c := 10) (l := [7]) (s := ⟨#[7]⟩) (k := 1) (ok := false) (g := gotF [7]) (T' := Te.new 2 3 2 8) (up := []) (down := []) (ku := 0) (kd := 0) (z := 2) L1.out (Sh.ok_of (by decide)) (by decide) (Dk.ok_of (by decide)) (by decide) rfl rfl (by decide) rfl got_7 rfl rfl rfl rfl rfl rfl rfl).mono ?_
  rintro e w2 ⟨au2, cu2, ad2, cd2, rfl, h2⟩
  have L2 := Lib.hid h2
  clear h2 L1
  go_wp2_with fail
  refine (ti_litp (n := 10) (l := [120]) (s := sX) (k := 1) (T' := ⟨⟨2, 3, 0, [sX], ⟨2, 8, 2, 2, 0⟩⟩, Dk.new 2⟩) (out := [wireD (1, sX)]) (ko := 1) (b := true) L2.out (Sh.ok_of (by decide)) (by decide) rfl rfl (by decide) rfl rfl rfl rfl rfl).mono ?_
  rintro e w3 ⟨a3, c3, rfl, h3⟩
  have L3 := Lib.hid h3
  clear h3 L2
  go_wp2_with fail
  refine (ti_quiet (n := 10) (c := 10) (b := false) L3.out (Sh.ok_of (by decide)) (by decide) (Dk.ok_of (by decide)) rfl).mono ?_
  rintro e w4 ⟨rfl, h4⟩
  have L4 := Lib.hid h4
  clear h4 L3
  go_wp2_with fail
  refine (ti_lit (n := 10) (c := 10) (l := [1, 1]) (s := ⟨#[1, 1]⟩) (k := 2) (ok := true) (g := ⟨true, 1, []⟩) (T' := ⟨⟨2, 3, 1, [sX], ⟨2, 8, 2, 0, 0⟩⟩, Dk.new 2⟩) (up := []) (down := []) (ku := 0) (kd := 0) (z := 0) L4.out (Sh.ok_of (by decide)) (by decide) (Dk.ok_of (by decide)) (by decide) rfl rfl (by decide) rfl got_11.1 got_11.2 rfl rfl rfl rfl rfl rfl).mono ?_
  rintro e w5 ⟨au5, cu5, ad5, cd5, rfl, h5⟩
  have L5 := Lib.hid h5
  clear h5 L4
  go_wp2_with fail
  refine (ti_lit (n := 10) (c := 10) (l := [0, 9, 1, 97]) (s := ⟨#[0, 9, 1, 97]⟩) (k := 4) (ok := true) (g := ⟨false, 9, [97]⟩) (T' := ⟨⟨2, 3, 1, [sX], ⟨2, 8, 2, 0, 0⟩⟩, Dk.new 2⟩) (up := []) (down := [wireA 0]) (ku := 0) (kd := 1) (z := 0) L5.out (Sh.ok_of (by decide)) (by decide) (Dk.ok_of (by decide)) (by decide) rfl rfl (by decide) rfl got_9a.1 got_9a.2 rfl rfl rfl rfl rfl rfl).mono ?_
  rintro e w6 ⟨au6, cu6, ad6, cd6, rfl, h6⟩
  have L6 := Lib.hid h6
  clear h6 L5
  obtain ⟨w7, J, hmk, hb7⟩ := make_many w6
  have L7 := Lib.hid (L6.out.below hb7)
  clear hb7 L6
  go_wp2_with fail
  refine (tie_long (by decide)).mono ?_
  rintro e w8 ⟨rfl, hw⟩
  have hw2 := hw.symm
  clear hw
  subst hw2
  go_wp2_with fail
  refine (ti_state (n := 10) (c := 10) (s := .tuple #[.int .i64 0, .int .i64 0, .int .i64 0, .int .u64 1, .int .u64 1]) L7.out (Sh.ok_of (by decide)) (by decide) (Dk.ok_of (by decide)) rfl).mono ?_
  rintro e w9 ⟨rfl, h9⟩
  have L9 := Lib.hid h9
  clear h9 L7
  have B10 : Below w9.heap.size w9 (w9.alloc (.cells #[.string ⟨#[0, 1, 1, 120]⟩] 9)) := (Below.refl _ _).alloc (Nat.le_refl _) _
  have L10 := Lib.hid (L9.out.below B10)
  have I10 := Lib.hid (slv_lit w9 [.string ⟨#[0, 1, 1, 120]⟩] #[.string ⟨#[0, 1, 1, 120]⟩] 9 1 rfl rfl (by unfold maxLen; omega))
  clear B10 hmk
  go_wp2_with fail
  refine (rows_any (ss := [wireD (1, sX)]) (rs := [⟨#[0, 1, 1, 120]⟩]) (L10.out.get (x := (.slice a3 1 c3, [wireD (1, sX)])) (by simp)) I10.out rfl true (decide_eq_true (by rw [wireD_x]))).mono ?_
  rintro e w11 ⟨rfl, q11, rfl⟩
  have L11 := Lib.hid (L10.out.drewN q11)
  clear L9 L10 I10
  generalize (w9.alloc (.cells #[.string ⟨#[0, 1, 1, 120]⟩] 9)).drewN q11 = w12 at *
  have B12 : Below w12.heap.size w12 (w12.alloc (.cells #[.string ⟨#[1, 0]⟩] 9)) := (Below.refl _ _).alloc (Nat.le_refl _) _
  have L12 := Lib.hid (L11.out.below B12)
  have I12 := Lib.hid (slv_lit w12 [.string ⟨#[1, 0]⟩] #[.string ⟨#[1, 0]⟩] 9 1 rfl rfl (by unfold maxLen; omega))
  clear B12
  go_wp2_with fail
  refine (rows_any (ss := [wireA 0]) (rs := [⟨#[1, 0]⟩]) (L12.out.get (x := (.slice ad6 1 cd6, [wireA 0])) (by simp)) I12.out rfl true (decide_eq_true (by rw [wireA_0]))).mono ?_
  rintro e w13 ⟨rfl, q13, rfl⟩
  have L13 := Lib.hid (L12.out.drewN q13)
  clear L11 L12 I12
  generalize (w12.alloc (.cells #[.string ⟨#[1, 0]⟩] 9)).drewN q13 = w14 at *
  go_wp2_with fail
  refine (ti_quiet (n := 10) (c := 10) (b := true) L13.out (Sh.ok_of (by decide)) (by decide) (Dk.ok_of (by decide)) rfl).mono ?_
  rintro e w15 ⟨rfl, h15⟩
  have L15 := Lib.hid h15
  clear h15 L13
  go_wp2_with fail
  go_ret
  exact ⟨rfl, L15.out.be⟩

end Go.Proofs.Ytfbojcaedcimcaa
