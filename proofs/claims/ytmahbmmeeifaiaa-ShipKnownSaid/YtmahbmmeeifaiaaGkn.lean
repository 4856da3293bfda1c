/-
  What the chapter says of room, of Acks, of alarms.
-/
import Derived.Test.YtmahbmmeeifaiaaGaw
namespace Go.Proofs.Ytmahbmmeeifaiaa
open Go.RowKit

def sC : ByteArray := ⟨#[99]⟩
def sD : ByteArray := ⟨#[100]⟩
def sE : ByteArray := ⟨#[101]⟩
def sF : ByteArray := ⟨#[102]⟩
theorem so_roomz {W w : World} {N p n : Nat} {S : Sh} {L : List Its} {r b : Bool} (h : ShOn W N p S L w) (ho : S.ok n) (hb : S.room r = b) : Calls Try.prog 17 #[.pointer (some ⟨p, 0, none⟩), .bool r] w fun E w' => E = .returned (.bool b) ∧ ∃ n, w' = w.drewN n := by
  subst hb
  exact so_room h ho r

set_option maxRecDepth 20000 in
set_option maxHeartbeats 16000000 in
theorem law_ShipKnown (W : World) : Calls Try.prog 3 #[] W (ShOk W) := by
  have hcv := fun (w : World) (C : Array Value) (n c : Nat) => Lib.run_convert_bytes_const (P := Try.prog) w 30 5 C n c Try.underlying30 Try.underlying5
  go_enter Try.func3, Try.ntmps3
  simp only [List.append_eq, List.cons_append, List.nil_append]
  go_wp2_with fail
  refine (sh_awake W).mono ?_
  rintro e w0 ⟨rfl, hb0⟩
  have B0 := Lib.hid hb0
  clear hb0
  go_wp2_with fail
  refine (sh_new_no w0 0 2 1 1 (by decide)).mono ?_
  rintro e x ⟨rfl, rfl⟩
  go_wp2_with fail
  refine (sh_new_no x 1 1 1 1 (by decide)).mono ?_
  rintro e x ⟨rfl, rfl⟩
  go_wp2_with fail
  refine (sh_new_no x 1 2 2 1 (by decide)).mono ?_
  rintro e x ⟨rfl, rfl⟩
  go_wp2_with fail
  refine (so_newz (a := 2) (q := 2) (f := 2) (m := 8) rfl rfl rfl rfl (by decide) (by decide) (by decide) B0.out B0.out.size).mono ?_
  rintro e x1 ⟨p, rfl, h1⟩
  have LN1 := Lib.hid h1
  clear h1 B0
  go_wp2_with fail
  refine (so_lit (n := 10) (c := 97) (s := sA) (g := 0) (k := 1) (b := true) (T := ⟨2, 2, 0, [sA], ⟨2, 8, 2, 2, 0⟩⟩) (ss := [sA]) LN1.out (Sh.ok_of (by decide)) (by decide) (by decide) rfl rfl rfl rfl rfl rfl rfl).mono ?_
  rintro e x2 ⟨a2, c2, rfl, h2⟩
  have LN2 := Lib.hid h2
  clear h2 LN1
  go_wp2_with fail
  refine (so_lit (n := 10) (c := 98) (s := sB) (g := 1) (k := 1) (b := true) (T := ⟨2, 2, 0, [sA, sB], ⟨2, 8, 2, 2, 0⟩⟩) (ss := [sB]) LN2.out (Sh.ok_of (by decide)) (by decide) (by decide) rfl rfl rfl rfl rfl rfl rfl).mono ?_
  rintro e x3 ⟨a3, c3, rfl, h3⟩
  have LN3 := Lib.hid h3
  clear h3 LN2
  go_wp2_with fail
  refine (so_lit (n := 10) (c := 99) (s := sC) (g := 2) (k := 0) (b := true) (T := ⟨2, 2, 0, [sA, sB, sC], ⟨2, 8, 2, 2, 0⟩⟩) (ss := []) LN3.out (Sh.ok_of (by decide)) (by decide) (by decide) rfl rfl rfl rfl rfl rfl rfl).mono ?_
  rintro e x4 ⟨a4, c4, rfl, h4⟩
  have LN4 := Lib.hid h4
  clear h4 LN3
  go_wp2_with fail
  refine (so_lit (n := 10) (c := 100) (s := sD) (g := 2) (k := 0) (b := false) (T := ⟨2, 2, 0, [sA, sB, sC], ⟨2, 8, 2, 2, 0⟩⟩) (ss := []) LN4.out (Sh.ok_of (by decide)) (by decide) (by decide) rfl rfl rfl rfl rfl rfl rfl).mono ?_
  rintro e x5 ⟨a5, c5, rfl, h5⟩
  have LN5 := Lib.hid h5
  clear h5 LN4
  go_wp2_with fail
  refine (so_lit (n := 10) (c := 101) (s := sE) (g := 2) (k := 0) (b := true) (T := ⟨2, 2, 0, [sA, sB, sC, sE], ⟨2, 8, 2, 2, 0⟩⟩) (ss := []) LN5.out (Sh.ok_of (by decide)) (by decide) (by decide) rfl rfl rfl rfl rfl rfl rfl).mono ?_
  rintro e x6 ⟨a6, c6, rfl, h6⟩
  have LN6 := Lib.hid h6
  clear h6 LN5
  go_wp2_with fail
  refine (so_lit (n := 10) (c := 102) (s := sF) (g := 2) (k := 0) (b := false) (T := ⟨2, 2, 0, [sA, sB, sC, sE], ⟨2, 8, 2, 2, 0⟩⟩) (ss := []) LN6.out (Sh.ok_of (by decide)) (by decide) (by decide) rfl rfl rfl rfl rfl rfl rfl).mono ?_
  rintro e x7 ⟨a7, c7, rfl, h7⟩
  have LN7 := Lib.hid h7
  clear h7 LN6
  go_wp2_with fail
  refine (so_ackz (n := 10) (c := 3) (g := 2) (k := 0) (T := ⟨2, 2, 0, [sA, sB, sC, sE], ⟨2, 8, 2, 2, 0⟩⟩) (ss := []) LN7.out (Sh.ok_of (by decide)) (by decide) rfl rfl rfl rfl rfl).mono ?_
  rintro e x8 ⟨a8, c8, rfl, h8⟩
  have LN8 := Lib.hid h8
  clear h8 LN7
  go_wp2_with fail
  refine (so_tickz (n := 10) (g := 0) (k := 0) (T := ⟨2, 2, 0, [sA, sB, sC, sE], ⟨2, 8, 2, 1, 0⟩⟩) (ss := []) LN8.out (Sh.ok_of (by decide)) (by decide) rfl rfl rfl rfl).mono ?_
  rintro e x9 ⟨a9, c9, rfl, h9⟩
  have LN9 := Lib.hid h9
  clear h9 LN8
  go_wp2_with fail
  refine (so_tickz (n := 10) (g := 0) (k := 2) (T := ⟨2, 2, 0, [sA, sB, sC, sE], ⟨2, 8, 4, 4, 1⟩⟩) (ss := [sA, sB]) LN9.out (Sh.ok_of (by decide)) (by decide) rfl rfl rfl rfl).mono ?_
  rintro e x10 ⟨a10, c10, rfl, h10⟩
  have LN10 := Lib.hid h10
  clear h10 LN9
  go_wp2_with fail
  refine (so_leftz (z := 4) (b := true) LN10.out rfl rfl).mono ?_
  rintro e x11 ⟨rfl, q11, rfl⟩
  have LN11 := Lib.hid (LN10.out.drewN q11)
  clear LN10
  generalize World.drewN _ q11 = y11 at *
  go_wp2_with fail
  refine (so_ackz (n := 10) (c := 1) (g := 2) (k := 1) (T := ⟨2, 2, 1, [sA, sB, sC, sE], ⟨2, 8, 2, 2, 1⟩⟩) (ss := [sC]) LN11.out (Sh.ok_of (by decide)) (by decide) rfl rfl rfl rfl rfl).mono ?_
  rintro e x12 ⟨a12, c12, rfl, h12⟩
  have LN12 := Lib.hid h12
  clear h12 LN11
  go_wp2_with fail
  refine (so_leftz (z := 2) (b := true) LN12.out rfl rfl).mono ?_
  rintro e x13 ⟨rfl, q13, rfl⟩
  have LN13 := Lib.hid (LN12.out.drewN q13)
  clear LN12
  generalize World.drewN _ q13 = y13 at *
  go_wp2_with fail
  refine (so_ackz (n := 10) (c := 3) (g := 3) (k := 1) (T := ⟨2, 2, 3, [sA, sB, sC, sE], ⟨2, 8, 2, 2, 1⟩⟩) (ss := [sE]) LN13.out (Sh.ok_of (by decide)) (by decide) rfl rfl rfl rfl rfl).mono ?_
  rintro e x14 ⟨a14, c14, rfl, h14⟩
  have LN14 := Lib.hid h14
  clear h14 LN13
  go_wp2_with fail
  refine (so_ackz (n := 10) (c := 4) (g := 4) (k := 0) (T := ⟨2, 2, 4, [sA, sB, sC, sE], ⟨2, 8, 2, 0, 1⟩⟩) (ss := []) LN14.out (Sh.ok_of (by decide)) (by decide) rfl rfl rfl rfl rfl).mono ?_
  rintro e x15 ⟨a15, c15, rfl, h15⟩
  have LN15 := Lib.hid h15
  clear h15 LN14
  go_wp2_with fail
  refine (so_leftz (z := 0) (b := false) LN15.out rfl rfl).mono ?_
  rintro e x16 ⟨rfl, q16, rfl⟩
  have LN16 := Lib.hid (LN15.out.drewN q16)
  clear LN15
  generalize World.drewN _ q16 = y16 at *
  have LB17 := Lib.hid (LN16.out.below (show Below y16.heap.size y16 (y16.alloc (.cells #[.int .u64 1, .string ⟨#[97]⟩, .int .u64 2, .string ⟨#[98]⟩] 38)) from (Below.refl _ _).alloc (Nat.le_refl _) _))
  have I17 := Lib.hid (rt_lit y16 0 2 [sA, sB] #[.int .u64 1, .string ⟨#[97]⟩, .int .u64 2, .string ⟨#[98]⟩] 38 rfl rfl (by unfold maxLen; omega))
  clear LN16
  go_wp2_with fail
  refine (it_is (g := 0) (ss := [sA, sB]) (LB17.out.it (x := ⟨.slice a10 2 c10, 0, [sA, sB]⟩) (by simp)) I17.out).mono ?_
  rintro e x17 ⟨rfl, q17, rfl⟩
  have LN17 := Lib.hid (LB17.out.drewN q17)
  clear LB17 I17
  generalize (y16.alloc (.cells #[.int .u64 1, .string ⟨#[97]⟩, .int .u64 2, .string ⟨#[98]⟩] 38)).drewN q17 = y17 at *
  have LB18 := Lib.hid (LN17.out.below (show Below y17.heap.size y17 (y17.alloc (.cells #[.int .u64 3, .string ⟨#[99]⟩] 38)) from (Below.refl _ _).alloc (Nat.le_refl _) _))
  have I18 := Lib.hid (rt_lit y17 2 1 [sC] #[.int .u64 3, .string ⟨#[99]⟩] 38 rfl rfl (by unfold maxLen; omega))
  clear LN17
  go_wp2_with fail
  refine (it_is (g := 2) (ss := [sC]) (LB18.out.it (x := ⟨.slice a12 1 c12, 2, [sC]⟩) (by simp)) I18.out).mono ?_
  rintro e x18 ⟨rfl, q18, rfl⟩
  have LN18 := Lib.hid (LB18.out.drewN q18)
  clear LB18 I18
  generalize (y17.alloc (.cells #[.int .u64 3, .string ⟨#[99]⟩] 38)).drewN q18 = y18 at *
  have LB19 := Lib.hid (LN18.out.below (show Below y18.heap.size y18 (y18.alloc (.cells #[.int .u64 4, .string ⟨#[101]⟩] 38)) from (Below.refl _ _).alloc (Nat.le_refl _) _))
  have I19 := Lib.hid (rt_lit y18 3 1 [sE] #[.int .u64 4, .string ⟨#[101]⟩] 38 rfl rfl (by unfold maxLen; omega))
  clear LN18
  go_wp2_with fail
  refine (it_is (g := 3) (ss := [sE]) (LB19.out.it (x := ⟨.slice a14 1 c14, 3, [sE]⟩) (by simp)) I19.out).mono ?_
  rintro e x19 ⟨rfl, q19, rfl⟩
  have LN19 := Lib.hid (LB19.out.drewN q19)
  clear LB19 I19
  generalize (y18.alloc (.cells #[.int .u64 4, .string ⟨#[101]⟩] 38)).drewN q19 = y19 at *
  go_wp2_with fail
  refine (so_out (n := 10) LN19.out (Sh.ok_of (by decide)) (by decide)).mono ?_
  rintro e z1 ⟨b1, d1, rfl, g1, -⟩
  have G1 := Lib.hid g1
  clear g1 LN19
  rw [show (⟨2, 2, 4, [sA, sB, sC, sE], ⟨2, 8, 2, 0, 1⟩⟩ : Sh).out.length = 0 from rfl] at G1 ⊢
  go_wp2_with fail
  refine (so_waits (n := 10) G1.out (Sh.ok_of (by decide)) (by decide)).mono ?_
  rintro e z2 ⟨b2, d2, rfl, g2, -⟩
  have G2 := Lib.hid g2
  clear g2 G1
  rw [show (⟨2, 2, 4, [sA, sB, sC, sE], ⟨2, 8, 2, 0, 1⟩⟩ : Sh).waits.length = 0 from rfl]
  go_wp2_with fail
  refine (so_roomz (n := 10) (b := true) G2.out (Sh.ok_of (by decide)) rfl).mono ?_
  rintro e z3 ⟨rfl, n3, rfl⟩
  go_wp2_with fail
  go_ret
  exact ⟨rfl, (G2.out.drewN n3).be⟩

end Go.Proofs.Ytmahbmmeeifaiaa
