/-
  MatSays: the first may not be.
-/
import Derived.Test.YtfiamomadicbpaaCsc
namespace Go.Proofs.Ytfiamomadicbpaa
open Go.RowKit

set_option maxRecDepth 20000 in
set_option maxHeartbeats 32000000 in
theorem law_MatSays_x (z : Int) (L : List Rd) (ao0 : Option Addr) (c0 : Nat) (M : List Rd) (ao1 : Option Addr) (c1 : Nat) (i j : Int) (t : Nat) (W : World) (b0 : SqV W ao0 c0 L) (b1 : SqV W ao1 c1 M) (ht : t < 18446744073709551616) (gA : goodM z (mOf L) = false) :
    Calls Try.prog 4 #[.int .i64 z, .slice ao0 L.length c0, .slice ao1 M.length c1, .int .i64 i, .int .i64 j, .int .u64 (t : Int)] W (VOk W) := by
  have A0 := Lib.hid (SqAt.of b0 rfl)
  have A1 := Lib.hid (SqAt.of b1 rfl)
  have TT := Lib.hid ht
  clear b0 b1 ht
  generalize mOf L = ma at *
  generalize mOf M = mb at *
  generalize L.length = n at *
  generalize M.length = m at *
  obtain ⟨ha, hha⟩ : ∃ h, h = heavyM ma := ⟨_, rfl⟩
  obtain ⟨hb, hhb⟩ : ∃ h, h = heavyM mb := ⟨_, rfl⟩
  obtain ⟨ga, hga⟩ : ∃ h, h = goodM z ma := ⟨_, rfl⟩
  obtain ⟨gb, hgb⟩ : ∃ h, h = goodM z mb := ⟨_, rfl⟩
  have HA := Lib.hid hha.symm
  have HB := Lib.hid hhb.symm
  have GA := Lib.hid hga.symm
  have GB := Lib.hid hgb.symm
  clear hha hhb hga hgb
  go_enter Try.func4, Try.ntmps4
  go_wp2_with fail
  refine (mawake_any W).mono ?_
  rintro e w1 ⟨rfl, hbb⟩
  have B := Lib.hid hbb
  replace A0 := Lib.hid (A0.out.below hbb)
  replace A1 := Lib.hid (A1.out.below hbb)
  clear hbb
  go_wp2_with fail
  refine (heavy_at A0.out HA.out).mono ?_
  rintro e w' ⟨rfl, rfl⟩
  cases ha
  case true =>
    go_wp2_with fail
    go_ret
    exact ⟨rfl, B.out⟩
  go_wp2_with fail
  refine (heavy_at A1.out HB.out).mono ?_
  rintro e w' ⟨rfl, rfl⟩
  cases hb
  case true =>
    go_wp2_with fail
    go_ret
    exact ⟨rfl, B.out⟩
  have hn : n ≤ 10000 := by have := (heavyM_no HA.out).1; rw [A0.out.len] at this; omega
  have hm : m ≤ 10000 := by have := (heavyM_no HB.out).1; rw [A1.out.len] at this; omega
  go_wp2_with fail
  refine (mat1_at z A0.out (by omega)).mono ?_
  rintro e w2 ⟨a2, c2, rfl, h2⟩
  have X := Lib.hid h2.1
  replace A0 := Lib.hid (A0.out.below h2.2)
  replace A1 := Lib.hid (A1.out.below h2.2)
  replace B := Lib.hid (B.out.trans (h2.2.mono B.out.size))
  clear h2
  go_wp2_with fail
  refine (mat1_at z A1.out (by omega)).mono ?_
  rintro e w3 ⟨a3, c3, rfl, h3⟩
  have Y := Lib.hid h3.1
  replace X := Lib.hid (X.out.below h3.2)
  replace A0 := Lib.hid (A0.out.below h3.2)
  replace A1 := Lib.hid (A1.out.below h3.2)
  replace B := Lib.hid (B.out.trans (h3.2.mono B.out.size))
  clear h3
  have X1 := (MtV.new (z := z) X.out 25).below (below_alloc (Below.refl _ _) (.cells #[.int .i64 z, .slice a3 m c3] 25))
  have Y1 := MtV.new (z := z) (Y.out.below (below_alloc (Below.refl _ _) (.cells #[.int .i64 z, .slice a2 n c2] 25))) 25
  rw [size_one] at Y1
  have SW := Lib.hid (below_alloc (below_alloc (Below.refl _ w3) (.cells #[.int .i64 z, .slice a2 n c2] 25)) (.cells #[.int .i64 z, .slice a3 m c3] 25))
  go_wp2_with fail
  clear X Y
  have X := Lib.hid X1
  have Y := Lib.hid Y1
  replace A0 := Lib.hid (A0.out.below SW.out)
  replace A1 := Lib.hid (A1.out.below SW.out)
  replace B := Lib.hid (B.out.trans (SW.out.mono B.out.size))
  clear X1 Y1 SW
  generalize (w3.alloc (.cells #[.int .i64 z, .slice a2 n c2] 25)).alloc (.cells #[.int .i64 z, .slice a3 m c3] 25) = w4 at *
  generalize w3.heap.size + 1 = py at *
  generalize w3.heap.size = px at *
  refine (rgood_at (z := z) A0.out GA.out).mono ?_
  rintro e w' ⟨rfl, rfl⟩
  go_wp2_with fail
  refine (rgood_at (z := z) A1.out GB.out).mono ?_
  rintro e w' ⟨rfl, rfl⟩
  have k0 := X.out.c0
  have k1 := X.out.c1
  go_wp2_with fail
  refine (mup_at (i := i) X.out.s (by omega) (heavy_rows HA.out) TT.out).mono ?_
  rintro e w5 ⟨a5, c5, rfl, h5⟩
  have SW := Lib.hid (below_alloc (Below.refl _ w5) (.cells #[.int .i64 z, .slice a5 n c5] 25))
  have U := Lib.hid (MtV.new (z := z) h5.1 25)
  replace X := Lib.hid ((X.out.below h5.2).below SW.out)
  replace Y := Lib.hid ((Y.out.below h5.2).below SW.out)
  replace A0 := Lib.hid ((A0.out.below h5.2).below SW.out)
  replace A1 := Lib.hid ((A1.out.below h5.2).below SW.out)
  replace B := Lib.hid ((B.out.trans (h5.2.mono B.out.size)).trans (SW.out.mono (B.out.trans (h5.2.mono B.out.size)).size))
  clear h5 SW k0 k1
  have k0 := X.out.c0
  have k1 := X.out.c1
  have k2 := Y.out.c0
  have k3 := Y.out.c1
  go_wp2_with fail
  generalize w5.alloc (.cells #[.int .i64 z, .slice a5 n c5] 25) = w6 at *
  generalize w5.heap.size = pu at *
  clear k0 k1 k2 k3
  obtain rfl : ga = false := GA.out.symm.trans gA
  clear gA
  cases gb
  · skip
    refine (mjoin_no X.out.s Y.out.s (both_no GA.out GB.out rfl)).mono ?_
    rintro e w7 ⟨rfl, hb7⟩
    have SW := Lib.hid (below_alloc (Below.refl _ w7) (.cells #[.int .i64 0, .slice none 0 0] 25))
    have C := Lib.hid (MtV.new (A := fun _ => False) (z := 0) (SqAt.nil w7) 25)
    replace X := Lib.hid ((X.out.below hb7).below SW.out)
    replace Y := Lib.hid ((Y.out.below hb7).below SW.out)
    replace U := Lib.hid ((U.out.below hb7).below SW.out)
    replace A0 := Lib.hid ((A0.out.below hb7).below SW.out)
    replace A1 := Lib.hid ((A1.out.below hb7).below SW.out)
    replace B := Lib.hid ((B.out.trans (hb7.mono B.out.size)).trans (SW.out.mono (B.out.trans (hb7.mono B.out.size)).size))
    clear hb7 SW
    have k0 := X.out.c0
    have k1 := X.out.c1
    go_wp2_with fail
    generalize w7.alloc (.cells #[.int .i64 0, .slice none 0 0] 25) = w8 at *
    generalize w7.heap.size = pc at *
    clear k0 k1
    refine (mgood_at X.out.s GA.out).mono ?_
    rintro e w9 ⟨rfl, hb9⟩
    replace X := Lib.hid (X.out.below hb9)
    replace Y := Lib.hid (Y.out.below hb9)
    replace U := Lib.hid (U.out.below hb9)
    replace C := Lib.hid (C.out.below hb9)
    replace A0 := Lib.hid (A0.out.below hb9)
    replace A1 := Lib.hid (A1.out.below hb9)
    replace B := Lib.hid (B.out.trans (hb9.mono B.out.size))
    clear hb9
    have u0 := U.out.c0
    have u1 := U.out.c1
    go_wp2_with fail
    refine (rows_at z U.out.s (by omega)).mono ?_
    rintro e w10 ⟨d10, e10, rfl, h10⟩
    have R1 := Lib.hid h10.1
    have hb10 := h10.2
    replace X := Lib.hid (X.out.below hb10)
    replace Y := Lib.hid (Y.out.below hb10)
    replace U := Lib.hid (U.out.below hb10)
    replace C := Lib.hid (C.out.below hb10)
    replace A0 := Lib.hid (A0.out.below hb10)
    replace A1 := Lib.hid (A1.out.below hb10)
    replace B := Lib.hid (B.out.trans (hb10.mono B.out.size))
    clear hb10 h10 u0 u1
    go_wp2_with fail
    refine (rupm_at (z := z) (i := i) A0.out HA.out TT.out).mono ?_
    rintro e w11 ⟨d11, e11, rfl, h11⟩
    have R2 := Lib.hid h11.1
    have hb11 := h11.2
    replace X := Lib.hid (X.out.below hb11)
    replace Y := Lib.hid (Y.out.below hb11)
    replace U := Lib.hid (U.out.below hb11)
    replace C := Lib.hid (C.out.below hb11)
    replace A0 := Lib.hid (A0.out.below hb11)
    replace A1 := Lib.hid (A1.out.below hb11)
    replace R1 := Lib.hid (R1.out.below hb11)
    replace B := Lib.hid (B.out.trans (hb11.mono B.out.size))
    clear hb11 h11
    go_wp2_with fail
    refine (squares_at (r := true) R1.out R2.out (decide_eq_true rfl)).mono ?_
    rintro e w12 ⟨rfl, q12, hw⟩
    have hb12 := drew_b hw
    replace X := Lib.hid (X.out.below hb12)
    replace Y := Lib.hid (Y.out.below hb12)
    replace U := Lib.hid (U.out.below hb12)
    replace C := Lib.hid (C.out.below hb12)
    replace A0 := Lib.hid (A0.out.below hb12)
    replace A1 := Lib.hid (A1.out.below hb12)
    replace B := Lib.hid (B.out.trans (hb12.mono B.out.size))
    clear hw hb12 R1 R2
    have v0 := C.out.c0
    have v1 := C.out.c1
    go_wp2_with fail
    go_loop [21, 22, 23] (fun c v k => c = .slice none 0 0 ∧ v = .bool false ∧ k = .int .i64 0) (fun _ _ _ => 0)
    case atStart => exact ⟨rfl, rfl, rfl⟩
    case round =>
      obtain ⟨rfl, rfl, rfl⟩ := hrel
      have WF := Lib.hid (show wiM z ma z mb = false from by unfold wiM bothM; rw [GA.out]; rfl)
      have CF := Lib.hid (show colM z ma j = [] from if_neg (fun h => by have := h.1; rw [GA.out] at this; cases this))
      have k0 := X.out.c0
      have k1 := X.out.c1
      by_cases hz : 0 < z
      · have dz : decide (0 < z) = true := decide_eq_true hz
        clear hz
        go_wp2_with fail
        refine (mcol_at (k := 0) X.out.s CF.out rfl).mono ?_
        rintro e w20 ⟨d20, e20, rfl, hs, hb20⟩
        have R := Lib.hid hs
        replace X := Lib.hid (X.out.below hb20)
        replace Y := Lib.hid (Y.out.below hb20)
        replace B := Lib.hid (B.out.trans (hb20.mono B.out.size))
        clear hs hb20 k0 k1
        go_wp2_with fail
        refine (longs_any (r := true) (n := 0) (m := 0) R.out (SlAt.none _ _ _) rfl rfl (by decide)).mono ?_
        rintro e w21 ⟨rfl, q21, hw⟩
        have hb21 := drew_b hw
        replace X := Lib.hid (X.out.below hb21)
        replace Y := Lib.hid (Y.out.below hb21)
        replace B := Lib.hid (B.out.trans (hb21.mono B.out.size))
        clear hw hb21 R
        have k0 := X.out.c0
        have k1 := X.out.c1
        have k2 := Y.out.c0
        have k3 := Y.out.c1
        go_wp2_with fail
        refine (mwi_at (r := false) X.out.s Y.out.s WF.out).mono ?_
        rintro e w22 ⟨rfl, hb22⟩
        replace B := Lib.hid (B.out.trans (hb22.mono B.out.size))
        clear hb22
        go_wp2_with fail
        go_ret
        exact ⟨rfl, B.out⟩
      · have dz : decide (0 < z) = false := decide_eq_false hz
        clear hz
        go_wp2_with fail
        refine (mcol_at (k := 0) X.out.s CF.out rfl).mono ?_
        rintro e w20 ⟨d20, e20, rfl, hs, hb20⟩
        have R := Lib.hid hs
        replace X := Lib.hid (X.out.below hb20)
        replace Y := Lib.hid (Y.out.below hb20)
        replace B := Lib.hid (B.out.trans (hb20.mono B.out.size))
        clear hs hb20 k0 k1
        go_wp2_with fail
        refine (longs_any (r := true) (n := 0) (m := 0) R.out (SlAt.none _ _ _) rfl rfl (by decide)).mono ?_
        rintro e w21 ⟨rfl, q21, hw⟩
        have hb21 := drew_b hw
        replace X := Lib.hid (X.out.below hb21)
        replace Y := Lib.hid (Y.out.below hb21)
        replace B := Lib.hid (B.out.trans (hb21.mono B.out.size))
        clear hw hb21 R
        have k0 := X.out.c0
        have k1 := X.out.c1
        have k2 := Y.out.c0
        have k3 := Y.out.c1
        go_wp2_with fail
        refine (mwi_at (r := false) X.out.s Y.out.s WF.out).mono ?_
        rintro e w22 ⟨rfl, hb22⟩
        replace B := Lib.hid (B.out.trans (hb22.mono B.out.size))
        clear hb22
        go_wp2_with fail
        go_ret
        exact ⟨rfl, B.out⟩
  · skip
    refine (mjoin_no X.out.s Y.out.s (both_no GA.out GB.out rfl)).mono ?_
    rintro e w7 ⟨rfl, hb7⟩
    have SW := Lib.hid (below_alloc (Below.refl _ w7) (.cells #[.int .i64 0, .slice none 0 0] 25))
    have C := Lib.hid (MtV.new (A := fun _ => False) (z := 0) (SqAt.nil w7) 25)
    replace X := Lib.hid ((X.out.below hb7).below SW.out)
    replace Y := Lib.hid ((Y.out.below hb7).below SW.out)
    replace U := Lib.hid ((U.out.below hb7).below SW.out)
    replace A0 := Lib.hid ((A0.out.below hb7).below SW.out)
    replace A1 := Lib.hid ((A1.out.below hb7).below SW.out)
    replace B := Lib.hid ((B.out.trans (hb7.mono B.out.size)).trans (SW.out.mono (B.out.trans (hb7.mono B.out.size)).size))
    clear hb7 SW
    have k0 := X.out.c0
    have k1 := X.out.c1
    go_wp2_with fail
    generalize w7.alloc (.cells #[.int .i64 0, .slice none 0 0] 25) = w8 at *
    generalize w7.heap.size = pc at *
    clear k0 k1
    refine (mgood_at X.out.s GA.out).mono ?_
    rintro e w9 ⟨rfl, hb9⟩
    replace X := Lib.hid (X.out.below hb9)
    replace Y := Lib.hid (Y.out.below hb9)
    replace U := Lib.hid (U.out.below hb9)
    replace C := Lib.hid (C.out.below hb9)
    replace A0 := Lib.hid (A0.out.below hb9)
    replace A1 := Lib.hid (A1.out.below hb9)
    replace B := Lib.hid (B.out.trans (hb9.mono B.out.size))
    clear hb9
    have u0 := U.out.c0
    have u1 := U.out.c1
    go_wp2_with fail
    refine (rows_at z U.out.s (by omega)).mono ?_
    rintro e w10 ⟨d10, e10, rfl, h10⟩
    have R1 := Lib.hid h10.1
    have hb10 := h10.2
    replace X := Lib.hid (X.out.below hb10)
    replace Y := Lib.hid (Y.out.below hb10)
    replace U := Lib.hid (U.out.below hb10)
    replace C := Lib.hid (C.out.below hb10)
    replace A0 := Lib.hid (A0.out.below hb10)
    replace A1 := Lib.hid (A1.out.below hb10)
    replace B := Lib.hid (B.out.trans (hb10.mono B.out.size))
    clear hb10 h10 u0 u1
    go_wp2_with fail
    refine (rupm_at (z := z) (i := i) A0.out HA.out TT.out).mono ?_
    rintro e w11 ⟨d11, e11, rfl, h11⟩
    have R2 := Lib.hid h11.1
    have hb11 := h11.2
    replace X := Lib.hid (X.out.below hb11)
    replace Y := Lib.hid (Y.out.below hb11)
    replace U := Lib.hid (U.out.below hb11)
    replace C := Lib.hid (C.out.below hb11)
    replace A0 := Lib.hid (A0.out.below hb11)
    replace A1 := Lib.hid (A1.out.below hb11)
    replace R1 := Lib.hid (R1.out.below hb11)
    replace B := Lib.hid (B.out.trans (hb11.mono B.out.size))
    clear hb11 h11
    go_wp2_with fail
    refine (squares_at (r := true) R1.out R2.out (decide_eq_true rfl)).mono ?_
    rintro e w12 ⟨rfl, q12, hw⟩
    have hb12 := drew_b hw
    replace X := Lib.hid (X.out.below hb12)
    replace Y := Lib.hid (Y.out.below hb12)
    replace U := Lib.hid (U.out.below hb12)
    replace C := Lib.hid (C.out.below hb12)
    replace A0 := Lib.hid (A0.out.below hb12)
    replace A1 := Lib.hid (A1.out.below hb12)
    replace B := Lib.hid (B.out.trans (hb12.mono B.out.size))
    clear hw hb12 R1 R2
    have v0 := C.out.c0
    have v1 := C.out.c1
    go_wp2_with fail
    go_loop [21, 22, 23] (fun c v k => c = .slice none 0 0 ∧ v = .bool false ∧ k = .int .i64 0) (fun _ _ _ => 0)
    case atStart => exact ⟨rfl, rfl, rfl⟩
    case round =>
      obtain ⟨rfl, rfl, rfl⟩ := hrel
      have WF := Lib.hid (show wiM z ma z mb = false from by unfold wiM bothM; rw [GA.out]; rfl)
      have CF := Lib.hid (show colM z ma j = [] from if_neg (fun h => by have := h.1; rw [GA.out] at this; cases this))
      have k0 := X.out.c0
      have k1 := X.out.c1
      by_cases hz : 0 < z
      · have dz : decide (0 < z) = true := decide_eq_true hz
        clear hz
        go_wp2_with fail
        refine (mcol_at (k := 0) X.out.s CF.out rfl).mono ?_
        rintro e w20 ⟨d20, e20, rfl, hs, hb20⟩
        have R := Lib.hid hs
        replace X := Lib.hid (X.out.below hb20)
        replace Y := Lib.hid (Y.out.below hb20)
        replace B := Lib.hid (B.out.trans (hb20.mono B.out.size))
        clear hs hb20 k0 k1
        go_wp2_with fail
        refine (longs_any (r := true) (n := 0) (m := 0) R.out (SlAt.none _ _ _) rfl rfl (by decide)).mono ?_
        rintro e w21 ⟨rfl, q21, hw⟩
        have hb21 := drew_b hw
        replace X := Lib.hid (X.out.below hb21)
        replace Y := Lib.hid (Y.out.below hb21)
        replace B := Lib.hid (B.out.trans (hb21.mono B.out.size))
        clear hw hb21 R
        have k0 := X.out.c0
        have k1 := X.out.c1
        have k2 := Y.out.c0
        have k3 := Y.out.c1
        go_wp2_with fail
        refine (mwi_at (r := false) X.out.s Y.out.s WF.out).mono ?_
        rintro e w22 ⟨rfl, hb22⟩
        replace B := Lib.hid (B.out.trans (hb22.mono B.out.size))
        clear hb22
        go_wp2_with fail
        go_ret
        exact ⟨rfl, B.out⟩
      · have dz : decide (0 < z) = false := decide_eq_false hz
        clear hz
        go_wp2_with fail
        refine (mcol_at (k := 0) X.out.s CF.out rfl).mono ?_
        rintro e w20 ⟨d20, e20, rfl, hs, hb20⟩
        have R := Lib.hid hs
        replace X := Lib.hid (X.out.below hb20)
        replace Y := Lib.hid (Y.out.below hb20)
        replace B := Lib.hid (B.out.trans (hb20.mono B.out.size))
        clear hs hb20 k0 k1
        go_wp2_with fail
        refine (longs_any (r := true) (n := 0) (m := 0) R.out (SlAt.none _ _ _) rfl rfl (by decide)).mono ?_
        rintro e w21 ⟨rfl, q21, hw⟩
        have hb21 := drew_b hw
        replace X := Lib.hid (X.out.below hb21)
        replace Y := Lib.hid (Y.out.below hb21)
        replace B := Lib.hid (B.out.trans (hb21.mono B.out.size))
        clear hw hb21 R
        have k0 := X.out.c0
        have k1 := X.out.c1
        have k2 := Y.out.c0
        have k3 := Y.out.c1
        go_wp2_with fail
        refine (mwi_at (r := false) X.out.s Y.out.s WF.out).mono ?_
        rintro e w22 ⟨rfl, hb22⟩
        replace B := Lib.hid (B.out.trans (hb22.mono B.out.size))
        clear hb22
        go_wp2_with fail
        go_ret
        exact ⟨rfl, B.out⟩

end Go.Proofs.Ytfiamomadicbpaa
