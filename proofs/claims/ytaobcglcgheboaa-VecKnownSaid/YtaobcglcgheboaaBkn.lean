/-
  VecKnown.
-/
import Derived.Test.YtaobcglcgheboaaBaw
namespace Go.Proofs.Ytaobcglcgheboaa
open Go.RowKit

set_option maxRecDepth 20000 in
set_option maxHeartbeats 16000000 in
theorem law_VecKnown (W : World) : Calls Try.prog 3 #[] W (VOk W) := by
  go_enter Try.func3, Try.ntmps3
  go_wp2_with fail
  refine (vawake_any W).mono ?_
  rintro e w0 ⟨rfl, hb⟩
  have B := Lib.hid hb
  clear hb
  go_wp2_with fail
  refine (cl_up (z := 2) (b := true) (r := [0, 0, 1]) (k := 3) (n := 0) (nil_sl w0) rfl (by omega) (by decide) (by decide) rfl).mono ?_
  rintro e w1 ⟨aaS0, ccS0, rfl, h, hb, -⟩
  replace B := Lib.hid (B.out.trans (hb.mono B.out.size))
  have S0 := Lib.hid h
  clear h hb
  go_wp2_with fail
  have L1 := Lib.hid (sl_lit w1 [5] #[.int .u64 5] 27 1 rfl rfl (by simp) (by unfold maxLen; omega))
  have K := Lib.hid ((Below.refl _ w1).alloc (Nat.le_refl _) (.cells #[.int .u64 5] 27))
  have Z := Lib.hid (size_one w1 #[.int .u64 5] 27)
  replace B := Lib.hid (B.out.trans (K.out.mono B.out.size))
  replace S0 := Lib.hid (S0.out.below K.out)
  generalize w1.alloc (.cells #[.int .u64 5] 27) = w2 at *
  clear K
  have ZZ := Z
  clear Z
  clear ZZ
  refine (cl_up (z := -1) (b := false) (r := [5]) (k := 1) (n := 1) L1.out rfl (by omega) (by decide) (by decide) rfl).mono ?_
  rintro e w3 ⟨aaS2, ccS2, rfl, h, hb, -⟩
  replace B := Lib.hid (B.out.trans (hb.mono B.out.size))
  replace S0 := Lib.hid (S0.out.below hb)
  replace L1 := Lib.hid (L1.out.below hb)
  have S2 := Lib.hid h
  clear h hb
  clear L1
  go_wp2_with fail
  have L3 := Lib.hid (sl_lit w3 [18446744073709551615] #[.int .u64 18446744073709551615] 27 1 rfl rfl (by simp) (by unfold maxLen; omega))
  have K := Lib.hid ((Below.refl _ w3).alloc (Nat.le_refl _) (.cells #[.int .u64 18446744073709551615] 27))
  have Z := Lib.hid (size_one w3 #[.int .u64 18446744073709551615] 27)
  replace B := Lib.hid (B.out.trans (K.out.mono B.out.size))
  replace S0 := Lib.hid (S0.out.below K.out)
  replace S2 := Lib.hid (S2.out.below K.out)
  generalize w3.alloc (.cells #[.int .u64 18446744073709551615] 27) = w4 at *
  clear K
  have ZZ := Z
  clear Z
  clear ZZ
  refine (cl_up (z := 0) (b := false) (r := [18446744073709551615]) (k := 1) (n := 1) L3.out rfl (by omega) (by decide) (by decide) rfl).mono ?_
  rintro e w5 ⟨aaS4, ccS4, rfl, h, hb, -⟩
  replace B := Lib.hid (B.out.trans (hb.mono B.out.size))
  replace S0 := Lib.hid (S0.out.below hb)
  replace S2 := Lib.hid (S2.out.below hb)
  replace L3 := Lib.hid (L3.out.below hb)
  have S4 := Lib.hid h
  clear h hb
  clear L3 S4
  go_wp2_with fail
  refine (cl_up (z := 64) (b := false) (r := []) (k := 0) (n := 0) (nil_sl w5) rfl (by omega) (by decide) (by decide) rfl).mono ?_
  rintro e w6 ⟨aaS5, ccS5, rfl, h, hb, -⟩
  replace B := Lib.hid (B.out.trans (hb.mono B.out.size))
  replace S0 := Lib.hid (S0.out.below hb)
  replace S2 := Lib.hid (S2.out.below hb)
  have S5 := Lib.hid h
  clear h hb
  clear S5
  go_wp2_with fail
  have L6 := Lib.hid (sl_lit w6 [0, 0, 1] #[.int .u64 0, .int .u64 0, .int .u64 1] 27 3 rfl rfl (by simp) (by unfold maxLen; omega))
  have K := Lib.hid ((Below.refl _ w6).alloc (Nat.le_refl _) (.cells #[.int .u64 0, .int .u64 0, .int .u64 1] 27))
  have Z := Lib.hid (size_one w6 #[.int .u64 0, .int .u64 0, .int .u64 1] 27)
  replace B := Lib.hid (B.out.trans (K.out.mono B.out.size))
  replace S0 := Lib.hid (S0.out.below K.out)
  replace S2 := Lib.hid (S2.out.below K.out)
  generalize w6.alloc (.cells #[.int .u64 0, .int .u64 0, .int .u64 1] 27) = w7 at *
  clear K
  have ZZ := Z
  clear Z
  clear ZZ
  refine (longs_any (r := true) (n := 3) (m := 3) S0.out L6.out rfl rfl (by decide)).mono ?_
  rintro e w8 ⟨rfl, q, hw⟩
  replace B := Lib.hid (drewN_b B.out q)
  replace S0 := Lib.hid (S0.out.drewN q)
  replace S2 := Lib.hid (S2.out.drewN q)
  replace L6 := Lib.hid (L6.out.drewN q)
  rw [← hw] at B S0 S2 L6
  clear hw
  clear L6 S0
  go_wp2_with fail
  have L7 := Lib.hid (sl_lit w8 [5] #[.int .u64 5] 27 1 rfl rfl (by simp) (by unfold maxLen; omega))
  have K := Lib.hid ((Below.refl _ w8).alloc (Nat.le_refl _) (.cells #[.int .u64 5] 27))
  have Z := Lib.hid (size_one w8 #[.int .u64 5] 27)
  replace B := Lib.hid (B.out.trans (K.out.mono B.out.size))
  replace S2 := Lib.hid (S2.out.below K.out)
  generalize w8.alloc (.cells #[.int .u64 5] 27) = w9 at *
  clear K
  have ZZ := Z
  clear Z
  clear ZZ
  refine (longs_any (r := true) (n := 1) (m := 1) S2.out L7.out rfl rfl (by decide)).mono ?_
  rintro e w10 ⟨rfl, q, hw⟩
  replace B := Lib.hid (drewN_b B.out q)
  replace S2 := Lib.hid (S2.out.drewN q)
  replace L7 := Lib.hid (L7.out.drewN q)
  rw [← hw] at B S2 L7
  clear hw
  clear L7 S2
  go_wp2_with fail
  have L8 := Lib.hid (sl_lit w10 [0, 0] #[.int .u64 0, .int .u64 0] 27 2 rfl rfl (by simp) (by unfold maxLen; omega))
  have K := Lib.hid ((Below.refl _ w10).alloc (Nat.le_refl _) (.cells #[.int .u64 0, .int .u64 0] 27))
  have Z := Lib.hid (size_one w10 #[.int .u64 0, .int .u64 0] 27)
  replace B := Lib.hid (B.out.trans (K.out.mono B.out.size))
  generalize w10.alloc (.cells #[.int .u64 0, .int .u64 0] 27) = w11 at *
  clear K
  have ZZ := Z
  clear Z
  clear ZZ
  refine (vcmp_any (z := 0) (n := 0) (m := 2) (nil_sl w11) L8.out rfl rfl (by decide)).mono ?_
  rintro e w' ⟨rfl, rfl⟩
  clear L8
  go_wp2_with fail
  have L9 := Lib.hid (sl_lit w11 [0, 1] #[.int .u64 0, .int .u64 1] 27 2 rfl rfl (by simp) (by unfold maxLen; omega))
  have K := Lib.hid ((Below.refl _ w11).alloc (Nat.le_refl _) (.cells #[.int .u64 0, .int .u64 1] 27))
  have Z := Lib.hid (size_one w11 #[.int .u64 0, .int .u64 1] 27)
  replace B := Lib.hid (B.out.trans (K.out.mono B.out.size))
  generalize w11.alloc (.cells #[.int .u64 0, .int .u64 1] 27) = w12 at *
  clear K
  have ZZ := Z
  clear Z
  clear ZZ
  refine (vcmp_any (z := -1) (n := 0) (m := 2) (nil_sl w12) L9.out rfl rfl (by decide)).mono ?_
  rintro e w' ⟨rfl, rfl⟩
  clear L9
  go_wp2_with fail
  have L10 := Lib.hid (sl_lit w12 [2] #[.int .u64 2] 27 1 rfl rfl (by simp) (by unfold maxLen; omega))
  have K := Lib.hid ((Below.refl _ w12).alloc (Nat.le_refl _) (.cells #[.int .u64 2] 27))
  have Z := Lib.hid (size_one w12 #[.int .u64 2] 27)
  replace B := Lib.hid (B.out.trans (K.out.mono B.out.size))
  generalize w12.alloc (.cells #[.int .u64 2] 27) = w13 at *
  clear K
  have ZZ := Z
  clear Z
  have L11 := Lib.hid (sl_lit w13 [1, 0] #[.int .u64 1, .int .u64 0] 27 2 rfl rfl (by simp) (by unfold maxLen; omega))
  have K := Lib.hid ((Below.refl _ w13).alloc (Nat.le_refl _) (.cells #[.int .u64 1, .int .u64 0] 27))
  have Z := Lib.hid (size_one w13 #[.int .u64 1, .int .u64 0] 27)
  replace B := Lib.hid (B.out.trans (K.out.mono B.out.size))
  replace L10 := Lib.hid (L10.out.below K.out)
  rw [ZZ.out] at L11 Z
  generalize w13.alloc (.cells #[.int .u64 1, .int .u64 0] 27) = w14 at *
  clear K ZZ
  have ZZ := Z
  clear Z
  clear ZZ
  refine (vcmp_any (z := 1) (n := 1) (m := 2) L10.out L11.out rfl rfl (by decide)).mono ?_
  rintro e w' ⟨rfl, rfl⟩
  clear L10 L11
  go_wp2_with fail
  have L12 := Lib.hid (sl_lit w14 [1, 5] #[.int .u64 1, .int .u64 5] 27 2 rfl rfl (by simp) (by unfold maxLen; omega))
  have K := Lib.hid ((Below.refl _ w14).alloc (Nat.le_refl _) (.cells #[.int .u64 1, .int .u64 5] 27))
  have Z := Lib.hid (size_one w14 #[.int .u64 1, .int .u64 5] 27)
  replace B := Lib.hid (B.out.trans (K.out.mono B.out.size))
  generalize w14.alloc (.cells #[.int .u64 1, .int .u64 5] 27) = w15 at *
  clear K
  have ZZ := Z
  clear Z
  have L13 := Lib.hid (sl_lit w15 [2, 3, 0] #[.int .u64 2, .int .u64 3, .int .u64 0] 27 3 rfl rfl (by simp) (by unfold maxLen; omega))
  have K := Lib.hid ((Below.refl _ w15).alloc (Nat.le_refl _) (.cells #[.int .u64 2, .int .u64 3, .int .u64 0] 27))
  have Z := Lib.hid (size_one w15 #[.int .u64 2, .int .u64 3, .int .u64 0] 27)
  replace B := Lib.hid (B.out.trans (K.out.mono B.out.size))
  replace L12 := Lib.hid (L12.out.below K.out)
  rw [ZZ.out] at L13 Z
  generalize w15.alloc (.cells #[.int .u64 2, .int .u64 3, .int .u64 0] 27) = w16 at *
  clear K ZZ
  have ZZ := Z
  clear Z
  clear ZZ
  refine (cl_join (r := [2, 5, 0]) (k := 3) (n := 2) (m := 3) L12.out L13.out rfl rfl (by omega) (by omega) (by decide) rfl).mono ?_
  rintro e w17 ⟨aaS14, ccS14, rfl, h, hb, -⟩
  replace B := Lib.hid (B.out.trans (hb.mono B.out.size))
  replace L12 := Lib.hid (L12.out.below hb)
  replace L13 := Lib.hid (L13.out.below hb)
  have S14 := Lib.hid h
  clear h hb
  clear L12 L13
  go_wp2_with fail
  have L15 := Lib.hid (sl_lit w17 [2, 5, 0] #[.int .u64 2, .int .u64 5, .int .u64 0] 27 3 rfl rfl (by simp) (by unfold maxLen; omega))
  have K := Lib.hid ((Below.refl _ w17).alloc (Nat.le_refl _) (.cells #[.int .u64 2, .int .u64 5, .int .u64 0] 27))
  have Z := Lib.hid (size_one w17 #[.int .u64 2, .int .u64 5, .int .u64 0] 27)
  replace B := Lib.hid (B.out.trans (K.out.mono B.out.size))
  replace S14 := Lib.hid (S14.out.below K.out)
  generalize w17.alloc (.cells #[.int .u64 2, .int .u64 5, .int .u64 0] 27) = w18 at *
  clear K
  have ZZ := Z
  clear Z
  clear ZZ
  refine (longs_any (r := true) (n := 3) (m := 3) S14.out L15.out rfl rfl (by decide)).mono ?_
  rintro e w19 ⟨rfl, q, hw⟩
  replace B := Lib.hid (drewN_b B.out q)
  replace S14 := Lib.hid (S14.out.drewN q)
  replace L15 := Lib.hid (L15.out.drewN q)
  rw [← hw] at B S14 L15
  clear hw
  clear L15 S14
  go_wp2_with fail
  refine (vat_any (z := 3) (v := 0) (n := 0) (nil_sl w19) rfl (by decide)).mono ?_
  rintro e w' ⟨rfl, rfl⟩
  go_wp2_with fail
  have L16 := Lib.hid (sl_lit w19 [1] #[.int .u64 1] 27 1 rfl rfl (by simp) (by unfold maxLen; omega))
  have K := Lib.hid ((Below.refl _ w19).alloc (Nat.le_refl _) (.cells #[.int .u64 1] 27))
  have Z := Lib.hid (size_one w19 #[.int .u64 1] 27)
  replace B := Lib.hid (B.out.trans (K.out.mono B.out.size))
  generalize w19.alloc (.cells #[.int .u64 1] 27) = w20 at *
  clear K
  have ZZ := Z
  clear Z
  clear ZZ
  refine (vat_any (z := -1) (v := 0) (n := 1) L16.out rfl (by decide)).mono ?_
  rintro e w' ⟨rfl, rfl⟩
  clear L16
  go_wp2_with fail
  refine (cl_new w20 (z := -1) (n := 0) rfl rfl).mono ?_
  rintro e w21 ⟨aaS17, ccS17, rfl, h, hb, -⟩
  replace B := Lib.hid (B.out.trans (hb.mono B.out.size))
  clear h hb
  go_wp2_with fail
  refine (cl_new w21 (z := 65) (n := 64) rfl rfl).mono ?_
  rintro e w22 ⟨aaS18, ccS18, rfl, h, hb, -⟩
  replace B := Lib.hid (B.out.trans (hb.mono B.out.size))
  clear h hb
  go_wp2_with fail
  go_ret
  exact ⟨rfl, B.out⟩

end Go.Proofs.Ytaobcglcgheboaa
