/-
  MatSays: both may be, and no such place is there.
-/
import Derived.Test.YtfiamomadicbpaaCsc
namespace Go.Proofs.Ytfiamomadicbpaa
open Go.RowKit

set_option maxRecDepth 20000 in
set_option maxHeartbeats 32000000 in
theorem law_MatSays_z (z : Int) (L : List Rd) (ao0 : Option Addr) (c0 : Nat) (M : List Rd) (ao1 : Option Addr) (c1 : Nat) (i j : Int) (t : Nat) (W : World) (b0 : SqV W ao0 c0 L) (b1 : SqV W ao1 c1 M) (ht : t < 18446744073709551616) (gA : goodM z (mOf L) = true) (gB : goodM z (mOf M) = true) (gC : (decide (0 ≤ i ∧ i < z) && decide (0 ≤ j ∧ j < z)) = false) :
    Calls Try.prog 4 #[.int .i64 z, .slice ao0 L.length c0, .slice ao1 M.length c1, .int .i64 i, .int .i64 j, .int .u64 (t : Int)] W (VOk W) := by
  have A0 := Lib.hid (SqAt.of b0 rfl)
  have A1 := Lib.hid (SqAt.of b1 rfl)
  have TT := Lib.hid ht
  clear b0 b1 ht
  generalize mOf L = ma at *
  generalize mOf M = mb at *
  generalize L.length = n at *
  generalize M.length = m at *
  obtain ⟨ha, hha⟩ : ∃ h, h = heavyM ma := ⟨_, rfl⟩
  obtain ⟨hb, hhb⟩ : ∃ h, h = heavyM mb := ⟨_, rfl⟩
  obtain ⟨ga, hga⟩ : ∃ h, h = goodM z ma := ⟨_, rfl⟩
  obtain ⟨gb, hgb⟩ : ∃ h, h = goodM z mb := ⟨_, rfl⟩
  have HA := Lib.hid hha.symm
  have HB := Lib.hid hhb.symm
  have GA := Lib.hid hga.symm
  have GB := Lib.hid hgb.symm
  clear hha hhb hga hgb
  go_enter Try.func4, Try.ntmps4
  go_wp2_with fail
  refine (mawake_any W).mono ?_
  rintro e w1 ⟨rfl, hbb⟩
  have B := Lib.hid hbb
  replace A0 := Lib.hid (A0.out.below hbb)
  replace A1 := Lib.hid (A1.out.below hbb)
  clear hbb
  go_wp2_with fail
  refine (heavy_at A0.out HA.out).mono ?_
  rintro e w' ⟨rfl, rfl⟩
  cases ha
  case true =>
    go_wp2_with fail
    go_ret
    exact ⟨rfl, B.out⟩
  go_wp2_with fail
  refine (heavy_at A1.out HB.out).mono ?_
  rintro e w' ⟨rfl, rfl⟩
  cases hb
  case true =>
    go_wp2_with fail
    go_ret
    exact ⟨rfl, B.out⟩
  have hn : n ≤ 10000 := by have := (heavyM_no HA.out).1; rw [A0.out.len] at this; omega
  have hm : m ≤ 10000 := by have := (heavyM_no HB.out).1; rw [A1.out.len] at this; omega
  go_wp2_with fail
  refine (mat1_at z A0.out (by omega)).mono ?_
  rintro e w2 ⟨a2, c2, rfl, h2⟩
  have X := Lib.hid h2.1
  replace A0 := Lib.hid (A0.out.below h2.2)
  replace A1 := Lib.hid (A1.out.below h2.2)
  replace B := Lib.hid (B.out.trans (h2.2.mono B.out.size))
  clear h2
  go_wp2_with fail
  refine (mat1_at z A1.out (by omega)).mono ?_
  rintro e w3 ⟨a3, c3, rfl, h3⟩
  have Y := Lib.hid h3.1
  replace X := Lib.hid (X.out.below h3.2)
  replace A0 := Lib.hid (A0.out.below h3.2)
  replace A1 := Lib.hid (A1.out.below h3.2)
  replace B := Lib.hid (B.out.trans (h3.2.mono B.out.size))
  clear h3
  have X1 := (MtV.new (z := z) X.out 25).below (below_alloc (Below.refl _ _) (.cells #[.int .i64 z, .slice a3 m c3] 25))
  have Y1 := MtV.new (z := z) (Y.out.below (below_alloc (Below.refl _ _) (.cells #[.int .i64 z, .slice a2 n c2] 25))) 25
  rw [size_one] at Y1
  have SW := Lib.hid (below_alloc (below_alloc (Below.refl _ w3) (.cells #[.int .i64 z, .slice a2 n c2] 25)) (.cells #[.int .i64 z, .slice a3 m c3] 25))
  go_wp2_with fail
  clear X Y
  have X := Lib.hid X1
  have Y := Lib.hid Y1
  replace A0 := Lib.hid (A0.out.below SW.out)
  replace A1 := Lib.hid (A1.out.below SW.out)
  replace B := Lib.hid (B.out.trans (SW.out.mono B.out.size))
  clear X1 Y1 SW
  generalize (w3.alloc (.cells #[.int .i64 z, .slice a2 n c2] 25)).alloc (.cells #[.int .i64 z, .slice a3 m c3] 25) = w4 at *
  generalize w3.heap.size + 1 = py at *
  generalize w3.heap.size = px at *
  refine (rgood_at (z := z) A0.out GA.out).mono ?_
  rintro e w' ⟨rfl, rfl⟩
  go_wp2_with fail
  refine (rgood_at (z := z) A1.out GB.out).mono ?_
  rintro e w' ⟨rfl, rfl⟩
  have k0 := X.out.c0
  have k1 := X.out.c1
  go_wp2_with fail
  refine (mup_at (i := i) X.out.s (by omega) (heavy_rows HA.out) TT.out).mono ?_
  rintro e w5 ⟨a5, c5, rfl, h5⟩
  have SW := Lib.hid (below_alloc (Below.refl _ w5) (.cells #[.int .i64 z, .slice a5 n c5] 25))
  have U := Lib.hid (MtV.new (z := z) h5.1 25)
  replace X := Lib.hid ((X.out.below h5.2).below SW.out)
  replace Y := Lib.hid ((Y.out.below h5.2).below SW.out)
  replace A0 := Lib.hid ((A0.out.below h5.2).below SW.out)
  replace A1 := Lib.hid ((A1.out.below h5.2).below SW.out)
  replace B := Lib.hid ((B.out.trans (h5.2.mono B.out.size)).trans (SW.out.mono (B.out.trans (h5.2.mono B.out.size)).size))
  clear h5 SW k0 k1
  have k0 := X.out.c0
  have k1 := X.out.c1
  have k2 := Y.out.c0
  have k3 := Y.out.c1
  go_wp2_with fail
  generalize w5.alloc (.cells #[.int .i64 z, .slice a5 n c5] 25) = w6 at *
  generalize w5.heap.size = pu at *
  clear k0 k1 k2 k3
  obtain rfl : ga = true := GA.out.symm.trans gA
  obtain rfl : gb = true := GB.out.symm.trans gB
  clear gA gB
  have LB := Lib.hid (good_lens GA.out GB.out)
  refine (mjoin_yes X.out.s Y.out.s (both_of GA.out GB.out)).mono ?_
  rintro e w7 ⟨a7, c7, rfl, h7⟩
  have SW := Lib.hid (below_alloc (Below.refl _ w7) (.cells #[.int .i64 z, .slice a7 n c7] 25))
  have C := Lib.hid (MtV.new (z := z) h7.1 25)
  have hb7 := h7.2
  replace X := Lib.hid ((X.out.below hb7).below SW.out)
  replace Y := Lib.hid ((Y.out.below hb7).below SW.out)
  replace U := Lib.hid ((U.out.below hb7).below SW.out)
  replace A0 := Lib.hid ((A0.out.below hb7).below SW.out)
  replace A1 := Lib.hid ((A1.out.below hb7).below SW.out)
  replace B := Lib.hid ((B.out.trans (hb7.mono B.out.size)).trans (SW.out.mono (B.out.trans (hb7.mono B.out.size)).size))
  clear hb7 SW h7
  have k0 := X.out.c0
  have k1 := X.out.c1
  go_wp2_with fail
  generalize w7.alloc (.cells #[.int .i64 z, .slice a7 n c7] 25) = w8 at *
  generalize w7.heap.size = pc at *
  clear k0 k1
  refine (mgood_at X.out.s GA.out).mono ?_
  rintro e w9 ⟨rfl, hb9⟩
  replace X := Lib.hid (X.out.below hb9)
  replace Y := Lib.hid (Y.out.below hb9)
  replace U := Lib.hid (U.out.below hb9)
  replace C := Lib.hid (C.out.below hb9)
  replace A0 := Lib.hid (A0.out.below hb9)
  replace A1 := Lib.hid (A1.out.below hb9)
  replace B := Lib.hid (B.out.trans (hb9.mono B.out.size))
  clear hb9
  have u0 := U.out.c0
  have u1 := U.out.c1
  go_wp2_with fail
  refine (rows_at z U.out.s (by omega)).mono ?_
  rintro e w10 ⟨d10, e10, rfl, h10⟩
  have R1 := Lib.hid h10.1
  have hb10 := h10.2
  replace X := Lib.hid (X.out.below hb10)
  replace Y := Lib.hid (Y.out.below hb10)
  replace U := Lib.hid (U.out.below hb10)
  replace C := Lib.hid (C.out.below hb10)
  replace A0 := Lib.hid (A0.out.below hb10)
  replace A1 := Lib.hid (A1.out.below hb10)
  replace B := Lib.hid (B.out.trans (hb10.mono B.out.size))
  clear hb10 h10 u0 u1
  go_wp2_with fail
  refine (rupm_at (z := z) (i := i) A0.out HA.out TT.out).mono ?_
  rintro e w11 ⟨d11, e11, rfl, h11⟩
  have R2 := Lib.hid h11.1
  have hb11 := h11.2
  replace X := Lib.hid (X.out.below hb11)
  replace Y := Lib.hid (Y.out.below hb11)
  replace U := Lib.hid (U.out.below hb11)
  replace C := Lib.hid (C.out.below hb11)
  replace A0 := Lib.hid (A0.out.below hb11)
  replace A1 := Lib.hid (A1.out.below hb11)
  replace R1 := Lib.hid (R1.out.below hb11)
  replace B := Lib.hid (B.out.trans (hb11.mono B.out.size))
  clear hb11 h11
  go_wp2_with fail
  refine (squares_at (r := true) R1.out R2.out (decide_eq_true rfl)).mono ?_
  rintro e w12 ⟨rfl, q12, hw⟩
  have hb12 := drew_b hw
  replace X := Lib.hid (X.out.below hb12)
  replace Y := Lib.hid (Y.out.below hb12)
  replace U := Lib.hid (U.out.below hb12)
  replace C := Lib.hid (C.out.below hb12)
  replace A0 := Lib.hid (A0.out.below hb12)
  replace A1 := Lib.hid (A1.out.below hb12)
  replace B := Lib.hid (B.out.trans (hb12.mono B.out.size))
  clear hw hb12 R1 R2
  have v0 := C.out.c0
  have v1 := C.out.c1
  go_wp2_with fail
  refine (rows_at z C.out.s (by omega)).mono ?_
  rintro e w13 ⟨d13, e13, rfl, h13⟩
  have R1 := Lib.hid h13.1
  have hb13 := h13.2
  replace X := Lib.hid (X.out.below hb13)
  replace Y := Lib.hid (Y.out.below hb13)
  replace U := Lib.hid (U.out.below hb13)
  replace C := Lib.hid (C.out.below hb13)
  replace A0 := Lib.hid (A0.out.below hb13)
  replace A1 := Lib.hid (A1.out.below hb13)
  replace B := Lib.hid (B.out.trans (hb13.mono B.out.size))
  clear hb13 h13 v0 v1
  go_wp2_with fail
  refine (rjoinm_at A0.out A1.out (by have := A0.out.len; have := A1.out.len; have := LB.out; omega) HA.out HB.out).mono ?_
  rintro e w14 ⟨d14, e14, rfl, h14⟩
  have R2 := Lib.hid h14.1
  have hb14 := h14.2
  replace X := Lib.hid (X.out.below hb14)
  replace Y := Lib.hid (Y.out.below hb14)
  replace U := Lib.hid (U.out.below hb14)
  replace C := Lib.hid (C.out.below hb14)
  replace A0 := Lib.hid (A0.out.below hb14)
  replace A1 := Lib.hid (A1.out.below hb14)
  replace R1 := Lib.hid (R1.out.below hb14)
  replace B := Lib.hid (B.out.trans (hb14.mono B.out.size))
  clear hb14 h14
  go_wp2_with fail
  refine (squares_at (r := true) R1.out R2.out (decide_eq_true rfl)).mono ?_
  rintro e w15 ⟨rfl, q15, hw⟩
  have hb15 := drew_b hw
  replace X := Lib.hid (X.out.below hb15)
  replace Y := Lib.hid (Y.out.below hb15)
  replace U := Lib.hid (U.out.below hb15)
  replace C := Lib.hid (C.out.below hb15)
  replace A0 := Lib.hid (A0.out.below hb15)
  replace A1 := Lib.hid (A1.out.below hb15)
  replace B := Lib.hid (B.out.trans (hb15.mono B.out.size))
  clear hw hb15 R1 R2
  obtain ⟨N, rfl, hN1, hN2, hN3, hN4⟩ := goodM_is GA.out
  obtain rfl : N = n := by rw [← A0.out.len, hN3]
  have LA := Lib.hid hN3
  have HN := Lib.hid (show 1 ≤ N ∧ N ≤ 16 from ⟨hN1, hN2⟩)
  have LR := Lib.hid (good_len GA.out).2.2.2
  clear hN1 hN2 hN3 hN4
  generalize hwv : atM ma i j = wv at *
  have HW := Lib.hid hwv
  clear hwv
  obtain ⟨bb, hbb⟩ : ∃ bb, bb = (decide (0 ≤ i ∧ i < N) && decide (0 ≤ j ∧ j < N)) := ⟨_, rfl⟩
  have BBB := Lib.hid hbb
  clear hbb
  have NO := Lib.hid (show bb = false → wv = 0 from fun h => by
    rw [← HW.out]
    have h2 := BBB.out
    rw [h] at h2
    exact atM_out GA.out (by simpa using h2.symm))
  go_upto_region 14 with fail
  go_cut [133] from 115 to 132 (fun v wx => v = .bool bb ∧ wx = w15)
  case first =>
    by_cases hi0 : i ≥ 0
    · have x0 : decide (i ≥ 0) = true := decide_eq_true hi0
      by_cases hi1 : i < N
      · have x1 : decide (i < (N : Int)) = true := decide_eq_true hi1
        by_cases hj0 : j ≥ 0
        · have x2 : decide (j ≥ 0) = true := decide_eq_true hj0
          by_cases hj1 : j < N
          · have x3 : decide (j < (N : Int)) = true := decide_eq_true hj1
            have R := Lib.hid (show true = bb from by rw [BBB.out, decide_eq_true ⟨hi0, hi1⟩, decide_eq_true ⟨hj0, hj1⟩]; rfl)
            clear hi0 hi1 hj0 hj1
            go_wp2_with fail
            go_meet
            exact ⟨by rw [R.out], rfl⟩
          · have x3 : decide (j < (N : Int)) = false := decide_eq_false hj1
            have R := Lib.hid (show false = bb from by rw [BBB.out, decide_eq_false (p := 0 ≤ j ∧ j < N) (fun h => hj1 h.2), Bool.and_false])
            clear hi0 hi1 hj0 hj1
            go_wp2_with fail
            go_meet
            exact ⟨by rw [R.out], rfl⟩
        · have x2 : decide (j ≥ 0) = false := decide_eq_false hj0
          have R := Lib.hid (show false = bb from by rw [BBB.out, decide_eq_false (p := 0 ≤ j ∧ j < N) (fun h => hj0 h.1), Bool.and_false])
          clear hi0 hi1 hj0
          go_wp2_with fail
          go_meet
          exact ⟨by rw [R.out], rfl⟩
      · have x1 : decide (i < (N : Int)) = false := decide_eq_false hi1
        have R := Lib.hid (show false = bb from by rw [BBB.out, decide_eq_false (p := 0 ≤ i ∧ i < N) (fun h => hi1 h.2), Bool.false_and])
        clear hi0 hi1
        go_wp2_with fail
        go_meet
        exact ⟨by rw [R.out], rfl⟩
    · have x0 : decide (i ≥ 0) = false := decide_eq_false hi0
      have R := Lib.hid (show false = bb from by rw [BBB.out, decide_eq_false (p := 0 ≤ i ∧ i < N) (fun h => hi0 h.1), Bool.false_and])
      clear hi0
      go_wp2_with fail
      go_meet
      exact ⟨by rw [R.out], rfl⟩
  case rest =>
    obtain ⟨rfl, rfl⟩ := hcut
    obtain rfl : bb = false := BBB.out.trans gC
    clear gC
    obtain rfl : wv = 0 := NO.out rfl
    have ST := Lib.hid (show StS W px py (N : Int) a2 c2 a3 c3 ao0 c0 ao1 c1 N m ma mb wc from ⟨⟨_, X.out⟩, ⟨_, Y.out⟩, A0.out, A1.out, B.out⟩)
    have WK := Lib.hid (wiK_all GA.out GB.out)
    have W0 := Lib.hid (show wiK true ma mb 0 = true from by unfold wiK; simp)
    clear X Y A0 A1 B U C NO BBB
    go_wp2_with fail
    by_cases hj : 0 ≤ j ∧ j < N
    · obtain ⟨q, rfl⟩ : ∃ q : Nat, j = q := ⟨j.toNat, by omega⟩
      have hq : q < N := by omega
      clear hj
      obtain ⟨i0, hi0, hz0, hz1, hz2⟩ := info_q Try.infoQ
      have x2 : decide ((q : Int) ≥ 0) = true := decide_eq_true (by omega)
      have x3 : decide ((q : Int) < (N : Int)) = true := decide_eq_true (by omega)
      have x4 : decide (q < N) = true := decide_eq_true hq
      have CK := Lib.hid (colK_all GA.out hq)
      have HQ := Lib.hid hq
      have O0 := Lib.hid (fun (w : World) => show w.ownsRow wc.heap.size 30 1 (.slice none 0 0) 0 ((colK ma q 0).map qV) from World.ownsRow_nil _ _ _ _)
      clear hq
      go_loopw [21, 22, 23] (fun c v k wr => ∃ kk : Nat, kk ≤ N ∧ k = .int .i64 (kk : Nat) ∧ v = .bool (wiK true ma mb kk) ∧ wr.ownsRow wc.heap.size 30 1 c kk ((colK ma q kk).map qV) ∧ Below wc.heap.size wc wr) (fun _ _ k _ => N - (intOf k).toNat)
      case atStart => exact ⟨0, Nat.zero_le _, rfl, by rw [W0.out], O0.out _, Below.refl _ _⟩
      case round =>
        obtain ⟨k, hk, rfl, rfl, hO, hBW⟩ := hrel
        have HBW := Lib.hid hBW
        clear W0 hBW
        by_cases hlt : k < N
        · obtain ⟨b6, f6, ra6, rc6, eA, hA6, sA6⟩ := ST.out.p.row hlt
          cases eA
          obtain ⟨b7, f7, ra7, rc7, eB, hB7, sB7⟩ := ST.out.q.row (i := k) (by have := LB.out; have := LA.out; have := ST.out.q.len; omega)
          have SB7 := Lib.hid sB7
          have hlb : (mb.getD k []).length = N := (good_len GB.out).2.2.2 k hlt
          rw [hlb] at hB7
          have hm7 : (k : Int) < (m : Int) := by have := LB.out; have := LA.out; have := ST.out.q.len; omega
          clear sB7
          cases eB
          have SA6 := Lib.hid sA6
          have hla : (ma.getD k []).length = N := LR.out k hlt
          rw [hla] at hA6
          have j0 : (0 : Int) ≤ (k : Int) := by omega
          have j1 : (k : Int) < (N : Int) := by omega
          have KK := Lib.hid hlt
          have HLA := Lib.hid hla
          have HLB := Lib.hid hlb
          clear hlb
          obtain ⟨b9, f9, e9, -, hA9⟩ := sA6.at (show q < (ma.getD k []).length by rw [hla]; exact HQ.out)
          have MORE := Lib.hid (colK_more (m := ma) (j := q) (k := k) (by rw [LA.out]; exact hlt))
          subst e9
          have hA9' : wr.cell? ⟨b9, f9 + q, none⟩ = some (.int .u64 ((atN (ma.getD k []) q : Nat) : Int)) := cell_go hA9 HBW.out
          have hA6' := cell_go hA6 HBW.out
          have hv9 : atN (ma.getD k []) q < QM := atN_lt (by decide) SA6.out.lt q
          have k0 : (0 : Int) ≤ (q : Int) := by omega
          have k1 : (q : Int) < (N : Int) := by have := HQ.out; omega
          clear hA9
          generalize atN (ma.getD k []) q = v9 at *
          obtain ⟨sa, sc, rfl⟩ := own_form hO
          have LIT := Lib.hid (lit_one wr (v := v9) hv9)
          have OA := Lib.hid (own_below hO ((Below.refl _ wr).alloc (Nat.le_refl _) (.cells #[.int .u64 (v9 : Int)] 30)))
          have BA := Lib.hid (HBW.out.alloc HBW.out.size (.cells #[.int .u64 (v9 : Int)] 30))
          have hk8 : k ≤ 16 := by have := HN.out; omega
          clear hO sA6 hla
          have WM := Lib.hid (wiK_more true ma mb k)
          have WC := Lib.hid (wi_cmp (a := ma.getD k []) (b := mb.getD k []))
          obtain ⟨wb, hwb⟩ : ∃ wb, wb = wiK true ma mb k := ⟨_, rfl⟩
          have WV := Lib.hid hwb.symm
          rw [← hwb]
          clear hwb
          cases wb
          · skip
            as_aux_lemma =>
              go_wp2_with (
                at_builtin
                refine wpList_append_at rfl (.tmp 160) (.tmp 168) 37 rfl wc.heap.size 30 i0 (.int .u64 0) 1 8 Try.underlying37 hi0 hz0 hz1 hz2 rfl (by decide) (.slice sa k sc) k ((colK ma q k).map qV) rfl ?h1 _ _ _ [qV v9] rfl ?h2 ?h3 ?h4 (ones_q [v9]) ?h6 ?h7 ?h8 ?_
                case h1 => exact OA.out
                case h2 => rfl
                case h3 => intro e; cases e
                case h4 => exact LIT.out.news
                case h6 => unfold maxLen; omega
                case h7 => omega
                case h8 => exact BA.out.size
                intro v2 w2 hown2 hgr2 hat2
                have B2 := Lib.hid (BA.out.grown hgr2 BA.out.size (fun j h => (OA.out.lt j h).1))
                have hA7 := cell_go hA6 B2.out
                have hB8 := cell_go hB7 B2.out
                rw [MORE.out] at hown2
                have O2 := Lib.hid hown2
                clear hown2 hgr2 hat2)
              have SA7 := Lib.hid (SA6.out.below B2.out)
              have SB8 := Lib.hid (SB7.out.below B2.out)
              refine wp_region_noPanic ?_
              refine wp_region_held_drew (S := (fun w' => w'.cell? ⟨b6, f6 + k, none⟩ = some (.slice (some ⟨b9, f9, none⟩) N rc6) ∧ w'.cell? ⟨b7, f7 + k, none⟩ = some (.slice ra7 N rc7) ∧ Hid (Below w2.heap.size w2 w'))) (by kernel_rfl) ?_ (fun hHeld => ?_)
              · exact ⟨hA7, hB8, Lib.hid (drew_below w2)⟩
              refine wpAnyH_take (i := 0) (oi := { dst := some 170, op := Op.move (Operand.tmp 22), type := 4, pos := "law.go:119", after := #[], guard := none }) (v := ?_) rfl (by kernel_rfl) (by kernel_rfl) (by kernel_rfl) (fun _ _ _ h => h) (Or.inl ⟨by rfl, ?_⟩) (by assumption) ?_
              rotate_left
              · (intro w hSw; (try dsimp only at hSw); go_simp; try with_reducible rfl)
              ((try simp only [Act.put]); (try simp only [List.setIfInBounds_toArray]); (try simp only [List.set_cons_succ]); (try simp only [List.set_cons_zero]))
              refine wpAnyH_take (i := 1) (oi := { dst := some 171, op := Op.move (Operand.tmp 170), type := 4, pos := "law.go:119", after := #[{ on := 0, ground := Ground.data }], guard := none }) (v := ?_) rfl (by kernel_rfl) (by kernel_rfl) (by kernel_rfl) (fun _ _ _ h => h) (Or.inl ⟨by rfl, ?_⟩) (by assumption) ?_
              rotate_left
              · (intro w hSw; (try dsimp only at hSw); go_simp; try with_reducible rfl)
              ((try simp only [Act.put]); (try simp only [List.setIfInBounds_toArray]); (try simp only [List.set_cons_succ]); (try simp only [List.set_cons_zero]))
              refine wpAnyH_take (i := 2) (oi := { dst := some 172, op := Op.move (Operand.tmp 16), type := 4, pos := "law.go:119", after := #[{ on := 1, ground := Ground.guard }], guard := some (1, true) }) (v := undef) rfl (by kernel_rfl) (by kernel_rfl) (by kernel_rfl) (fun _ _ _ h => h) (Or.inr ⟨by rfl, rfl⟩) (by assumption) ?_
              ((try simp only [Act.put]); (try simp only [List.setIfInBounds_toArray]); (try simp only [List.set_cons_succ]); (try simp only [List.set_cons_zero]))
              refine wpAnyH_take (i := 3) (oi := { dst := some 173, op := Op.pick (Operand.tmp 171) (Operand.tmp 172) (Operand.const (Value.bool false)), type := 4, pos := "law.go:119", after := #[{ on := 1, ground := Ground.data }, { on := 2, ground := Ground.data }], guard := none }) (v := ?_) rfl (by kernel_rfl) (by kernel_rfl) (by kernel_rfl) (fun _ _ _ h => h) (Or.inl ⟨by rfl, ?_⟩) (by assumption) ?_
              rotate_left
              · (intro w hSw; (try dsimp only at hSw); go_simp; try with_reducible rfl)
              ((try simp only [Act.put]); (try simp only [List.setIfInBounds_toArray]); (try simp only [List.set_cons_succ]); (try simp only [List.set_cons_zero]))
              refine wpAnyH_take (i := 4) (oi := { dst := some 174, op := Op.move (Operand.tmp 173), type := 4, pos := "law.go:119", after := #[{ on := 3, ground := Ground.data }, { on := 1, ground := Ground.chain }], guard := none }) (v := ?_) rfl (by kernel_rfl) (by kernel_rfl) (by kernel_rfl) (fun _ _ _ h => h) (Or.inl ⟨by rfl, ?_⟩) (by assumption) ?_
              rotate_left
              · (intro w hSw; (try dsimp only at hSw); go_simp; try with_reducible rfl)
              ((try simp only [Act.put]); (try simp only [List.setIfInBounds_toArray]); (try simp only [List.set_cons_succ]); (try simp only [List.set_cons_zero]))
              refine wpAnyH_take (i := 5) (oi := { dst := some 175, op := Op.move (Operand.tmp 1), type := 35, pos := "law.go:119", after := #[{ on := 4, ground := Ground.guard }], guard := some (4, true) }) (v := undef) rfl (by kernel_rfl) (by kernel_rfl) (by kernel_rfl) (fun _ _ _ h => h) (Or.inr ⟨by rfl, rfl⟩) (by assumption) ?_
              ((try simp only [Act.put]); (try simp only [List.setIfInBounds_toArray]); (try simp only [List.set_cons_succ]); (try simp only [List.set_cons_zero]))
              refine wpAnyH_take (i := 6) (oi := { dst := some 176, op := Op.move (Operand.tmp 23), type := 3, pos := "law.go:119", after := #[{ on := 4, ground := Ground.guard }], guard := some (4, true) }) (v := undef) rfl (by kernel_rfl) (by kernel_rfl) (by kernel_rfl) (fun _ _ _ h => h) (Or.inr ⟨by rfl, rfl⟩) (by assumption) ?_
              ((try simp only [Act.put]); (try simp only [List.setIfInBounds_toArray]); (try simp only [List.set_cons_succ]); (try simp only [List.set_cons_zero]))
              refine wpAnyH_take (i := 7) (oi := { dst := some 177, op := Op.indexAddr 35 (Operand.tmp 175) (Operand.tmp 176), type := 0, pos := "law.go:119", after := #[{ on := 5, ground := Ground.data }, { on := 6, ground := Ground.data }, { on := 4, ground := Ground.guard }], guard := some (4, true) }) (v := undef) rfl (by kernel_rfl) (by kernel_rfl) (by kernel_rfl) (fun _ _ _ h => h) (Or.inr ⟨by rfl, rfl⟩) (by assumption) ?_
              ((try simp only [Act.put]); (try simp only [List.setIfInBounds_toArray]); (try simp only [List.set_cons_succ]); (try simp only [List.set_cons_zero]))
              refine wpAnyH_take (i := 8) (oi := { dst := some 178, op := Op.load 37 (Operand.tmp 177), type := 37, pos := "law.go:119", after := #[{ on := 7, ground := Ground.data }, { on := 4, ground := Ground.guard }], guard := some (4, true) }) (v := undef) rfl (by kernel_rfl) (by kernel_rfl) (by kernel_rfl) (fun _ _ _ h => h) (Or.inr ⟨by rfl, rfl⟩) (by assumption) ?_
              ((try simp only [Act.put]); (try simp only [List.setIfInBounds_toArray]); (try simp only [List.set_cons_succ]); (try simp only [List.set_cons_zero]))
              refine wpAnyH_take (i := 9) (oi := { dst := some 179, op := Op.move (Operand.tmp 2), type := 35, pos := "law.go:119", after := #[{ on := 4, ground := Ground.guard }], guard := some (4, true) }) (v := undef) rfl (by kernel_rfl) (by kernel_rfl) (by kernel_rfl) (fun _ _ _ h => h) (Or.inr ⟨by rfl, rfl⟩) (by assumption) ?_
              ((try simp only [Act.put]); (try simp only [List.setIfInBounds_toArray]); (try simp only [List.set_cons_succ]); (try simp only [List.set_cons_zero]))
              refine wpAnyH_take (i := 10) (oi := { dst := some 180, op := Op.move (Operand.tmp 23), type := 3, pos := "law.go:119", after := #[{ on := 4, ground := Ground.guard }], guard := some (4, true) }) (v := undef) rfl (by kernel_rfl) (by kernel_rfl) (by kernel_rfl) (fun _ _ _ h => h) (Or.inr ⟨by rfl, rfl⟩) (by assumption) ?_
              ((try simp only [Act.put]); (try simp only [List.setIfInBounds_toArray]); (try simp only [List.set_cons_succ]); (try simp only [List.set_cons_zero]))
              refine wpAnyH_take (i := 11) (oi := { dst := some 181, op := Op.indexAddr 35 (Operand.tmp 179) (Operand.tmp 180), type := 0, pos := "law.go:119", after := #[{ on := 9, ground := Ground.data }, { on := 10, ground := Ground.data }, { on := 4, ground := Ground.guard }], guard := some (4, true) }) (v := undef) rfl (by kernel_rfl) (by kernel_rfl) (by kernel_rfl) (fun _ _ _ h => h) (Or.inr ⟨by rfl, rfl⟩) (by assumption) ?_
              ((try simp only [Act.put]); (try simp only [List.setIfInBounds_toArray]); (try simp only [List.set_cons_succ]); (try simp only [List.set_cons_zero]))
              refine wpAnyH_take (i := 12) (oi := { dst := some 182, op := Op.load 37 (Operand.tmp 181), type := 37, pos := "law.go:119", after := #[{ on := 11, ground := Ground.data }, { on := 4, ground := Ground.guard }], guard := some (4, true) }) (v := undef) rfl (by kernel_rfl) (by kernel_rfl) (by kernel_rfl) (fun _ _ _ h => h) (Or.inr ⟨by rfl, rfl⟩) (by assumption) ?_
              ((try simp only [Act.put]); (try simp only [List.setIfInBounds_toArray]); (try simp only [List.set_cons_succ]); (try simp only [List.set_cons_zero]))
              refine wpAnyH_take (i := 13) (oi := { dst := some 183, op := Op.call { callee := Callee.value (Operand.func 24), args := #[Operand.tmp 178, Operand.tmp 182], argTypes := #[37, 37] }, type := 3, pos := "law.go:119", after := #[{ on := 8, ground := Ground.data }, { on := 12, ground := Ground.data }, { on := 4, ground := Ground.chain }, { on := 4, ground := Ground.guard }], guard := some (4, true) }) (v := undef) rfl (by kernel_rfl) (by kernel_rfl) (by kernel_rfl) (fun _ _ _ h => h) (Or.inr ⟨by rfl, rfl⟩) (by assumption) ?_
              ((try simp only [Act.put]); (try simp only [List.setIfInBounds_toArray]); (try simp only [List.set_cons_succ]); (try simp only [List.set_cons_zero]))
              refine wpAnyH_take (i := 14) (oi := { dst := some 184, op := Op.binOp BinOp.eql 3 (Operand.tmp 183) (Operand.const (Value.int IntKind.i64 0)) 3, type := 4, pos := "law.go:119", after := #[{ on := 13, ground := Ground.data }, { on := 4, ground := Ground.guard }], guard := some (4, true) }) (v := undef) rfl (by kernel_rfl) (by kernel_rfl) (by kernel_rfl) (fun _ _ _ h => h) (Or.inr ⟨by rfl, rfl⟩) (by assumption) ?_
              ((try simp only [Act.put]); (try simp only [List.setIfInBounds_toArray]); (try simp only [List.set_cons_succ]); (try simp only [List.set_cons_zero]))
              refine wpAnyH_take (i := 15) (oi := { dst := some 185, op := Op.move (Operand.tmp 184), type := 4, pos := "law.go:119", after := #[{ on := 14, ground := Ground.data }, { on := 13, ground := Ground.chain }, { on := 4, ground := Ground.guard }], guard := some (4, true) }) (v := undef) rfl (by kernel_rfl) (by kernel_rfl) (by kernel_rfl) (fun _ _ _ h => h) (Or.inr ⟨by rfl, rfl⟩) (by assumption) ?_
              ((try simp only [Act.put]); (try simp only [List.setIfInBounds_toArray]); (try simp only [List.set_cons_succ]); (try simp only [List.set_cons_zero]))
              refine wpAnyH_take (i := 16) (oi := { dst := some 186, op := Op.move (Operand.tmp 1), type := 35, pos := "law.go:119", after := #[{ on := 15, ground := Ground.guard }], guard := some (15, false) }) (v := undef) rfl (by kernel_rfl) (by kernel_rfl) (by kernel_rfl) (fun _ _ _ h => h) (Or.inr ⟨by rfl, rfl⟩) (by assumption) ?_
              ((try simp only [Act.put]); (try simp only [List.setIfInBounds_toArray]); (try simp only [List.set_cons_succ]); (try simp only [List.set_cons_zero]))
              refine wpAnyH_take (i := 17) (oi := { dst := some 187, op := Op.move (Operand.tmp 23), type := 3, pos := "law.go:119", after := #[{ on := 15, ground := Ground.guard }], guard := some (15, false) }) (v := undef) rfl (by kernel_rfl) (by kernel_rfl) (by kernel_rfl) (fun _ _ _ h => h) (Or.inr ⟨by rfl, rfl⟩) (by assumption) ?_
              ((try simp only [Act.put]); (try simp only [List.setIfInBounds_toArray]); (try simp only [List.set_cons_succ]); (try simp only [List.set_cons_zero]))
              refine wpAnyH_take (i := 18) (oi := { dst := some 188, op := Op.indexAddr 35 (Operand.tmp 186) (Operand.tmp 187), type := 0, pos := "law.go:119", after := #[{ on := 16, ground := Ground.data }, { on := 17, ground := Ground.data }, { on := 15, ground := Ground.guard }], guard := some (15, false) }) (v := undef) rfl (by kernel_rfl) (by kernel_rfl) (by kernel_rfl) (fun _ _ _ h => h) (Or.inr ⟨by rfl, rfl⟩) (by assumption) ?_
              ((try simp only [Act.put]); (try simp only [List.setIfInBounds_toArray]); (try simp only [List.set_cons_succ]); (try simp only [List.set_cons_zero]))
              refine wpAnyH_take (i := 19) (oi := { dst := some 189, op := Op.load 37 (Operand.tmp 188), type := 37, pos := "law.go:119", after := #[{ on := 18, ground := Ground.data }, { on := 15, ground := Ground.guard }], guard := some (15, false) }) (v := undef) rfl (by kernel_rfl) (by kernel_rfl) (by kernel_rfl) (fun _ _ _ h => h) (Or.inr ⟨by rfl, rfl⟩) (by assumption) ?_
              ((try simp only [Act.put]); (try simp only [List.setIfInBounds_toArray]); (try simp only [List.set_cons_succ]); (try simp only [List.set_cons_zero]))
              refine wpAnyH_take (i := 20) (oi := { dst := some 190, op := Op.move (Operand.tmp 2), type := 35, pos := "law.go:119", after := #[{ on := 15, ground := Ground.guard }], guard := some (15, false) }) (v := undef) rfl (by kernel_rfl) (by kernel_rfl) (by kernel_rfl) (fun _ _ _ h => h) (Or.inr ⟨by rfl, rfl⟩) (by assumption) ?_
              ((try simp only [Act.put]); (try simp only [List.setIfInBounds_toArray]); (try simp only [List.set_cons_succ]); (try simp only [List.set_cons_zero]))
              refine wpAnyH_take (i := 21) (oi := { dst := some 191, op := Op.move (Operand.tmp 23), type := 3, pos := "law.go:119", after := #[{ on := 15, ground := Ground.guard }], guard := some (15, false) }) (v := undef) rfl (by kernel_rfl) (by kernel_rfl) (by kernel_rfl) (fun _ _ _ h => h) (Or.inr ⟨by rfl, rfl⟩) (by assumption) ?_
              ((try simp only [Act.put]); (try simp only [List.setIfInBounds_toArray]); (try simp only [List.set_cons_succ]); (try simp only [List.set_cons_zero]))
              refine wpAnyH_take (i := 22) (oi := { dst := some 192, op := Op.indexAddr 35 (Operand.tmp 190) (Operand.tmp 191), type := 0, pos := "law.go:119", after := #[{ on := 20, ground := Ground.data }, { on := 21, ground := Ground.data }, { on := 15, ground := Ground.guard }], guard := some (15, false) }) (v := undef) rfl (by kernel_rfl) (by kernel_rfl) (by kernel_rfl) (fun _ _ _ h => h) (Or.inr ⟨by rfl, rfl⟩) (by assumption) ?_
              ((try simp only [Act.put]); (try simp only [List.setIfInBounds_toArray]); (try simp only [List.set_cons_succ]); (try simp only [List.set_cons_zero]))
              refine wpAnyH_take (i := 23) (oi := { dst := some 193, op := Op.load 37 (Operand.tmp 192), type := 37, pos := "law.go:119", after := #[{ on := 22, ground := Ground.data }, { on := 15, ground := Ground.guard }], guard := some (15, false) }) (v := undef) rfl (by kernel_rfl) (by kernel_rfl) (by kernel_rfl) (fun _ _ _ h => h) (Or.inr ⟨by rfl, rfl⟩) (by assumption) ?_
              ((try simp only [Act.put]); (try simp only [List.setIfInBounds_toArray]); (try simp only [List.set_cons_succ]); (try simp only [List.set_cons_zero]))
              refine wpAnyH_take (i := 24) (oi := { dst := some 194, op := Op.call { callee := Callee.value (Operand.func 24), args := #[Operand.tmp 189, Operand.tmp 193], argTypes := #[37, 37] }, type := 3, pos := "law.go:119", after := #[{ on := 19, ground := Ground.data }, { on := 23, ground := Ground.data }, { on := 15, ground := Ground.chain }, { on := 15, ground := Ground.guard }], guard := some (15, false) }) (v := undef) rfl (by kernel_rfl) (by kernel_rfl) (by kernel_rfl) (fun _ _ _ h => h) (Or.inr ⟨by rfl, rfl⟩) (by assumption) ?_
              ((try simp only [Act.put]); (try simp only [List.setIfInBounds_toArray]); (try simp only [List.set_cons_succ]); (try simp only [List.set_cons_zero]))
              refine wpAnyH_take (i := 25) (oi := { dst := some 195, op := Op.binOp BinOp.eql 3 (Operand.tmp 194) (Operand.const (Value.int IntKind.i64 (-1))) 3, type := 4, pos := "law.go:119", after := #[{ on := 24, ground := Ground.data }, { on := 15, ground := Ground.guard }], guard := some (15, false) }) (v := undef) rfl (by kernel_rfl) (by kernel_rfl) (by kernel_rfl) (fun _ _ _ h => h) (Or.inr ⟨by rfl, rfl⟩) (by assumption) ?_
              ((try simp only [Act.put]); (try simp only [List.setIfInBounds_toArray]); (try simp only [List.set_cons_succ]); (try simp only [List.set_cons_zero]))
              refine wpAnyH_take (i := 26) (oi := { dst := some 196, op := Op.pick (Operand.tmp 185) (Operand.const (Value.bool true)) (Operand.tmp 195), type := 4, pos := "law.go:119", after := #[{ on := 15, ground := Ground.data }, { on := 25, ground := Ground.data }, { on := 4, ground := Ground.guard }], guard := some (4, true) }) (v := undef) rfl (by kernel_rfl) (by kernel_rfl) (by kernel_rfl) (fun _ _ _ h => h) (Or.inr ⟨by rfl, rfl⟩) (by assumption) ?_
              ((try simp only [Act.put]); (try simp only [List.setIfInBounds_toArray]); (try simp only [List.set_cons_succ]); (try simp only [List.set_cons_zero]))
              refine wpAnyH_take (i := 27) (oi := { dst := some 197, op := Op.pick (Operand.tmp 174) (Operand.tmp 196) (Operand.const (Value.bool false)), type := 4, pos := "law.go:119", after := #[{ on := 4, ground := Ground.data }, { on := 26, ground := Ground.data }], guard := none }) (v := ?_) rfl (by kernel_rfl) (by kernel_rfl) (by kernel_rfl) (fun _ _ _ h => h) (Or.inl ⟨by rfl, ?_⟩) (by assumption) ?_
              rotate_left
              · (intro w hSw; (try dsimp only at hSw); go_simp; try with_reducible rfl)
              ((try simp only [Act.put]); (try simp only [List.setIfInBounds_toArray]); (try simp only [List.set_cons_succ]); (try simp only [List.set_cons_zero]))
              refine wpAnyH_take (i := 28) (oi := { dst := some 22, op := Op.assign (Operand.tmp 197), type := 4, pos := "law.go:119", after := #[{ on := 27, ground := Ground.data }, { on := 24, ground := Ground.chain }, { on := 0, ground := Ground.phase }, { on := 1, ground := Ground.phase }, { on := 2, ground := Ground.phase }, { on := 3, ground := Ground.phase }, { on := 4, ground := Ground.phase }, { on := 5, ground := Ground.phase }, { on := 6, ground := Ground.phase }, { on := 7, ground := Ground.phase }, { on := 8, ground := Ground.phase }, { on := 9, ground := Ground.phase }, { on := 10, ground := Ground.phase }, { on := 11, ground := Ground.phase }, { on := 12, ground := Ground.phase }, { on := 13, ground := Ground.phase }, { on := 14, ground := Ground.phase }, { on := 15, ground := Ground.phase }, { on := 16, ground := Ground.phase }, { on := 17, ground := Ground.phase }, { on := 18, ground := Ground.phase }, { on := 19, ground := Ground.phase }, { on := 20, ground := Ground.phase }, { on := 21, ground := Ground.phase }, { on := 22, ground := Ground.phase }, { on := 23, ground := Ground.phase }, { on := 24, ground := Ground.phase }, { on := 25, ground := Ground.phase }, { on := 26, ground := Ground.phase }, { on := 27, ground := Ground.phase }], guard := none }) (v := ?_) rfl (by kernel_rfl) (by kernel_rfl) (by kernel_rfl) (fun _ _ _ h => h) (Or.inl ⟨by rfl, ?_⟩) (by assumption) ?_
              rotate_left
              · (intro w hSw; (try dsimp only at hSw); go_simp; try with_reducible rfl)
              ((try simp only [Act.put]); (try simp only [List.setIfInBounds_toArray]); (try simp only [List.set_cons_succ]); (try simp only [List.set_cons_zero]))
              refine wpAnyH_done (by kernel_rfl) ?_ _
              refine NoPanic.normal ?_
              have IF := Lib.hid (B2.out.trans ((Hid.out hHeld.2.2).mono B2.out.size))
              have OF := Lib.hid (own_below O2.out (Hid.out hHeld.2.2))
              have WE := Lib.hid (show wiK true ma mb (k + 1) = false from by rw [WM.out, WV.out]; rfl)
              go_wp2_with fail
              go_roundw
              case rel => exact ⟨k + 1, by have := KK.out; omega, by go_num, by rw [WE.out], OF.out, IF.out⟩
              case measure => simp only [intOf]; omega
          · rcases WC.out with ⟨hc, hw⟩ | ⟨hc, hw⟩ | ⟨hc, hc2, hw⟩
            · have CE := Lib.hid hc
              have WB := Lib.hid hw
              clear hc hw
              as_aux_lemma =>
                go_wp2_with (
                  at_builtin
                  refine wpList_append_at rfl (.tmp 160) (.tmp 168) 37 rfl wc.heap.size 30 i0 (.int .u64 0) 1 8 Try.underlying37 hi0 hz0 hz1 hz2 rfl (by decide) (.slice sa k sc) k ((colK ma q k).map qV) rfl ?h1 _ _ _ [qV v9] rfl ?h2 ?h3 ?h4 (ones_q [v9]) ?h6 ?h7 ?h8 ?_
                  case h1 => exact OA.out
                  case h2 => rfl
                  case h3 => intro e; cases e
                  case h4 => exact LIT.out.news
                  case h6 => unfold maxLen; omega
                  case h7 => omega
                  case h8 => exact BA.out.size
                  intro v2 w2 hown2 hgr2 hat2
                  have B2 := Lib.hid (BA.out.grown hgr2 BA.out.size (fun j h => (OA.out.lt j h).1))
                  have hA7 := cell_go hA6 B2.out
                  have hB8 := cell_go hB7 B2.out
                  rw [MORE.out] at hown2
                  have O2 := Lib.hid hown2
                  clear hown2 hgr2 hat2)
                have SA7 := Lib.hid (SA6.out.below B2.out)
                have SB8 := Lib.hid (SB7.out.below B2.out)
                refine wp_region_noPanic ?_
                refine wp_region_held_drew (S := (fun w' => w'.cell? ⟨b6, f6 + k, none⟩ = some (.slice (some ⟨b9, f9, none⟩) N rc6) ∧ w'.cell? ⟨b7, f7 + k, none⟩ = some (.slice ra7 N rc7) ∧ Hid (Below w2.heap.size w2 w'))) (by kernel_rfl) ?_ (fun hHeld => ?_)
                · exact ⟨hA7, hB8, Lib.hid (drew_below w2)⟩
                refine wpAnyH_take (i := 0) (oi := { dst := some 170, op := Op.move (Operand.tmp 22), type := 4, pos := "law.go:119", after := #[], guard := none }) (v := ?_) rfl (by kernel_rfl) (by kernel_rfl) (by kernel_rfl) (fun _ _ _ h => h) (Or.inl ⟨by rfl, ?_⟩) (by assumption) ?_
                rotate_left
                · (intro w hSw; (try dsimp only at hSw); go_simp; try with_reducible rfl)
                ((try simp only [Act.put]); (try simp only [List.setIfInBounds_toArray]); (try simp only [List.set_cons_succ]); (try simp only [List.set_cons_zero]))
                refine wpAnyH_take (i := 1) (oi := { dst := some 171, op := Op.move (Operand.tmp 170), type := 4, pos := "law.go:119", after := #[{ on := 0, ground := Ground.data }], guard := none }) (v := ?_) rfl (by kernel_rfl) (by kernel_rfl) (by kernel_rfl) (fun _ _ _ h => h) (Or.inl ⟨by rfl, ?_⟩) (by assumption) ?_
                rotate_left
                · (intro w hSw; (try dsimp only at hSw); go_simp; try with_reducible rfl)
                ((try simp only [Act.put]); (try simp only [List.setIfInBounds_toArray]); (try simp only [List.set_cons_succ]); (try simp only [List.set_cons_zero]))
                refine wpAnyH_take (i := 2) (oi := { dst := some 172, op := Op.move (Operand.tmp 16), type := 4, pos := "law.go:119", after := #[{ on := 1, ground := Ground.guard }], guard := some (1, true) }) (v := ?_) rfl (by kernel_rfl) (by kernel_rfl) (by kernel_rfl) (fun _ _ _ h => h) (Or.inl ⟨by rfl, ?_⟩) (by assumption) ?_
                rotate_left
                · (intro w hSw; (try dsimp only at hSw); go_simp; try with_reducible rfl)
                ((try simp only [Act.put]); (try simp only [List.setIfInBounds_toArray]); (try simp only [List.set_cons_succ]); (try simp only [List.set_cons_zero]))
                refine wpAnyH_take (i := 3) (oi := { dst := some 173, op := Op.pick (Operand.tmp 171) (Operand.tmp 172) (Operand.const (Value.bool false)), type := 4, pos := "law.go:119", after := #[{ on := 1, ground := Ground.data }, { on := 2, ground := Ground.data }], guard := none }) (v := ?_) rfl (by kernel_rfl) (by kernel_rfl) (by kernel_rfl) (fun _ _ _ h => h) (Or.inl ⟨by rfl, ?_⟩) (by assumption) ?_
                rotate_left
                · (intro w hSw; (try dsimp only at hSw); go_simp; try with_reducible rfl)
                ((try simp only [Act.put]); (try simp only [List.setIfInBounds_toArray]); (try simp only [List.set_cons_succ]); (try simp only [List.set_cons_zero]))
                refine wpAnyH_take (i := 4) (oi := { dst := some 174, op := Op.move (Operand.tmp 173), type := 4, pos := "law.go:119", after := #[{ on := 3, ground := Ground.data }, { on := 1, ground := Ground.chain }], guard := none }) (v := ?_) rfl (by kernel_rfl) (by kernel_rfl) (by kernel_rfl) (fun _ _ _ h => h) (Or.inl ⟨by rfl, ?_⟩) (by assumption) ?_
                rotate_left
                · (intro w hSw; (try dsimp only at hSw); go_simp; try with_reducible rfl)
                ((try simp only [Act.put]); (try simp only [List.setIfInBounds_toArray]); (try simp only [List.set_cons_succ]); (try simp only [List.set_cons_zero]))
                refine wpAnyH_take (i := 5) (oi := { dst := some 175, op := Op.move (Operand.tmp 1), type := 35, pos := "law.go:119", after := #[{ on := 4, ground := Ground.guard }], guard := some (4, true) }) (v := ?_) rfl (by kernel_rfl) (by kernel_rfl) (by kernel_rfl) (fun _ _ _ h => h) (Or.inl ⟨by rfl, ?_⟩) (by assumption) ?_
                rotate_left
                · (intro w hSw; (try dsimp only at hSw); go_simp; try with_reducible rfl)
                ((try simp only [Act.put]); (try simp only [List.setIfInBounds_toArray]); (try simp only [List.set_cons_succ]); (try simp only [List.set_cons_zero]))
                refine wpAnyH_take (i := 6) (oi := { dst := some 176, op := Op.move (Operand.tmp 23), type := 3, pos := "law.go:119", after := #[{ on := 4, ground := Ground.guard }], guard := some (4, true) }) (v := ?_) rfl (by kernel_rfl) (by kernel_rfl) (by kernel_rfl) (fun _ _ _ h => h) (Or.inl ⟨by rfl, ?_⟩) (by assumption) ?_
                rotate_left
                · (intro w hSw; (try dsimp only at hSw); go_simp; try with_reducible rfl)
                ((try simp only [Act.put]); (try simp only [List.setIfInBounds_toArray]); (try simp only [List.set_cons_succ]); (try simp only [List.set_cons_zero]))
                refine wpAnyH_take (i := 7) (oi := { dst := some 177, op := Op.indexAddr 35 (Operand.tmp 175) (Operand.tmp 176), type := 0, pos := "law.go:119", after := #[{ on := 5, ground := Ground.data }, { on := 6, ground := Ground.data }, { on := 4, ground := Ground.guard }], guard := some (4, true) }) (v := ?_) rfl (by kernel_rfl) (by kernel_rfl) (by kernel_rfl) (fun _ _ _ h => h) (Or.inl ⟨by rfl, ?_⟩) (by assumption) ?_
                rotate_left
                · (intro w hSw; (try dsimp only at hSw); go_simp; try with_reducible rfl)
                ((try simp only [Act.put]); (try simp only [List.setIfInBounds_toArray]); (try simp only [List.set_cons_succ]); (try simp only [List.set_cons_zero]))
                refine wpAnyH_take (i := 8) (oi := { dst := some 178, op := Op.load 37 (Operand.tmp 177), type := 37, pos := "law.go:119", after := #[{ on := 7, ground := Ground.data }, { on := 4, ground := Ground.guard }], guard := some (4, true) }) (v := ?_) rfl (by kernel_rfl) (by kernel_rfl) (by kernel_rfl) (fun _ _ _ h => h) (Or.inl ⟨by rfl, ?_⟩) (by assumption) ?_
                rotate_left
                · (intro w hSw; (try dsimp only at hSw); go_simp; try with_reducible rfl)
                ((try simp only [Act.put]); (try simp only [List.setIfInBounds_toArray]); (try simp only [List.set_cons_succ]); (try simp only [List.set_cons_zero]))
                refine wpAnyH_take (i := 9) (oi := { dst := some 179, op := Op.move (Operand.tmp 2), type := 35, pos := "law.go:119", after := #[{ on := 4, ground := Ground.guard }], guard := some (4, true) }) (v := ?_) rfl (by kernel_rfl) (by kernel_rfl) (by kernel_rfl) (fun _ _ _ h => h) (Or.inl ⟨by rfl, ?_⟩) (by assumption) ?_
                rotate_left
                · (intro w hSw; (try dsimp only at hSw); go_simp; try with_reducible rfl)
                ((try simp only [Act.put]); (try simp only [List.setIfInBounds_toArray]); (try simp only [List.set_cons_succ]); (try simp only [List.set_cons_zero]))
                refine wpAnyH_take (i := 10) (oi := { dst := some 180, op := Op.move (Operand.tmp 23), type := 3, pos := "law.go:119", after := #[{ on := 4, ground := Ground.guard }], guard := some (4, true) }) (v := ?_) rfl (by kernel_rfl) (by kernel_rfl) (by kernel_rfl) (fun _ _ _ h => h) (Or.inl ⟨by rfl, ?_⟩) (by assumption) ?_
                rotate_left
                · (intro w hSw; (try dsimp only at hSw); go_simp; try with_reducible rfl)
                ((try simp only [Act.put]); (try simp only [List.setIfInBounds_toArray]); (try simp only [List.set_cons_succ]); (try simp only [List.set_cons_zero]))
                refine wpAnyH_take (i := 11) (oi := { dst := some 181, op := Op.indexAddr 35 (Operand.tmp 179) (Operand.tmp 180), type := 0, pos := "law.go:119", after := #[{ on := 9, ground := Ground.data }, { on := 10, ground := Ground.data }, { on := 4, ground := Ground.guard }], guard := some (4, true) }) (v := ?_) rfl (by kernel_rfl) (by kernel_rfl) (by kernel_rfl) (fun _ _ _ h => h) (Or.inl ⟨by rfl, ?_⟩) (by assumption) ?_
                rotate_left
                · (intro w hSw; (try dsimp only at hSw); go_simp; try with_reducible rfl)
                ((try simp only [Act.put]); (try simp only [List.setIfInBounds_toArray]); (try simp only [List.set_cons_succ]); (try simp only [List.set_cons_zero]))
                refine wpAnyH_take (i := 12) (oi := { dst := some 182, op := Op.load 37 (Operand.tmp 181), type := 37, pos := "law.go:119", after := #[{ on := 11, ground := Ground.data }, { on := 4, ground := Ground.guard }], guard := some (4, true) }) (v := ?_) rfl (by kernel_rfl) (by kernel_rfl) (by kernel_rfl) (fun _ _ _ h => h) (Or.inl ⟨by rfl, ?_⟩) (by assumption) ?_
                rotate_left
                · (intro w hSw; (try dsimp only at hSw); go_simp; try with_reducible rfl)
                ((try simp only [Act.put]); (try simp only [List.setIfInBounds_toArray]); (try simp only [List.set_cons_succ]); (try simp only [List.set_cons_zero]))
                refine wpAnyH_ready (rs := [13]) (by kernel_rfl) (by simp) ?_
                refine AllReadyH.cons (o := { dst := some 183, op := Op.call { callee := Callee.value (Operand.func 24), args := #[Operand.tmp 178, Operand.tmp 182], argTypes := #[37, 37] }, type := 3, pos := "law.go:119", after := #[{ on := 8, ground := Ground.data }, { on := 12, ground := Ground.data }, { on := 4, ground := Ground.chain }, { on := 4, ground := Ground.guard }], guard := some (4, true) }) rfl (fun K hK => ?_) AllReadyH.nil
                go_simp
                refine (rcmp_any (z := 0) (SA7.out.below (Hid.out hHeld.2.2)) (SB8.out.below (Hid.out hHeld.2.2)) HLA.out HLB.out CE.out).mono ?_
                rintro e w5 ⟨rfl, hw⟩
                subst hw
                try go_wp2_with fail
                refine hK.out _ _ ?_ (fun hNew => ?_)
                · exact hHeld
                clear hK K
                replace hHeld := hNew
                clear hNew
                ((try simp only [Act.put]); (try simp only [List.setIfInBounds_toArray]); (try simp only [List.set_cons_succ]); (try simp only [List.set_cons_zero]))
                refine wpAnyH_take (i := 14) (oi := { dst := some 184, op := Op.binOp BinOp.eql 3 (Operand.tmp 183) (Operand.const (Value.int IntKind.i64 0)) 3, type := 4, pos := "law.go:119", after := #[{ on := 13, ground := Ground.data }, { on := 4, ground := Ground.guard }], guard := some (4, true) }) (v := ?_) rfl (by kernel_rfl) (by kernel_rfl) (by kernel_rfl) (fun _ _ _ h => h) (Or.inl ⟨by rfl, ?_⟩) (by assumption) ?_
                rotate_left
                · (intro w hSw; (try dsimp only at hSw); go_simp; try with_reducible rfl)
                ((try simp only [Act.put]); (try simp only [List.setIfInBounds_toArray]); (try simp only [List.set_cons_succ]); (try simp only [List.set_cons_zero]))
                refine wpAnyH_take (i := 15) (oi := { dst := some 185, op := Op.move (Operand.tmp 184), type := 4, pos := "law.go:119", after := #[{ on := 14, ground := Ground.data }, { on := 13, ground := Ground.chain }, { on := 4, ground := Ground.guard }], guard := some (4, true) }) (v := ?_) rfl (by kernel_rfl) (by kernel_rfl) (by kernel_rfl) (fun _ _ _ h => h) (Or.inl ⟨by rfl, ?_⟩) (by assumption) ?_
                rotate_left
                · (intro w hSw; (try dsimp only at hSw); go_simp; try with_reducible rfl)
                ((try simp only [Act.put]); (try simp only [List.setIfInBounds_toArray]); (try simp only [List.set_cons_succ]); (try simp only [List.set_cons_zero]))
                refine wpAnyH_take (i := 16) (oi := { dst := some 186, op := Op.move (Operand.tmp 1), type := 35, pos := "law.go:119", after := #[{ on := 15, ground := Ground.guard }], guard := some (15, false) }) (v := undef) rfl (by kernel_rfl) (by kernel_rfl) (by kernel_rfl) (fun _ _ _ h => h) (Or.inr ⟨by rfl, rfl⟩) (by assumption) ?_
                ((try simp only [Act.put]); (try simp only [List.setIfInBounds_toArray]); (try simp only [List.set_cons_succ]); (try simp only [List.set_cons_zero]))
                refine wpAnyH_take (i := 17) (oi := { dst := some 187, op := Op.move (Operand.tmp 23), type := 3, pos := "law.go:119", after := #[{ on := 15, ground := Ground.guard }], guard := some (15, false) }) (v := undef) rfl (by kernel_rfl) (by kernel_rfl) (by kernel_rfl) (fun _ _ _ h => h) (Or.inr ⟨by rfl, rfl⟩) (by assumption) ?_
                ((try simp only [Act.put]); (try simp only [List.setIfInBounds_toArray]); (try simp only [List.set_cons_succ]); (try simp only [List.set_cons_zero]))
                refine wpAnyH_take (i := 18) (oi := { dst := some 188, op := Op.indexAddr 35 (Operand.tmp 186) (Operand.tmp 187), type := 0, pos := "law.go:119", after := #[{ on := 16, ground := Ground.data }, { on := 17, ground := Ground.data }, { on := 15, ground := Ground.guard }], guard := some (15, false) }) (v := undef) rfl (by kernel_rfl) (by kernel_rfl) (by kernel_rfl) (fun _ _ _ h => h) (Or.inr ⟨by rfl, rfl⟩) (by assumption) ?_
                ((try simp only [Act.put]); (try simp only [List.setIfInBounds_toArray]); (try simp only [List.set_cons_succ]); (try simp only [List.set_cons_zero]))
                refine wpAnyH_take (i := 19) (oi := { dst := some 189, op := Op.load 37 (Operand.tmp 188), type := 37, pos := "law.go:119", after := #[{ on := 18, ground := Ground.data }, { on := 15, ground := Ground.guard }], guard := some (15, false) }) (v := undef) rfl (by kernel_rfl) (by kernel_rfl) (by kernel_rfl) (fun _ _ _ h => h) (Or.inr ⟨by rfl, rfl⟩) (by assumption) ?_
                ((try simp only [Act.put]); (try simp only [List.setIfInBounds_toArray]); (try simp only [List.set_cons_succ]); (try simp only [List.set_cons_zero]))
                refine wpAnyH_take (i := 20) (oi := { dst := some 190, op := Op.move (Operand.tmp 2), type := 35, pos := "law.go:119", after := #[{ on := 15, ground := Ground.guard }], guard := some (15, false) }) (v := undef) rfl (by kernel_rfl) (by kernel_rfl) (by kernel_rfl) (fun _ _ _ h => h) (Or.inr ⟨by rfl, rfl⟩) (by assumption) ?_
                ((try simp only [Act.put]); (try simp only [List.setIfInBounds_toArray]); (try simp only [List.set_cons_succ]); (try simp only [List.set_cons_zero]))
                refine wpAnyH_take (i := 21) (oi := { dst := some 191, op := Op.move (Operand.tmp 23), type := 3, pos := "law.go:119", after := #[{ on := 15, ground := Ground.guard }], guard := some (15, false) }) (v := undef) rfl (by kernel_rfl) (by kernel_rfl) (by kernel_rfl) (fun _ _ _ h => h) (Or.inr ⟨by rfl, rfl⟩) (by assumption) ?_
                ((try simp only [Act.put]); (try simp only [List.setIfInBounds_toArray]); (try simp only [List.set_cons_succ]); (try simp only [List.set_cons_zero]))
                refine wpAnyH_take (i := 22) (oi := { dst := some 192, op := Op.indexAddr 35 (Operand.tmp 190) (Operand.tmp 191), type := 0, pos := "law.go:119", after := #[{ on := 20, ground := Ground.data }, { on := 21, ground := Ground.data }, { on := 15, ground := Ground.guard }], guard := some (15, false) }) (v := undef) rfl (by kernel_rfl) (by kernel_rfl) (by kernel_rfl) (fun _ _ _ h => h) (Or.inr ⟨by rfl, rfl⟩) (by assumption) ?_
                ((try simp only [Act.put]); (try simp only [List.setIfInBounds_toArray]); (try simp only [List.set_cons_succ]); (try simp only [List.set_cons_zero]))
                refine wpAnyH_take (i := 23) (oi := { dst := some 193, op := Op.load 37 (Operand.tmp 192), type := 37, pos := "law.go:119", after := #[{ on := 22, ground := Ground.data }, { on := 15, ground := Ground.guard }], guard := some (15, false) }) (v := undef) rfl (by kernel_rfl) (by kernel_rfl) (by kernel_rfl) (fun _ _ _ h => h) (Or.inr ⟨by rfl, rfl⟩) (by assumption) ?_
                ((try simp only [Act.put]); (try simp only [List.setIfInBounds_toArray]); (try simp only [List.set_cons_succ]); (try simp only [List.set_cons_zero]))
                refine wpAnyH_take (i := 24) (oi := { dst := some 194, op := Op.call { callee := Callee.value (Operand.func 24), args := #[Operand.tmp 189, Operand.tmp 193], argTypes := #[37, 37] }, type := 3, pos := "law.go:119", after := #[{ on := 19, ground := Ground.data }, { on := 23, ground := Ground.data }, { on := 15, ground := Ground.chain }, { on := 15, ground := Ground.guard }], guard := some (15, false) }) (v := undef) rfl (by kernel_rfl) (by kernel_rfl) (by kernel_rfl) (fun _ _ _ h => h) (Or.inr ⟨by rfl, rfl⟩) (by assumption) ?_
                ((try simp only [Act.put]); (try simp only [List.setIfInBounds_toArray]); (try simp only [List.set_cons_succ]); (try simp only [List.set_cons_zero]))
                refine wpAnyH_take (i := 25) (oi := { dst := some 195, op := Op.binOp BinOp.eql 3 (Operand.tmp 194) (Operand.const (Value.int IntKind.i64 (-1))) 3, type := 4, pos := "law.go:119", after := #[{ on := 24, ground := Ground.data }, { on := 15, ground := Ground.guard }], guard := some (15, false) }) (v := undef) rfl (by kernel_rfl) (by kernel_rfl) (by kernel_rfl) (fun _ _ _ h => h) (Or.inr ⟨by rfl, rfl⟩) (by assumption) ?_
                ((try simp only [Act.put]); (try simp only [List.setIfInBounds_toArray]); (try simp only [List.set_cons_succ]); (try simp only [List.set_cons_zero]))
                refine wpAnyH_take (i := 26) (oi := { dst := some 196, op := Op.pick (Operand.tmp 185) (Operand.const (Value.bool true)) (Operand.tmp 195), type := 4, pos := "law.go:119", after := #[{ on := 15, ground := Ground.data }, { on := 25, ground := Ground.data }, { on := 4, ground := Ground.guard }], guard := some (4, true) }) (v := ?_) rfl (by kernel_rfl) (by kernel_rfl) (by kernel_rfl) (fun _ _ _ h => h) (Or.inl ⟨by rfl, ?_⟩) (by assumption) ?_
                rotate_left
                · (intro w hSw; (try dsimp only at hSw); go_simp; try with_reducible rfl)
                ((try simp only [Act.put]); (try simp only [List.setIfInBounds_toArray]); (try simp only [List.set_cons_succ]); (try simp only [List.set_cons_zero]))
                refine wpAnyH_take (i := 27) (oi := { dst := some 197, op := Op.pick (Operand.tmp 174) (Operand.tmp 196) (Operand.const (Value.bool false)), type := 4, pos := "law.go:119", after := #[{ on := 4, ground := Ground.data }, { on := 26, ground := Ground.data }], guard := none }) (v := ?_) rfl (by kernel_rfl) (by kernel_rfl) (by kernel_rfl) (fun _ _ _ h => h) (Or.inl ⟨by rfl, ?_⟩) (by assumption) ?_
                rotate_left
                · (intro w hSw; (try dsimp only at hSw); go_simp; try with_reducible rfl)
                ((try simp only [Act.put]); (try simp only [List.setIfInBounds_toArray]); (try simp only [List.set_cons_succ]); (try simp only [List.set_cons_zero]))
                refine wpAnyH_take (i := 28) (oi := { dst := some 22, op := Op.assign (Operand.tmp 197), type := 4, pos := "law.go:119", after := #[{ on := 27, ground := Ground.data }, { on := 24, ground := Ground.chain }, { on := 0, ground := Ground.phase }, { on := 1, ground := Ground.phase }, { on := 2, ground := Ground.phase }, { on := 3, ground := Ground.phase }, { on := 4, ground := Ground.phase }, { on := 5, ground := Ground.phase }, { on := 6, ground := Ground.phase }, { on := 7, ground := Ground.phase }, { on := 8, ground := Ground.phase }, { on := 9, ground := Ground.phase }, { on := 10, ground := Ground.phase }, { on := 11, ground := Ground.phase }, { on := 12, ground := Ground.phase }, { on := 13, ground := Ground.phase }, { on := 14, ground := Ground.phase }, { on := 15, ground := Ground.phase }, { on := 16, ground := Ground.phase }, { on := 17, ground := Ground.phase }, { on := 18, ground := Ground.phase }, { on := 19, ground := Ground.phase }, { on := 20, ground := Ground.phase }, { on := 21, ground := Ground.phase }, { on := 22, ground := Ground.phase }, { on := 23, ground := Ground.phase }, { on := 24, ground := Ground.phase }, { on := 25, ground := Ground.phase }, { on := 26, ground := Ground.phase }, { on := 27, ground := Ground.phase }], guard := none }) (v := ?_) rfl (by kernel_rfl) (by kernel_rfl) (by kernel_rfl) (fun _ _ _ h => h) (Or.inl ⟨by rfl, ?_⟩) (by assumption) ?_
                rotate_left
                · (intro w hSw; (try dsimp only at hSw); go_simp; try with_reducible rfl)
                ((try simp only [Act.put]); (try simp only [List.setIfInBounds_toArray]); (try simp only [List.set_cons_succ]); (try simp only [List.set_cons_zero]))
                refine wpAnyH_done (by kernel_rfl) ?_ _
                refine NoPanic.normal ?_
                have IF := Lib.hid (B2.out.trans ((Hid.out hHeld.2.2).mono B2.out.size))
                have OF := Lib.hid (own_below O2.out (Hid.out hHeld.2.2))
                have WE := Lib.hid (show wiK true ma mb (k + 1) = true from by rw [WM.out, WV.out, WB.out]; rfl)
                go_wp2_with fail
                go_roundw
                case rel => exact ⟨k + 1, by have := KK.out; omega, by go_num, by rw [WE.out], OF.out, IF.out⟩
                case measure => simp only [intOf]; omega
            · have CE := Lib.hid hc
              have WB := Lib.hid hw
              clear hc hw
              as_aux_lemma =>
                go_wp2_with (
                  at_builtin
                  refine wpList_append_at rfl (.tmp 160) (.tmp 168) 37 rfl wc.heap.size 30 i0 (.int .u64 0) 1 8 Try.underlying37 hi0 hz0 hz1 hz2 rfl (by decide) (.slice sa k sc) k ((colK ma q k).map qV) rfl ?h1 _ _ _ [qV v9] rfl ?h2 ?h3 ?h4 (ones_q [v9]) ?h6 ?h7 ?h8 ?_
                  case h1 => exact OA.out
                  case h2 => rfl
                  case h3 => intro e; cases e
                  case h4 => exact LIT.out.news
                  case h6 => unfold maxLen; omega
                  case h7 => omega
                  case h8 => exact BA.out.size
                  intro v2 w2 hown2 hgr2 hat2
                  have B2 := Lib.hid (BA.out.grown hgr2 BA.out.size (fun j h => (OA.out.lt j h).1))
                  have hA7 := cell_go hA6 B2.out
                  have hB8 := cell_go hB7 B2.out
                  rw [MORE.out] at hown2
                  have O2 := Lib.hid hown2
                  clear hown2 hgr2 hat2)
                have SA7 := Lib.hid (SA6.out.below B2.out)
                have SB8 := Lib.hid (SB7.out.below B2.out)
                refine wp_region_noPanic ?_
                refine wp_region_held_drew (S := (fun w' => w'.cell? ⟨b6, f6 + k, none⟩ = some (.slice (some ⟨b9, f9, none⟩) N rc6) ∧ w'.cell? ⟨b7, f7 + k, none⟩ = some (.slice ra7 N rc7) ∧ Hid (Below w2.heap.size w2 w'))) (by kernel_rfl) ?_ (fun hHeld => ?_)
                · exact ⟨hA7, hB8, Lib.hid (drew_below w2)⟩
                refine wpAnyH_take (i := 0) (oi := { dst := some 170, op := Op.move (Operand.tmp 22), type := 4, pos := "law.go:119", after := #[], guard := none }) (v := ?_) rfl (by kernel_rfl) (by kernel_rfl) (by kernel_rfl) (fun _ _ _ h => h) (Or.inl ⟨by rfl, ?_⟩) (by assumption) ?_
                rotate_left
                · (intro w hSw; (try dsimp only at hSw); go_simp; try with_reducible rfl)
                ((try simp only [Act.put]); (try simp only [List.setIfInBounds_toArray]); (try simp only [List.set_cons_succ]); (try simp only [List.set_cons_zero]))
                refine wpAnyH_take (i := 1) (oi := { dst := some 171, op := Op.move (Operand.tmp 170), type := 4, pos := "law.go:119", after := #[{ on := 0, ground := Ground.data }], guard := none }) (v := ?_) rfl (by kernel_rfl) (by kernel_rfl) (by kernel_rfl) (fun _ _ _ h => h) (Or.inl ⟨by rfl, ?_⟩) (by assumption) ?_
                rotate_left
                · (intro w hSw; (try dsimp only at hSw); go_simp; try with_reducible rfl)
                ((try simp only [Act.put]); (try simp only [List.setIfInBounds_toArray]); (try simp only [List.set_cons_succ]); (try simp only [List.set_cons_zero]))
                refine wpAnyH_take (i := 2) (oi := { dst := some 172, op := Op.move (Operand.tmp 16), type := 4, pos := "law.go:119", after := #[{ on := 1, ground := Ground.guard }], guard := some (1, true) }) (v := ?_) rfl (by kernel_rfl) (by kernel_rfl) (by kernel_rfl) (fun _ _ _ h => h) (Or.inl ⟨by rfl, ?_⟩) (by assumption) ?_
                rotate_left
                · (intro w hSw; (try dsimp only at hSw); go_simp; try with_reducible rfl)
                ((try simp only [Act.put]); (try simp only [List.setIfInBounds_toArray]); (try simp only [List.set_cons_succ]); (try simp only [List.set_cons_zero]))
                refine wpAnyH_take (i := 3) (oi := { dst := some 173, op := Op.pick (Operand.tmp 171) (Operand.tmp 172) (Operand.const (Value.bool false)), type := 4, pos := "law.go:119", after := #[{ on := 1, ground := Ground.data }, { on := 2, ground := Ground.data }], guard := none }) (v := ?_) rfl (by kernel_rfl) (by kernel_rfl) (by kernel_rfl) (fun _ _ _ h => h) (Or.inl ⟨by rfl, ?_⟩) (by assumption) ?_
                rotate_left
                · (intro w hSw; (try dsimp only at hSw); go_simp; try with_reducible rfl)
                ((try simp only [Act.put]); (try simp only [List.setIfInBounds_toArray]); (try simp only [List.set_cons_succ]); (try simp only [List.set_cons_zero]))
                refine wpAnyH_take (i := 4) (oi := { dst := some 174, op := Op.move (Operand.tmp 173), type := 4, pos := "law.go:119", after := #[{ on := 3, ground := Ground.data }, { on := 1, ground := Ground.chain }], guard := none }) (v := ?_) rfl (by kernel_rfl) (by kernel_rfl) (by kernel_rfl) (fun _ _ _ h => h) (Or.inl ⟨by rfl, ?_⟩) (by assumption) ?_
                rotate_left
                · (intro w hSw; (try dsimp only at hSw); go_simp; try with_reducible rfl)
                ((try simp only [Act.put]); (try simp only [List.setIfInBounds_toArray]); (try simp only [List.set_cons_succ]); (try simp only [List.set_cons_zero]))
                refine wpAnyH_take (i := 5) (oi := { dst := some 175, op := Op.move (Operand.tmp 1), type := 35, pos := "law.go:119", after := #[{ on := 4, ground := Ground.guard }], guard := some (4, true) }) (v := ?_) rfl (by kernel_rfl) (by kernel_rfl) (by kernel_rfl) (fun _ _ _ h => h) (Or.inl ⟨by rfl, ?_⟩) (by assumption) ?_
                rotate_left
                · (intro w hSw; (try dsimp only at hSw); go_simp; try with_reducible rfl)
                ((try simp only [Act.put]); (try simp only [List.setIfInBounds_toArray]); (try simp only [List.set_cons_succ]); (try simp only [List.set_cons_zero]))
                refine wpAnyH_take (i := 6) (oi := { dst := some 176, op := Op.move (Operand.tmp 23), type := 3, pos := "law.go:119", after := #[{ on := 4, ground := Ground.guard }], guard := some (4, true) }) (v := ?_) rfl (by kernel_rfl) (by kernel_rfl) (by kernel_rfl) (fun _ _ _ h => h) (Or.inl ⟨by rfl, ?_⟩) (by assumption) ?_
                rotate_left
                · (intro w hSw; (try dsimp only at hSw); go_simp; try with_reducible rfl)
                ((try simp only [Act.put]); (try simp only [List.setIfInBounds_toArray]); (try simp only [List.set_cons_succ]); (try simp only [List.set_cons_zero]))
                refine wpAnyH_take (i := 7) (oi := { dst := some 177, op := Op.indexAddr 35 (Operand.tmp 175) (Operand.tmp 176), type := 0, pos := "law.go:119", after := #[{ on := 5, ground := Ground.data }, { on := 6, ground := Ground.data }, { on := 4, ground := Ground.guard }], guard := some (4, true) }) (v := ?_) rfl (by kernel_rfl) (by kernel_rfl) (by kernel_rfl) (fun _ _ _ h => h) (Or.inl ⟨by rfl, ?_⟩) (by assumption) ?_
                rotate_left
                · (intro w hSw; (try dsimp only at hSw); go_simp; try with_reducible rfl)
                ((try simp only [Act.put]); (try simp only [List.setIfInBounds_toArray]); (try simp only [List.set_cons_succ]); (try simp only [List.set_cons_zero]))
                refine wpAnyH_take (i := 8) (oi := { dst := some 178, op := Op.load 37 (Operand.tmp 177), type := 37, pos := "law.go:119", after := #[{ on := 7, ground := Ground.data }, { on := 4, ground := Ground.guard }], guard := some (4, true) }) (v := ?_) rfl (by kernel_rfl) (by kernel_rfl) (by kernel_rfl) (fun _ _ _ h => h) (Or.inl ⟨by rfl, ?_⟩) (by assumption) ?_
                rotate_left
                · (intro w hSw; (try dsimp only at hSw); go_simp; try with_reducible rfl)
                ((try simp only [Act.put]); (try simp only [List.setIfInBounds_toArray]); (try simp only [List.set_cons_succ]); (try simp only [List.set_cons_zero]))
                refine wpAnyH_take (i := 9) (oi := { dst := some 179, op := Op.move (Operand.tmp 2), type := 35, pos := "law.go:119", after := #[{ on := 4, ground := Ground.guard }], guard := some (4, true) }) (v := ?_) rfl (by kernel_rfl) (by kernel_rfl) (by kernel_rfl) (fun _ _ _ h => h) (Or.inl ⟨by rfl, ?_⟩) (by assumption) ?_
                rotate_left
                · (intro w hSw; (try dsimp only at hSw); go_simp; try with_reducible rfl)
                ((try simp only [Act.put]); (try simp only [List.setIfInBounds_toArray]); (try simp only [List.set_cons_succ]); (try simp only [List.set_cons_zero]))
                refine wpAnyH_take (i := 10) (oi := { dst := some 180, op := Op.move (Operand.tmp 23), type := 3, pos := "law.go:119", after := #[{ on := 4, ground := Ground.guard }], guard := some (4, true) }) (v := ?_) rfl (by kernel_rfl) (by kernel_rfl) (by kernel_rfl) (fun _ _ _ h => h) (Or.inl ⟨by rfl, ?_⟩) (by assumption) ?_
                rotate_left
                · (intro w hSw; (try dsimp only at hSw); go_simp; try with_reducible rfl)
                ((try simp only [Act.put]); (try simp only [List.setIfInBounds_toArray]); (try simp only [List.set_cons_succ]); (try simp only [List.set_cons_zero]))
                refine wpAnyH_take (i := 11) (oi := { dst := some 181, op := Op.indexAddr 35 (Operand.tmp 179) (Operand.tmp 180), type := 0, pos := "law.go:119", after := #[{ on := 9, ground := Ground.data }, { on := 10, ground := Ground.data }, { on := 4, ground := Ground.guard }], guard := some (4, true) }) (v := ?_) rfl (by kernel_rfl) (by kernel_rfl) (by kernel_rfl) (fun _ _ _ h => h) (Or.inl ⟨by rfl, ?_⟩) (by assumption) ?_
                rotate_left
                · (intro w hSw; (try dsimp only at hSw); go_simp; try with_reducible rfl)
                ((try simp only [Act.put]); (try simp only [List.setIfInBounds_toArray]); (try simp only [List.set_cons_succ]); (try simp only [List.set_cons_zero]))
                refine wpAnyH_take (i := 12) (oi := { dst := some 182, op := Op.load 37 (Operand.tmp 181), type := 37, pos := "law.go:119", after := #[{ on := 11, ground := Ground.data }, { on := 4, ground := Ground.guard }], guard := some (4, true) }) (v := ?_) rfl (by kernel_rfl) (by kernel_rfl) (by kernel_rfl) (fun _ _ _ h => h) (Or.inl ⟨by rfl, ?_⟩) (by assumption) ?_
                rotate_left
                · (intro w hSw; (try dsimp only at hSw); go_simp; try with_reducible rfl)
                ((try simp only [Act.put]); (try simp only [List.setIfInBounds_toArray]); (try simp only [List.set_cons_succ]); (try simp only [List.set_cons_zero]))
                refine wpAnyH_ready (rs := [13]) (by kernel_rfl) (by simp) ?_
                refine AllReadyH.cons (o := { dst := some 183, op := Op.call { callee := Callee.value (Operand.func 24), args := #[Operand.tmp 178, Operand.tmp 182], argTypes := #[37, 37] }, type := 3, pos := "law.go:119", after := #[{ on := 8, ground := Ground.data }, { on := 12, ground := Ground.data }, { on := 4, ground := Ground.chain }, { on := 4, ground := Ground.guard }], guard := some (4, true) }) rfl (fun K hK => ?_) AllReadyH.nil
                go_simp
                refine (rcmp_any (z := -1) (SA7.out.below (Hid.out hHeld.2.2)) (SB8.out.below (Hid.out hHeld.2.2)) HLA.out HLB.out CE.out).mono ?_
                rintro e w5 ⟨rfl, hw⟩
                subst hw
                try go_wp2_with fail
                refine hK.out _ _ ?_ (fun hNew => ?_)
                · exact hHeld
                clear hK K
                replace hHeld := hNew
                clear hNew
                ((try simp only [Act.put]); (try simp only [List.setIfInBounds_toArray]); (try simp only [List.set_cons_succ]); (try simp only [List.set_cons_zero]))
                refine wpAnyH_take (i := 14) (oi := { dst := some 184, op := Op.binOp BinOp.eql 3 (Operand.tmp 183) (Operand.const (Value.int IntKind.i64 0)) 3, type := 4, pos := "law.go:119", after := #[{ on := 13, ground := Ground.data }, { on := 4, ground := Ground.guard }], guard := some (4, true) }) (v := ?_) rfl (by kernel_rfl) (by kernel_rfl) (by kernel_rfl) (fun _ _ _ h => h) (Or.inl ⟨by rfl, ?_⟩) (by assumption) ?_
                rotate_left
                · (intro w hSw; (try dsimp only at hSw); go_simp; try with_reducible rfl)
                ((try simp only [Act.put]); (try simp only [List.setIfInBounds_toArray]); (try simp only [List.set_cons_succ]); (try simp only [List.set_cons_zero]))
                refine wpAnyH_take (i := 15) (oi := { dst := some 185, op := Op.move (Operand.tmp 184), type := 4, pos := "law.go:119", after := #[{ on := 14, ground := Ground.data }, { on := 13, ground := Ground.chain }, { on := 4, ground := Ground.guard }], guard := some (4, true) }) (v := ?_) rfl (by kernel_rfl) (by kernel_rfl) (by kernel_rfl) (fun _ _ _ h => h) (Or.inl ⟨by rfl, ?_⟩) (by assumption) ?_
                rotate_left
                · (intro w hSw; (try dsimp only at hSw); go_simp; try with_reducible rfl)
                ((try simp only [Act.put]); (try simp only [List.setIfInBounds_toArray]); (try simp only [List.set_cons_succ]); (try simp only [List.set_cons_zero]))
                refine wpAnyH_take (i := 16) (oi := { dst := some 186, op := Op.move (Operand.tmp 1), type := 35, pos := "law.go:119", after := #[{ on := 15, ground := Ground.guard }], guard := some (15, false) }) (v := ?_) rfl (by kernel_rfl) (by kernel_rfl) (by kernel_rfl) (fun _ _ _ h => h) (Or.inl ⟨by rfl, ?_⟩) (by assumption) ?_
                rotate_left
                · (intro w hSw; (try dsimp only at hSw); go_simp; try with_reducible rfl)
                ((try simp only [Act.put]); (try simp only [List.setIfInBounds_toArray]); (try simp only [List.set_cons_succ]); (try simp only [List.set_cons_zero]))
                refine wpAnyH_take (i := 17) (oi := { dst := some 187, op := Op.move (Operand.tmp 23), type := 3, pos := "law.go:119", after := #[{ on := 15, ground := Ground.guard }], guard := some (15, false) }) (v := ?_) rfl (by kernel_rfl) (by kernel_rfl) (by kernel_rfl) (fun _ _ _ h => h) (Or.inl ⟨by rfl, ?_⟩) (by assumption) ?_
                rotate_left
                · (intro w hSw; (try dsimp only at hSw); go_simp; try with_reducible rfl)
                ((try simp only [Act.put]); (try simp only [List.setIfInBounds_toArray]); (try simp only [List.set_cons_succ]); (try simp only [List.set_cons_zero]))
                refine wpAnyH_take (i := 18) (oi := { dst := some 188, op := Op.indexAddr 35 (Operand.tmp 186) (Operand.tmp 187), type := 0, pos := "law.go:119", after := #[{ on := 16, ground := Ground.data }, { on := 17, ground := Ground.data }, { on := 15, ground := Ground.guard }], guard := some (15, false) }) (v := ?_) rfl (by kernel_rfl) (by kernel_rfl) (by kernel_rfl) (fun _ _ _ h => h) (Or.inl ⟨by rfl, ?_⟩) (by assumption) ?_
                rotate_left
                · (intro w hSw; (try dsimp only at hSw); go_simp; try with_reducible rfl)
                ((try simp only [Act.put]); (try simp only [List.setIfInBounds_toArray]); (try simp only [List.set_cons_succ]); (try simp only [List.set_cons_zero]))
                refine wpAnyH_take (i := 19) (oi := { dst := some 189, op := Op.load 37 (Operand.tmp 188), type := 37, pos := "law.go:119", after := #[{ on := 18, ground := Ground.data }, { on := 15, ground := Ground.guard }], guard := some (15, false) }) (v := ?_) rfl (by kernel_rfl) (by kernel_rfl) (by kernel_rfl) (fun _ _ _ h => h) (Or.inl ⟨by rfl, ?_⟩) (by assumption) ?_
                rotate_left
                · (intro w hSw; (try dsimp only at hSw); go_simp; try with_reducible rfl)
                ((try simp only [Act.put]); (try simp only [List.setIfInBounds_toArray]); (try simp only [List.set_cons_succ]); (try simp only [List.set_cons_zero]))
                refine wpAnyH_take (i := 20) (oi := { dst := some 190, op := Op.move (Operand.tmp 2), type := 35, pos := "law.go:119", after := #[{ on := 15, ground := Ground.guard }], guard := some (15, false) }) (v := ?_) rfl (by kernel_rfl) (by kernel_rfl) (by kernel_rfl) (fun _ _ _ h => h) (Or.inl ⟨by rfl, ?_⟩) (by assumption) ?_
                rotate_left
                · (intro w hSw; (try dsimp only at hSw); go_simp; try with_reducible rfl)
                ((try simp only [Act.put]); (try simp only [List.setIfInBounds_toArray]); (try simp only [List.set_cons_succ]); (try simp only [List.set_cons_zero]))
                refine wpAnyH_take (i := 21) (oi := { dst := some 191, op := Op.move (Operand.tmp 23), type := 3, pos := "law.go:119", after := #[{ on := 15, ground := Ground.guard }], guard := some (15, false) }) (v := ?_) rfl (by kernel_rfl) (by kernel_rfl) (by kernel_rfl) (fun _ _ _ h => h) (Or.inl ⟨by rfl, ?_⟩) (by assumption) ?_
                rotate_left
                · (intro w hSw; (try dsimp only at hSw); go_simp; try with_reducible rfl)
                ((try simp only [Act.put]); (try simp only [List.setIfInBounds_toArray]); (try simp only [List.set_cons_succ]); (try simp only [List.set_cons_zero]))
                refine wpAnyH_take (i := 22) (oi := { dst := some 192, op := Op.indexAddr 35 (Operand.tmp 190) (Operand.tmp 191), type := 0, pos := "law.go:119", after := #[{ on := 20, ground := Ground.data }, { on := 21, ground := Ground.data }, { on := 15, ground := Ground.guard }], guard := some (15, false) }) (v := ?_) rfl (by kernel_rfl) (by kernel_rfl) (by kernel_rfl) (fun _ _ _ h => h) (Or.inl ⟨by rfl, ?_⟩) (by assumption) ?_
                rotate_left
                · (intro w hSw; (try dsimp only at hSw); go_simp; try with_reducible rfl)
                ((try simp only [Act.put]); (try simp only [List.setIfInBounds_toArray]); (try simp only [List.set_cons_succ]); (try simp only [List.set_cons_zero]))
                refine wpAnyH_take (i := 23) (oi := { dst := some 193, op := Op.load 37 (Operand.tmp 192), type := 37, pos := "law.go:119", after := #[{ on := 22, ground := Ground.data }, { on := 15, ground := Ground.guard }], guard := some (15, false) }) (v := ?_) rfl (by kernel_rfl) (by kernel_rfl) (by kernel_rfl) (fun _ _ _ h => h) (Or.inl ⟨by rfl, ?_⟩) (by assumption) ?_
                rotate_left
                · (intro w hSw; (try dsimp only at hSw); go_simp; try with_reducible rfl)
                ((try simp only [Act.put]); (try simp only [List.setIfInBounds_toArray]); (try simp only [List.set_cons_succ]); (try simp only [List.set_cons_zero]))
                refine wpAnyH_ready (rs := [24]) (by kernel_rfl) (by simp) ?_
                refine AllReadyH.cons (o := { dst := some 194, op := Op.call { callee := Callee.value (Operand.func 24), args := #[Operand.tmp 189, Operand.tmp 193], argTypes := #[37, 37] }, type := 3, pos := "law.go:119", after := #[{ on := 19, ground := Ground.data }, { on := 23, ground := Ground.data }, { on := 15, ground := Ground.chain }, { on := 15, ground := Ground.guard }], guard := some (15, false) }) rfl (fun K hK => ?_) AllReadyH.nil
                go_simp
                refine (rcmp_any (z := -1) (SA7.out.below (Hid.out hHeld.2.2)) (SB8.out.below (Hid.out hHeld.2.2)) HLA.out HLB.out CE.out).mono ?_
                rintro e w5 ⟨rfl, hw⟩
                subst hw
                try go_wp2_with fail
                refine hK.out _ _ ?_ (fun hNew => ?_)
                · exact hHeld
                clear hK K
                replace hHeld := hNew
                clear hNew
                ((try simp only [Act.put]); (try simp only [List.setIfInBounds_toArray]); (try simp only [List.set_cons_succ]); (try simp only [List.set_cons_zero]))
                refine wpAnyH_take (i := 25) (oi := { dst := some 195, op := Op.binOp BinOp.eql 3 (Operand.tmp 194) (Operand.const (Value.int IntKind.i64 (-1))) 3, type := 4, pos := "law.go:119", after := #[{ on := 24, ground := Ground.data }, { on := 15, ground := Ground.guard }], guard := some (15, false) }) (v := ?_) rfl (by kernel_rfl) (by kernel_rfl) (by kernel_rfl) (fun _ _ _ h => h) (Or.inl ⟨by rfl, ?_⟩) (by assumption) ?_
                rotate_left
                · (intro w hSw; (try dsimp only at hSw); go_simp; try with_reducible rfl)
                ((try simp only [Act.put]); (try simp only [List.setIfInBounds_toArray]); (try simp only [List.set_cons_succ]); (try simp only [List.set_cons_zero]))
                refine wpAnyH_take (i := 26) (oi := { dst := some 196, op := Op.pick (Operand.tmp 185) (Operand.const (Value.bool true)) (Operand.tmp 195), type := 4, pos := "law.go:119", after := #[{ on := 15, ground := Ground.data }, { on := 25, ground := Ground.data }, { on := 4, ground := Ground.guard }], guard := some (4, true) }) (v := ?_) rfl (by kernel_rfl) (by kernel_rfl) (by kernel_rfl) (fun _ _ _ h => h) (Or.inl ⟨by rfl, ?_⟩) (by assumption) ?_
                rotate_left
                · (intro w hSw; (try dsimp only at hSw); go_simp; try with_reducible rfl)
                ((try simp only [Act.put]); (try simp only [List.setIfInBounds_toArray]); (try simp only [List.set_cons_succ]); (try simp only [List.set_cons_zero]))
                refine wpAnyH_take (i := 27) (oi := { dst := some 197, op := Op.pick (Operand.tmp 174) (Operand.tmp 196) (Operand.const (Value.bool false)), type := 4, pos := "law.go:119", after := #[{ on := 4, ground := Ground.data }, { on := 26, ground := Ground.data }], guard := none }) (v := ?_) rfl (by kernel_rfl) (by kernel_rfl) (by kernel_rfl) (fun _ _ _ h => h) (Or.inl ⟨by rfl, ?_⟩) (by assumption) ?_
                rotate_left
                · (intro w hSw; (try dsimp only at hSw); go_simp; try with_reducible rfl)
                ((try simp only [Act.put]); (try simp only [List.setIfInBounds_toArray]); (try simp only [List.set_cons_succ]); (try simp only [List.set_cons_zero]))
                refine wpAnyH_take (i := 28) (oi := { dst := some 22, op := Op.assign (Operand.tmp 197), type := 4, pos := "law.go:119", after := #[{ on := 27, ground := Ground.data }, { on := 24, ground := Ground.chain }, { on := 0, ground := Ground.phase }, { on := 1, ground := Ground.phase }, { on := 2, ground := Ground.phase }, { on := 3, ground := Ground.phase }, { on := 4, ground := Ground.phase }, { on := 5, ground := Ground.phase }, { on := 6, ground := Ground.phase }, { on := 7, ground := Ground.phase }, { on := 8, ground := Ground.phase }, { on := 9, ground := Ground.phase }, { on := 10, ground := Ground.phase }, { on := 11, ground := Ground.phase }, { on := 12, ground := Ground.phase }, { on := 13, ground := Ground.phase }, { on := 14, ground := Ground.phase }, { on := 15, ground := Ground.phase }, { on := 16, ground := Ground.phase }, { on := 17, ground := Ground.phase }, { on := 18, ground := Ground.phase }, { on := 19, ground := Ground.phase }, { on := 20, ground := Ground.phase }, { on := 21, ground := Ground.phase }, { on := 22, ground := Ground.phase }, { on := 23, ground := Ground.phase }, { on := 24, ground := Ground.phase }, { on := 25, ground := Ground.phase }, { on := 26, ground := Ground.phase }, { on := 27, ground := Ground.phase }], guard := none }) (v := ?_) rfl (by kernel_rfl) (by kernel_rfl) (by kernel_rfl) (fun _ _ _ h => h) (Or.inl ⟨by rfl, ?_⟩) (by assumption) ?_
                rotate_left
                · (intro w hSw; (try dsimp only at hSw); go_simp; try with_reducible rfl)
                ((try simp only [Act.put]); (try simp only [List.setIfInBounds_toArray]); (try simp only [List.set_cons_succ]); (try simp only [List.set_cons_zero]))
                refine wpAnyH_done (by kernel_rfl) ?_ _
                refine NoPanic.normal ?_
                have IF := Lib.hid (B2.out.trans ((Hid.out hHeld.2.2).mono B2.out.size))
                have OF := Lib.hid (own_below O2.out (Hid.out hHeld.2.2))
                have WE := Lib.hid (show wiK true ma mb (k + 1) = true from by rw [WM.out, WV.out, WB.out]; rfl)
                go_wp2_with fail
                go_roundw
                case rel => exact ⟨k + 1, by have := KK.out; omega, by go_num, by rw [WE.out], OF.out, IF.out⟩
                case measure => simp only [intOf]; omega
            · obtain ⟨cz, hcz⟩ : ∃ cz, cz = cmpZ (ma.getD k []) (mb.getD k []) := ⟨_, rfl⟩
              rw [← hcz] at hc hc2
              have CE := Lib.hid hcz.symm
              have WB := Lib.hid hw
              have dc1 : (cz == 0) = false := by simpa using hc
              have dc2 : (cz == -1) = false := by simpa using hc2
              clear hc hc2 hw hcz
              as_aux_lemma =>
                go_wp2_with (
                  at_builtin
                  refine wpList_append_at rfl (.tmp 160) (.tmp 168) 37 rfl wc.heap.size 30 i0 (.int .u64 0) 1 8 Try.underlying37 hi0 hz0 hz1 hz2 rfl (by decide) (.slice sa k sc) k ((colK ma q k).map qV) rfl ?h1 _ _ _ [qV v9] rfl ?h2 ?h3 ?h4 (ones_q [v9]) ?h6 ?h7 ?h8 ?_
                  case h1 => exact OA.out
                  case h2 => rfl
                  case h3 => intro e; cases e
                  case h4 => exact LIT.out.news
                  case h6 => unfold maxLen; omega
                  case h7 => omega
                  case h8 => exact BA.out.size
                  intro v2 w2 hown2 hgr2 hat2
                  have B2 := Lib.hid (BA.out.grown hgr2 BA.out.size (fun j h => (OA.out.lt j h).1))
                  have hA7 := cell_go hA6 B2.out
                  have hB8 := cell_go hB7 B2.out
                  rw [MORE.out] at hown2
                  have O2 := Lib.hid hown2
                  clear hown2 hgr2 hat2)
                have SA7 := Lib.hid (SA6.out.below B2.out)
                have SB8 := Lib.hid (SB7.out.below B2.out)
                refine wp_region_noPanic ?_
                refine wp_region_held_drew (S := (fun w' => w'.cell? ⟨b6, f6 + k, none⟩ = some (.slice (some ⟨b9, f9, none⟩) N rc6) ∧ w'.cell? ⟨b7, f7 + k, none⟩ = some (.slice ra7 N rc7) ∧ Hid (Below w2.heap.size w2 w'))) (by kernel_rfl) ?_ (fun hHeld => ?_)
                · exact ⟨hA7, hB8, Lib.hid (drew_below w2)⟩
                refine wpAnyH_take (i := 0) (oi := { dst := some 170, op := Op.move (Operand.tmp 22), type := 4, pos := "law.go:119", after := #[], guard := none }) (v := ?_) rfl (by kernel_rfl) (by kernel_rfl) (by kernel_rfl) (fun _ _ _ h => h) (Or.inl ⟨by rfl, ?_⟩) (by assumption) ?_
                rotate_left
                · (intro w hSw; (try dsimp only at hSw); go_simp; try with_reducible rfl)
                ((try simp only [Act.put]); (try simp only [List.setIfInBounds_toArray]); (try simp only [List.set_cons_succ]); (try simp only [List.set_cons_zero]))
                refine wpAnyH_take (i := 1) (oi := { dst := some 171, op := Op.move (Operand.tmp 170), type := 4, pos := "law.go:119", after := #[{ on := 0, ground := Ground.data }], guard := none }) (v := ?_) rfl (by kernel_rfl) (by kernel_rfl) (by kernel_rfl) (fun _ _ _ h => h) (Or.inl ⟨by rfl, ?_⟩) (by assumption) ?_
                rotate_left
                · (intro w hSw; (try dsimp only at hSw); go_simp; try with_reducible rfl)
                ((try simp only [Act.put]); (try simp only [List.setIfInBounds_toArray]); (try simp only [List.set_cons_succ]); (try simp only [List.set_cons_zero]))
                refine wpAnyH_take (i := 2) (oi := { dst := some 172, op := Op.move (Operand.tmp 16), type := 4, pos := "law.go:119", after := #[{ on := 1, ground := Ground.guard }], guard := some (1, true) }) (v := ?_) rfl (by kernel_rfl) (by kernel_rfl) (by kernel_rfl) (fun _ _ _ h => h) (Or.inl ⟨by rfl, ?_⟩) (by assumption) ?_
                rotate_left
                · (intro w hSw; (try dsimp only at hSw); go_simp; try with_reducible rfl)
                ((try simp only [Act.put]); (try simp only [List.setIfInBounds_toArray]); (try simp only [List.set_cons_succ]); (try simp only [List.set_cons_zero]))
                refine wpAnyH_take (i := 3) (oi := { dst := some 173, op := Op.pick (Operand.tmp 171) (Operand.tmp 172) (Operand.const (Value.bool false)), type := 4, pos := "law.go:119", after := #[{ on := 1, ground := Ground.data }, { on := 2, ground := Ground.data }], guard := none }) (v := ?_) rfl (by kernel_rfl) (by kernel_rfl) (by kernel_rfl) (fun _ _ _ h => h) (Or.inl ⟨by rfl, ?_⟩) (by assumption) ?_
                rotate_left
                · (intro w hSw; (try dsimp only at hSw); go_simp; try with_reducible rfl)
                ((try simp only [Act.put]); (try simp only [List.setIfInBounds_toArray]); (try simp only [List.set_cons_succ]); (try simp only [List.set_cons_zero]))
                refine wpAnyH_take (i := 4) (oi := { dst := some 174, op := Op.move (Operand.tmp 173), type := 4, pos := "law.go:119", after := #[{ on := 3, ground := Ground.data }, { on := 1, ground := Ground.chain }], guard := none }) (v := ?_) rfl (by kernel_rfl) (by kernel_rfl) (by kernel_rfl) (fun _ _ _ h => h) (Or.inl ⟨by rfl, ?_⟩) (by assumption) ?_
                rotate_left
                · (intro w hSw; (try dsimp only at hSw); go_simp; try with_reducible rfl)
                ((try simp only [Act.put]); (try simp only [List.setIfInBounds_toArray]); (try simp only [List.set_cons_succ]); (try simp only [List.set_cons_zero]))
                refine wpAnyH_take (i := 5) (oi := { dst := some 175, op := Op.move (Operand.tmp 1), type := 35, pos := "law.go:119", after := #[{ on := 4, ground := Ground.guard }], guard := some (4, true) }) (v := ?_) rfl (by kernel_rfl) (by kernel_rfl) (by kernel_rfl) (fun _ _ _ h => h) (Or.inl ⟨by rfl, ?_⟩) (by assumption) ?_
                rotate_left
                · (intro w hSw; (try dsimp only at hSw); go_simp; try with_reducible rfl)
                ((try simp only [Act.put]); (try simp only [List.setIfInBounds_toArray]); (try simp only [List.set_cons_succ]); (try simp only [List.set_cons_zero]))
                refine wpAnyH_take (i := 6) (oi := { dst := some 176, op := Op.move (Operand.tmp 23), type := 3, pos := "law.go:119", after := #[{ on := 4, ground := Ground.guard }], guard := some (4, true) }) (v := ?_) rfl (by kernel_rfl) (by kernel_rfl) (by kernel_rfl) (fun _ _ _ h => h) (Or.inl ⟨by rfl, ?_⟩) (by assumption) ?_
                rotate_left
                · (intro w hSw; (try dsimp only at hSw); go_simp; try with_reducible rfl)
                ((try simp only [Act.put]); (try simp only [List.setIfInBounds_toArray]); (try simp only [List.set_cons_succ]); (try simp only [List.set_cons_zero]))
                refine wpAnyH_take (i := 7) (oi := { dst := some 177, op := Op.indexAddr 35 (Operand.tmp 175) (Operand.tmp 176), type := 0, pos := "law.go:119", after := #[{ on := 5, ground := Ground.data }, { on := 6, ground := Ground.data }, { on := 4, ground := Ground.guard }], guard := some (4, true) }) (v := ?_) rfl (by kernel_rfl) (by kernel_rfl) (by kernel_rfl) (fun _ _ _ h => h) (Or.inl ⟨by rfl, ?_⟩) (by assumption) ?_
                rotate_left
                · (intro w hSw; (try dsimp only at hSw); go_simp; try with_reducible rfl)
                ((try simp only [Act.put]); (try simp only [List.setIfInBounds_toArray]); (try simp only [List.set_cons_succ]); (try simp only [List.set_cons_zero]))
                refine wpAnyH_take (i := 8) (oi := { dst := some 178, op := Op.load 37 (Operand.tmp 177), type := 37, pos := "law.go:119", after := #[{ on := 7, ground := Ground.data }, { on := 4, ground := Ground.guard }], guard := some (4, true) }) (v := ?_) rfl (by kernel_rfl) (by kernel_rfl) (by kernel_rfl) (fun _ _ _ h => h) (Or.inl ⟨by rfl, ?_⟩) (by assumption) ?_
                rotate_left
                · (intro w hSw; (try dsimp only at hSw); go_simp; try with_reducible rfl)
                ((try simp only [Act.put]); (try simp only [List.setIfInBounds_toArray]); (try simp only [List.set_cons_succ]); (try simp only [List.set_cons_zero]))
                refine wpAnyH_take (i := 9) (oi := { dst := some 179, op := Op.move (Operand.tmp 2), type := 35, pos := "law.go:119", after := #[{ on := 4, ground := Ground.guard }], guard := some (4, true) }) (v := ?_) rfl (by kernel_rfl) (by kernel_rfl) (by kernel_rfl) (fun _ _ _ h => h) (Or.inl ⟨by rfl, ?_⟩) (by assumption) ?_
                rotate_left
                · (intro w hSw; (try dsimp only at hSw); go_simp; try with_reducible rfl)
                ((try simp only [Act.put]); (try simp only [List.setIfInBounds_toArray]); (try simp only [List.set_cons_succ]); (try simp only [List.set_cons_zero]))
                refine wpAnyH_take (i := 10) (oi := { dst := some 180, op := Op.move (Operand.tmp 23), type := 3, pos := "law.go:119", after := #[{ on := 4, ground := Ground.guard }], guard := some (4, true) }) (v := ?_) rfl (by kernel_rfl) (by kernel_rfl) (by kernel_rfl) (fun _ _ _ h => h) (Or.inl ⟨by rfl, ?_⟩) (by assumption) ?_
                rotate_left
                · (intro w hSw; (try dsimp only at hSw); go_simp; try with_reducible rfl)
                ((try simp only [Act.put]); (try simp only [List.setIfInBounds_toArray]); (try simp only [List.set_cons_succ]); (try simp only [List.set_cons_zero]))
                refine wpAnyH_take (i := 11) (oi := { dst := some 181, op := Op.indexAddr 35 (Operand.tmp 179) (Operand.tmp 180), type := 0, pos := "law.go:119", after := #[{ on := 9, ground := Ground.data }, { on := 10, ground := Ground.data }, { on := 4, ground := Ground.guard }], guard := some (4, true) }) (v := ?_) rfl (by kernel_rfl) (by kernel_rfl) (by kernel_rfl) (fun _ _ _ h => h) (Or.inl ⟨by rfl, ?_⟩) (by assumption) ?_
                rotate_left
                · (intro w hSw; (try dsimp only at hSw); go_simp; try with_reducible rfl)
                ((try simp only [Act.put]); (try simp only [List.setIfInBounds_toArray]); (try simp only [List.set_cons_succ]); (try simp only [List.set_cons_zero]))
                refine wpAnyH_take (i := 12) (oi := { dst := some 182, op := Op.load 37 (Operand.tmp 181), type := 37, pos := "law.go:119", after := #[{ on := 11, ground := Ground.data }, { on := 4, ground := Ground.guard }], guard := some (4, true) }) (v := ?_) rfl (by kernel_rfl) (by kernel_rfl) (by kernel_rfl) (fun _ _ _ h => h) (Or.inl ⟨by rfl, ?_⟩) (by assumption) ?_
                rotate_left
                · (intro w hSw; (try dsimp only at hSw); go_simp; try with_reducible rfl)
                ((try simp only [Act.put]); (try simp only [List.setIfInBounds_toArray]); (try simp only [List.set_cons_succ]); (try simp only [List.set_cons_zero]))
                refine wpAnyH_ready (rs := [13]) (by kernel_rfl) (by simp) ?_
                refine AllReadyH.cons (o := { dst := some 183, op := Op.call { callee := Callee.value (Operand.func 24), args := #[Operand.tmp 178, Operand.tmp 182], argTypes := #[37, 37] }, type := 3, pos := "law.go:119", after := #[{ on := 8, ground := Ground.data }, { on := 12, ground := Ground.data }, { on := 4, ground := Ground.chain }, { on := 4, ground := Ground.guard }], guard := some (4, true) }) rfl (fun K hK => ?_) AllReadyH.nil
                go_simp
                refine (rcmp_any (z := cz) (SA7.out.below (Hid.out hHeld.2.2)) (SB8.out.below (Hid.out hHeld.2.2)) HLA.out HLB.out CE.out).mono ?_
                rintro e w5 ⟨rfl, hw⟩
                subst hw
                try go_wp2_with fail
                refine hK.out _ _ ?_ (fun hNew => ?_)
                · exact hHeld
                clear hK K
                replace hHeld := hNew
                clear hNew
                ((try simp only [Act.put]); (try simp only [List.setIfInBounds_toArray]); (try simp only [List.set_cons_succ]); (try simp only [List.set_cons_zero]))
                refine wpAnyH_take (i := 14) (oi := { dst := some 184, op := Op.binOp BinOp.eql 3 (Operand.tmp 183) (Operand.const (Value.int IntKind.i64 0)) 3, type := 4, pos := "law.go:119", after := #[{ on := 13, ground := Ground.data }, { on := 4, ground := Ground.guard }], guard := some (4, true) }) (v := ?_) rfl (by kernel_rfl) (by kernel_rfl) (by kernel_rfl) (fun _ _ _ h => h) (Or.inl ⟨by rfl, ?_⟩) (by assumption) ?_
                rotate_left
                · (intro w hSw; (try dsimp only at hSw); go_simp; try with_reducible rfl)
                ((try simp only [Act.put]); (try simp only [List.setIfInBounds_toArray]); (try simp only [List.set_cons_succ]); (try simp only [List.set_cons_zero]))
                refine wpAnyH_take (i := 15) (oi := { dst := some 185, op := Op.move (Operand.tmp 184), type := 4, pos := "law.go:119", after := #[{ on := 14, ground := Ground.data }, { on := 13, ground := Ground.chain }, { on := 4, ground := Ground.guard }], guard := some (4, true) }) (v := ?_) rfl (by kernel_rfl) (by kernel_rfl) (by kernel_rfl) (fun _ _ _ h => h) (Or.inl ⟨by rfl, ?_⟩) (by assumption) ?_
                rotate_left
                · (intro w hSw; (try dsimp only at hSw); go_simp; try with_reducible rfl)
                ((try simp only [Act.put]); (try simp only [List.setIfInBounds_toArray]); (try simp only [List.set_cons_succ]); (try simp only [List.set_cons_zero]))
                refine wpAnyH_take (i := 16) (oi := { dst := some 186, op := Op.move (Operand.tmp 1), type := 35, pos := "law.go:119", after := #[{ on := 15, ground := Ground.guard }], guard := some (15, false) }) (v := ?_) rfl (by kernel_rfl) (by kernel_rfl) (by kernel_rfl) (fun _ _ _ h => h) (Or.inl ⟨by rfl, ?_⟩) (by assumption) ?_
                rotate_left
                · (intro w hSw; (try dsimp only at hSw); go_simp; try with_reducible rfl)
                ((try simp only [Act.put]); (try simp only [List.setIfInBounds_toArray]); (try simp only [List.set_cons_succ]); (try simp only [List.set_cons_zero]))
                refine wpAnyH_take (i := 17) (oi := { dst := some 187, op := Op.move (Operand.tmp 23), type := 3, pos := "law.go:119", after := #[{ on := 15, ground := Ground.guard }], guard := some (15, false) }) (v := ?_) rfl (by kernel_rfl) (by kernel_rfl) (by kernel_rfl) (fun _ _ _ h => h) (Or.inl ⟨by rfl, ?_⟩) (by assumption) ?_
                rotate_left
                · (intro w hSw; (try dsimp only at hSw); go_simp; try with_reducible rfl)
                ((try simp only [Act.put]); (try simp only [List.setIfInBounds_toArray]); (try simp only [List.set_cons_succ]); (try simp only [List.set_cons_zero]))
                refine wpAnyH_take (i := 18) (oi := { dst := some 188, op := Op.indexAddr 35 (Operand.tmp 186) (Operand.tmp 187), type := 0, pos := "law.go:119", after := #[{ on := 16, ground := Ground.data }, { on := 17, ground := Ground.data }, { on := 15, ground := Ground.guard }], guard := some (15, false) }) (v := ?_) rfl (by kernel_rfl) (by kernel_rfl) (by kernel_rfl) (fun _ _ _ h => h) (Or.inl ⟨by rfl, ?_⟩) (by assumption) ?_
                rotate_left
                · (intro w hSw; (try dsimp only at hSw); go_simp; try with_reducible rfl)
                ((try simp only [Act.put]); (try simp only [List.setIfInBounds_toArray]); (try simp only [List.set_cons_succ]); (try simp only [List.set_cons_zero]))
                refine wpAnyH_take (i := 19) (oi := { dst := some 189, op := Op.load 37 (Operand.tmp 188), type := 37, pos := "law.go:119", after := #[{ on := 18, ground := Ground.data }, { on := 15, ground := Ground.guard }], guard := some (15, false) }) (v := ?_) rfl (by kernel_rfl) (by kernel_rfl) (by kernel_rfl) (fun _ _ _ h => h) (Or.inl ⟨by rfl, ?_⟩) (by assumption) ?_
                rotate_left
                · (intro w hSw; (try dsimp only at hSw); go_simp; try with_reducible rfl)
                ((try simp only [Act.put]); (try simp only [List.setIfInBounds_toArray]); (try simp only [List.set_cons_succ]); (try simp only [List.set_cons_zero]))
                refine wpAnyH_take (i := 20) (oi := { dst := some 190, op := Op.move (Operand.tmp 2), type := 35, pos := "law.go:119", after := #[{ on := 15, ground := Ground.guard }], guard := some (15, false) }) (v := ?_) rfl (by kernel_rfl) (by kernel_rfl) (by kernel_rfl) (fun _ _ _ h => h) (Or.inl ⟨by rfl, ?_⟩) (by assumption) ?_
                rotate_left
                · (intro w hSw; (try dsimp only at hSw); go_simp; try with_reducible rfl)
                ((try simp only [Act.put]); (try simp only [List.setIfInBounds_toArray]); (try simp only [List.set_cons_succ]); (try simp only [List.set_cons_zero]))
                refine wpAnyH_take (i := 21) (oi := { dst := some 191, op := Op.move (Operand.tmp 23), type := 3, pos := "law.go:119", after := #[{ on := 15, ground := Ground.guard }], guard := some (15, false) }) (v := ?_) rfl (by kernel_rfl) (by kernel_rfl) (by kernel_rfl) (fun _ _ _ h => h) (Or.inl ⟨by rfl, ?_⟩) (by assumption) ?_
                rotate_left
                · (intro w hSw; (try dsimp only at hSw); go_simp; try with_reducible rfl)
                ((try simp only [Act.put]); (try simp only [List.setIfInBounds_toArray]); (try simp only [List.set_cons_succ]); (try simp only [List.set_cons_zero]))
                refine wpAnyH_take (i := 22) (oi := { dst := some 192, op := Op.indexAddr 35 (Operand.tmp 190) (Operand.tmp 191), type := 0, pos := "law.go:119", after := #[{ on := 20, ground := Ground.data }, { on := 21, ground := Ground.data }, { on := 15, ground := Ground.guard }], guard := some (15, false) }) (v := ?_) rfl (by kernel_rfl) (by kernel_rfl) (by kernel_rfl) (fun _ _ _ h => h) (Or.inl ⟨by rfl, ?_⟩) (by assumption) ?_
                rotate_left
                · (intro w hSw; (try dsimp only at hSw); go_simp; try with_reducible rfl)
                ((try simp only [Act.put]); (try simp only [List.setIfInBounds_toArray]); (try simp only [List.set_cons_succ]); (try simp only [List.set_cons_zero]))
                refine wpAnyH_take (i := 23) (oi := { dst := some 193, op := Op.load 37 (Operand.tmp 192), type := 37, pos := "law.go:119", after := #[{ on := 22, ground := Ground.data }, { on := 15, ground := Ground.guard }], guard := some (15, false) }) (v := ?_) rfl (by kernel_rfl) (by kernel_rfl) (by kernel_rfl) (fun _ _ _ h => h) (Or.inl ⟨by rfl, ?_⟩) (by assumption) ?_
                rotate_left
                · (intro w hSw; (try dsimp only at hSw); go_simp; try with_reducible rfl)
                ((try simp only [Act.put]); (try simp only [List.setIfInBounds_toArray]); (try simp only [List.set_cons_succ]); (try simp only [List.set_cons_zero]))
                refine wpAnyH_ready (rs := [24]) (by kernel_rfl) (by simp) ?_
                refine AllReadyH.cons (o := { dst := some 194, op := Op.call { callee := Callee.value (Operand.func 24), args := #[Operand.tmp 189, Operand.tmp 193], argTypes := #[37, 37] }, type := 3, pos := "law.go:119", after := #[{ on := 19, ground := Ground.data }, { on := 23, ground := Ground.data }, { on := 15, ground := Ground.chain }, { on := 15, ground := Ground.guard }], guard := some (15, false) }) rfl (fun K hK => ?_) AllReadyH.nil
                go_simp
                refine (rcmp_any (z := cz) (SA7.out.below (Hid.out hHeld.2.2)) (SB8.out.below (Hid.out hHeld.2.2)) HLA.out HLB.out CE.out).mono ?_
                rintro e w5 ⟨rfl, hw⟩
                subst hw
                try go_wp2_with fail
                refine hK.out _ _ ?_ (fun hNew => ?_)
                · exact hHeld
                clear hK K
                replace hHeld := hNew
                clear hNew
                ((try simp only [Act.put]); (try simp only [List.setIfInBounds_toArray]); (try simp only [List.set_cons_succ]); (try simp only [List.set_cons_zero]))
                refine wpAnyH_take (i := 25) (oi := { dst := some 195, op := Op.binOp BinOp.eql 3 (Operand.tmp 194) (Operand.const (Value.int IntKind.i64 (-1))) 3, type := 4, pos := "law.go:119", after := #[{ on := 24, ground := Ground.data }, { on := 15, ground := Ground.guard }], guard := some (15, false) }) (v := ?_) rfl (by kernel_rfl) (by kernel_rfl) (by kernel_rfl) (fun _ _ _ h => h) (Or.inl ⟨by rfl, ?_⟩) (by assumption) ?_
                rotate_left
                · (intro w hSw; (try dsimp only at hSw); go_simp; try with_reducible rfl)
                ((try simp only [Act.put]); (try simp only [List.setIfInBounds_toArray]); (try simp only [List.set_cons_succ]); (try simp only [List.set_cons_zero]))
                refine wpAnyH_take (i := 26) (oi := { dst := some 196, op := Op.pick (Operand.tmp 185) (Operand.const (Value.bool true)) (Operand.tmp 195), type := 4, pos := "law.go:119", after := #[{ on := 15, ground := Ground.data }, { on := 25, ground := Ground.data }, { on := 4, ground := Ground.guard }], guard := some (4, true) }) (v := ?_) rfl (by kernel_rfl) (by kernel_rfl) (by kernel_rfl) (fun _ _ _ h => h) (Or.inl ⟨by rfl, ?_⟩) (by assumption) ?_
                rotate_left
                · (intro w hSw; (try dsimp only at hSw); go_simp; try with_reducible rfl)
                ((try simp only [Act.put]); (try simp only [List.setIfInBounds_toArray]); (try simp only [List.set_cons_succ]); (try simp only [List.set_cons_zero]))
                refine wpAnyH_take (i := 27) (oi := { dst := some 197, op := Op.pick (Operand.tmp 174) (Operand.tmp 196) (Operand.const (Value.bool false)), type := 4, pos := "law.go:119", after := #[{ on := 4, ground := Ground.data }, { on := 26, ground := Ground.data }], guard := none }) (v := ?_) rfl (by kernel_rfl) (by kernel_rfl) (by kernel_rfl) (fun _ _ _ h => h) (Or.inl ⟨by rfl, ?_⟩) (by assumption) ?_
                rotate_left
                · (intro w hSw; (try dsimp only at hSw); go_simp; try with_reducible rfl)
                ((try simp only [Act.put]); (try simp only [List.setIfInBounds_toArray]); (try simp only [List.set_cons_succ]); (try simp only [List.set_cons_zero]))
                refine wpAnyH_take (i := 28) (oi := { dst := some 22, op := Op.assign (Operand.tmp 197), type := 4, pos := "law.go:119", after := #[{ on := 27, ground := Ground.data }, { on := 24, ground := Ground.chain }, { on := 0, ground := Ground.phase }, { on := 1, ground := Ground.phase }, { on := 2, ground := Ground.phase }, { on := 3, ground := Ground.phase }, { on := 4, ground := Ground.phase }, { on := 5, ground := Ground.phase }, { on := 6, ground := Ground.phase }, { on := 7, ground := Ground.phase }, { on := 8, ground := Ground.phase }, { on := 9, ground := Ground.phase }, { on := 10, ground := Ground.phase }, { on := 11, ground := Ground.phase }, { on := 12, ground := Ground.phase }, { on := 13, ground := Ground.phase }, { on := 14, ground := Ground.phase }, { on := 15, ground := Ground.phase }, { on := 16, ground := Ground.phase }, { on := 17, ground := Ground.phase }, { on := 18, ground := Ground.phase }, { on := 19, ground := Ground.phase }, { on := 20, ground := Ground.phase }, { on := 21, ground := Ground.phase }, { on := 22, ground := Ground.phase }, { on := 23, ground := Ground.phase }, { on := 24, ground := Ground.phase }, { on := 25, ground := Ground.phase }, { on := 26, ground := Ground.phase }, { on := 27, ground := Ground.phase }], guard := none }) (v := ?_) rfl (by kernel_rfl) (by kernel_rfl) (by kernel_rfl) (fun _ _ _ h => h) (Or.inl ⟨by rfl, ?_⟩) (by assumption) ?_
                rotate_left
                · (intro w hSw; (try dsimp only at hSw); go_simp; try with_reducible rfl)
                ((try simp only [Act.put]); (try simp only [List.setIfInBounds_toArray]); (try simp only [List.set_cons_succ]); (try simp only [List.set_cons_zero]))
                refine wpAnyH_done (by kernel_rfl) ?_ _
                refine NoPanic.normal ?_
                have IF := Lib.hid (B2.out.trans ((Hid.out hHeld.2.2).mono B2.out.size))
                have OF := Lib.hid (own_below O2.out (Hid.out hHeld.2.2))
                have WE := Lib.hid (show wiK true ma mb (k + 1) = false from by rw [WM.out, WV.out, WB.out]; rfl)
                go_wp2_with fail
                go_roundw
                case rel => exact ⟨k + 1, by have := KK.out; omega, by go_num, by rw [WE.out], OF.out, IF.out⟩
                case measure => simp only [intOf]; omega
        · obtain rfl : k = N := by omega
          have dk : decide ((k : Int) < (k : Int)) = false := decide_eq_false (by omega)
          have S := Lib.hid (ST.out.below HBW.out)
          have S0 := Lib.hid S.out.p.lt
          obtain ⟨AX, hX⟩ := S.out.x
          obtain ⟨AY, hY⟩ := S.out.y
          have X := Lib.hid hX
          have Y := Lib.hid hY
          have B := Lib.hid S.out.b
          clear hX hY S ST
          generalize wiK true ma mb k = wb at *
          have hwb : (wb == wb) = true := beq_self_eq_true wb
          have hvv : ((0 : Int) == (0 : Int)) = true := beq_self_eq_true _
          rw [CK.out] at hO
          have CL := Lib.hid (colM_len GA.out HQ.out)
          generalize hcl : colM (k : Int) ma (q : Int) = cl at *
          have HCL := Lib.hid hcl
          clear hcl
          obtain ⟨-, sa, sc, rfl, hs⟩ := own_sl hO (by rw [← HCL.out]; exact colM_lt S0.out _)
          rw [CL.out]
          have RC := Lib.hid hs
          clear hs hO
          have k0 := X.out.c0
          have k1 := X.out.c1
          go_wp2_with fail
          refine (mat_at (v := 0) X.out.s GA.out HW.out).mono ?_
          rintro e w20 ⟨rfl, hb20⟩
          replace X := Lib.hid (X.out.below hb20)
          replace Y := Lib.hid (Y.out.below hb20)
          replace RC := Lib.hid (RC.out.below hb20)
          replace B := Lib.hid (B.out.trans (hb20.mono B.out.size))
          clear hb20 k0 k1
          have k0 := X.out.c0
          have k1 := X.out.c1
          go_wp2_with fail
          refine (mcol_at (k := k) X.out.s HCL.out CL.out).mono ?_
          rintro e w21 ⟨d21, e21, rfl, hs, hb21⟩
          have R := Lib.hid hs
          replace X := Lib.hid (X.out.below hb21)
          replace Y := Lib.hid (Y.out.below hb21)
          replace RC := Lib.hid (RC.out.below hb21)
          replace B := Lib.hid (B.out.trans (hb21.mono B.out.size))
          clear hs hb21 k0 k1
          go_wp2_with fail
          refine (longs_any (r := true) (n := k) (m := k) R.out RC.out CL.out CL.out (decide_eq_true rfl)).mono ?_
          rintro e w22 ⟨rfl, q22, hw⟩
          have hb22 := drew_b hw
          replace X := Lib.hid (X.out.below hb22)
          replace Y := Lib.hid (Y.out.below hb22)
          replace B := Lib.hid (B.out.trans (hb22.mono B.out.size))
          clear hw hb22 R RC
          have k0 := X.out.c0
          have k1 := X.out.c1
          have k2 := Y.out.c0
          have k3 := Y.out.c1
          go_wp2_with fail
          refine (mwi_at (r := wb) X.out.s Y.out.s WK.out).mono ?_
          rintro e w23 ⟨rfl, hb23⟩
          replace B := Lib.hid (B.out.trans (hb23.mono B.out.size))
          clear hb23
          go_wp2_with fail
          go_ret
          exact ⟨rfl, B.out⟩
    · skip
      have CF := Lib.hid (show colM (N : Int) ma j = [] from if_neg (fun h => hj ⟨h.2.1, h.2.2⟩))
      have xj : (decide (j ≥ 0) = false) ∨ (decide (j ≥ 0) = true ∧ decide (j < (N : Int)) = false) := by
        by_cases h : j ≥ 0
        · exact Or.inr ⟨decide_eq_true h, decide_eq_false (fun h2 => hj ⟨h, h2⟩)⟩
        · exact Or.inl (decide_eq_false h)
      clear hj
      go_loopw [21, 22, 23] (fun c v k wr => ∃ kk : Nat, kk ≤ N ∧ k = .int .i64 (kk : Nat) ∧ v = .bool (wiK true ma mb kk) ∧ c = .slice none 0 0 ∧ Below wc.heap.size wc wr) (fun _ _ k _ => N - (intOf k).toNat)
      case atStart => exact ⟨0, Nat.zero_le _, rfl, by rw [W0.out], rfl, Below.refl _ _⟩
      case round =>
        obtain ⟨k, hk, rfl, rfl, hO, hBW⟩ := hrel
        have HBW := Lib.hid hBW
        clear W0 hBW
        by_cases hlt : k < N
        · obtain ⟨b6, f6, ra6, rc6, eA, hA6, sA6⟩ := ST.out.p.row hlt
          cases eA
          obtain ⟨b7, f7, ra7, rc7, eB, hB7, sB7⟩ := ST.out.q.row (i := k) (by have := LB.out; have := LA.out; have := ST.out.q.len; omega)
          have SB7 := Lib.hid sB7
          have hlb : (mb.getD k []).length = N := (good_len GB.out).2.2.2 k hlt
          rw [hlb] at hB7
          have hm7 : (k : Int) < (m : Int) := by have := LB.out; have := LA.out; have := ST.out.q.len; omega
          clear sB7
          cases eB
          have SA6 := Lib.hid sA6
          have hla : (ma.getD k []).length = N := LR.out k hlt
          rw [hla] at hA6
          have j0 : (0 : Int) ≤ (k : Int) := by omega
          have j1 : (k : Int) < (N : Int) := by omega
          have KK := Lib.hid hlt
          have HLA := Lib.hid hla
          have HLB := Lib.hid hlb
          clear hlb
          subst hO
          clear sA6 hla
          have WM := Lib.hid (wiK_more true ma mb k)
          have WC := Lib.hid (wi_cmp (a := ma.getD k []) (b := mb.getD k []))
          obtain ⟨wb, hwb⟩ : ∃ wb, wb = wiK true ma mb k := ⟨_, rfl⟩
          have WV := Lib.hid hwb.symm
          rw [← hwb]
          clear hwb
          cases wb
          · skip
            rcases xj with x2 | ⟨x2, x3⟩
            all_goals
              as_aux_lemma =>
                have B2 := HBW
                have hA7 := cell_go hA6 B2.out
                have hB8 := cell_go hB7 B2.out
                go_wp2_with fail
                have SA7 := Lib.hid (SA6.out.below B2.out)
                have SB8 := Lib.hid (SB7.out.below B2.out)
                refine wp_region_noPanic ?_
                refine wp_region_held_drew (S := (fun w' => w'.cell? ⟨b6, f6 + k, none⟩ = some (.slice ra6 N rc6) ∧ w'.cell? ⟨b7, f7 + k, none⟩ = some (.slice ra7 N rc7) ∧ Hid (Below wr.heap.size wr w'))) (by kernel_rfl) ?_ (fun hHeld => ?_)
                · exact ⟨hA7, hB8, Lib.hid (drew_below wr)⟩
                refine wpAnyH_take (i := 0) (oi := { dst := some 170, op := Op.move (Operand.tmp 22), type := 4, pos := "law.go:119", after := #[], guard := none }) (v := ?_) rfl (by kernel_rfl) (by kernel_rfl) (by kernel_rfl) (fun _ _ _ h => h) (Or.inl ⟨by rfl, ?_⟩) (by assumption) ?_
                rotate_left
                · (intro w hSw; (try dsimp only at hSw); go_simp; try with_reducible rfl)
                ((try simp only [Act.put]); (try simp only [List.setIfInBounds_toArray]); (try simp only [List.set_cons_succ]); (try simp only [List.set_cons_zero]))
                refine wpAnyH_take (i := 1) (oi := { dst := some 171, op := Op.move (Operand.tmp 170), type := 4, pos := "law.go:119", after := #[{ on := 0, ground := Ground.data }], guard := none }) (v := ?_) rfl (by kernel_rfl) (by kernel_rfl) (by kernel_rfl) (fun _ _ _ h => h) (Or.inl ⟨by rfl, ?_⟩) (by assumption) ?_
                rotate_left
                · (intro w hSw; (try dsimp only at hSw); go_simp; try with_reducible rfl)
                ((try simp only [Act.put]); (try simp only [List.setIfInBounds_toArray]); (try simp only [List.set_cons_succ]); (try simp only [List.set_cons_zero]))
                refine wpAnyH_take (i := 2) (oi := { dst := some 172, op := Op.move (Operand.tmp 16), type := 4, pos := "law.go:119", after := #[{ on := 1, ground := Ground.guard }], guard := some (1, true) }) (v := undef) rfl (by kernel_rfl) (by kernel_rfl) (by kernel_rfl) (fun _ _ _ h => h) (Or.inr ⟨by rfl, rfl⟩) (by assumption) ?_
                ((try simp only [Act.put]); (try simp only [List.setIfInBounds_toArray]); (try simp only [List.set_cons_succ]); (try simp only [List.set_cons_zero]))
                refine wpAnyH_take (i := 3) (oi := { dst := some 173, op := Op.pick (Operand.tmp 171) (Operand.tmp 172) (Operand.const (Value.bool false)), type := 4, pos := "law.go:119", after := #[{ on := 1, ground := Ground.data }, { on := 2, ground := Ground.data }], guard := none }) (v := ?_) rfl (by kernel_rfl) (by kernel_rfl) (by kernel_rfl) (fun _ _ _ h => h) (Or.inl ⟨by rfl, ?_⟩) (by assumption) ?_
                rotate_left
                · (intro w hSw; (try dsimp only at hSw); go_simp; try with_reducible rfl)
                ((try simp only [Act.put]); (try simp only [List.setIfInBounds_toArray]); (try simp only [List.set_cons_succ]); (try simp only [List.set_cons_zero]))
                refine wpAnyH_take (i := 4) (oi := { dst := some 174, op := Op.move (Operand.tmp 173), type := 4, pos := "law.go:119", after := #[{ on := 3, ground := Ground.data }, { on := 1, ground := Ground.chain }], guard := none }) (v := ?_) rfl (by kernel_rfl) (by kernel_rfl) (by kernel_rfl) (fun _ _ _ h => h) (Or.inl ⟨by rfl, ?_⟩) (by assumption) ?_
                rotate_left
                · (intro w hSw; (try dsimp only at hSw); go_simp; try with_reducible rfl)
                ((try simp only [Act.put]); (try simp only [List.setIfInBounds_toArray]); (try simp only [List.set_cons_succ]); (try simp only [List.set_cons_zero]))
                refine wpAnyH_take (i := 5) (oi := { dst := some 175, op := Op.move (Operand.tmp 1), type := 35, pos := "law.go:119", after := #[{ on := 4, ground := Ground.guard }], guard := some (4, true) }) (v := undef) rfl (by kernel_rfl) (by kernel_rfl) (by kernel_rfl) (fun _ _ _ h => h) (Or.inr ⟨by rfl, rfl⟩) (by assumption) ?_
                ((try simp only [Act.put]); (try simp only [List.setIfInBounds_toArray]); (try simp only [List.set_cons_succ]); (try simp only [List.set_cons_zero]))
                refine wpAnyH_take (i := 6) (oi := { dst := some 176, op := Op.move (Operand.tmp 23), type := 3, pos := "law.go:119", after := #[{ on := 4, ground := Ground.guard }], guard := some (4, true) }) (v := undef) rfl (by kernel_rfl) (by kernel_rfl) (by kernel_rfl) (fun _ _ _ h => h) (Or.inr ⟨by rfl, rfl⟩) (by assumption) ?_
                ((try simp only [Act.put]); (try simp only [List.setIfInBounds_toArray]); (try simp only [List.set_cons_succ]); (try simp only [List.set_cons_zero]))
                refine wpAnyH_take (i := 7) (oi := { dst := some 177, op := Op.indexAddr 35 (Operand.tmp 175) (Operand.tmp 176), type := 0, pos := "law.go:119", after := #[{ on := 5, ground := Ground.data }, { on := 6, ground := Ground.data }, { on := 4, ground := Ground.guard }], guard := some (4, true) }) (v := undef) rfl (by kernel_rfl) (by kernel_rfl) (by kernel_rfl) (fun _ _ _ h => h) (Or.inr ⟨by rfl, rfl⟩) (by assumption) ?_
                ((try simp only [Act.put]); (try simp only [List.setIfInBounds_toArray]); (try simp only [List.set_cons_succ]); (try simp only [List.set_cons_zero]))
                refine wpAnyH_take (i := 8) (oi := { dst := some 178, op := Op.load 37 (Operand.tmp 177), type := 37, pos := "law.go:119", after := #[{ on := 7, ground := Ground.data }, { on := 4, ground := Ground.guard }], guard := some (4, true) }) (v := undef) rfl (by kernel_rfl) (by kernel_rfl) (by kernel_rfl) (fun _ _ _ h => h) (Or.inr ⟨by rfl, rfl⟩) (by assumption) ?_
                ((try simp only [Act.put]); (try simp only [List.setIfInBounds_toArray]); (try simp only [List.set_cons_succ]); (try simp only [List.set_cons_zero]))
                refine wpAnyH_take (i := 9) (oi := { dst := some 179, op := Op.move (Operand.tmp 2), type := 35, pos := "law.go:119", after := #[{ on := 4, ground := Ground.guard }], guard := some (4, true) }) (v := undef) rfl (by kernel_rfl) (by kernel_rfl) (by kernel_rfl) (fun _ _ _ h => h) (Or.inr ⟨by rfl, rfl⟩) (by assumption) ?_
                ((try simp only [Act.put]); (try simp only [List.setIfInBounds_toArray]); (try simp only [List.set_cons_succ]); (try simp only [List.set_cons_zero]))
                refine wpAnyH_take (i := 10) (oi := { dst := some 180, op := Op.move (Operand.tmp 23), type := 3, pos := "law.go:119", after := #[{ on := 4, ground := Ground.guard }], guard := some (4, true) }) (v := undef) rfl (by kernel_rfl) (by kernel_rfl) (by kernel_rfl) (fun _ _ _ h => h) (Or.inr ⟨by rfl, rfl⟩) (by assumption) ?_
                ((try simp only [Act.put]); (try simp only [List.setIfInBounds_toArray]); (try simp only [List.set_cons_succ]); (try simp only [List.set_cons_zero]))
                refine wpAnyH_take (i := 11) (oi := { dst := some 181, op := Op.indexAddr 35 (Operand.tmp 179) (Operand.tmp 180), type := 0, pos := "law.go:119", after := #[{ on := 9, ground := Ground.data }, { on := 10, ground := Ground.data }, { on := 4, ground := Ground.guard }], guard := some (4, true) }) (v := undef) rfl (by kernel_rfl) (by kernel_rfl) (by kernel_rfl) (fun _ _ _ h => h) (Or.inr ⟨by rfl, rfl⟩) (by assumption) ?_
                ((try simp only [Act.put]); (try simp only [List.setIfInBounds_toArray]); (try simp only [List.set_cons_succ]); (try simp only [List.set_cons_zero]))
                refine wpAnyH_take (i := 12) (oi := { dst := some 182, op := Op.load 37 (Operand.tmp 181), type := 37, pos := "law.go:119", after := #[{ on := 11, ground := Ground.data }, { on := 4, ground := Ground.guard }], guard := some (4, true) }) (v := undef) rfl (by kernel_rfl) (by kernel_rfl) (by kernel_rfl) (fun _ _ _ h => h) (Or.inr ⟨by rfl, rfl⟩) (by assumption) ?_
                ((try simp only [Act.put]); (try simp only [List.setIfInBounds_toArray]); (try simp only [List.set_cons_succ]); (try simp only [List.set_cons_zero]))
                refine wpAnyH_take (i := 13) (oi := { dst := some 183, op := Op.call { callee := Callee.value (Operand.func 24), args := #[Operand.tmp 178, Operand.tmp 182], argTypes := #[37, 37] }, type := 3, pos := "law.go:119", after := #[{ on := 8, ground := Ground.data }, { on := 12, ground := Ground.data }, { on := 4, ground := Ground.chain }, { on := 4, ground := Ground.guard }], guard := some (4, true) }) (v := undef) rfl (by kernel_rfl) (by kernel_rfl) (by kernel_rfl) (fun _ _ _ h => h) (Or.inr ⟨by rfl, rfl⟩) (by assumption) ?_
                ((try simp only [Act.put]); (try simp only [List.setIfInBounds_toArray]); (try simp only [List.set_cons_succ]); (try simp only [List.set_cons_zero]))
                refine wpAnyH_take (i := 14) (oi := { dst := some 184, op := Op.binOp BinOp.eql 3 (Operand.tmp 183) (Operand.const (Value.int IntKind.i64 0)) 3, type := 4, pos := "law.go:119", after := #[{ on := 13, ground := Ground.data }, { on := 4, ground := Ground.guard }], guard := some (4, true) }) (v := undef) rfl (by kernel_rfl) (by kernel_rfl) (by kernel_rfl) (fun _ _ _ h => h) (Or.inr ⟨by rfl, rfl⟩) (by assumption) ?_
                ((try simp only [Act.put]); (try simp only [List.setIfInBounds_toArray]); (try simp only [List.set_cons_succ]); (try simp only [List.set_cons_zero]))
                refine wpAnyH_take (i := 15) (oi := { dst := some 185, op := Op.move (Operand.tmp 184), type := 4, pos := "law.go:119", after := #[{ on := 14, ground := Ground.data }, { on := 13, ground := Ground.chain }, { on := 4, ground := Ground.guard }], guard := some (4, true) }) (v := undef) rfl (by kernel_rfl) (by kernel_rfl) (by kernel_rfl) (fun _ _ _ h => h) (Or.inr ⟨by rfl, rfl⟩) (by assumption) ?_
                ((try simp only [Act.put]); (try simp only [List.setIfInBounds_toArray]); (try simp only [List.set_cons_succ]); (try simp only [List.set_cons_zero]))
                refine wpAnyH_take (i := 16) (oi := { dst := some 186, op := Op.move (Operand.tmp 1), type := 35, pos := "law.go:119", after := #[{ on := 15, ground := Ground.guard }], guard := some (15, false) }) (v := undef) rfl (by kernel_rfl) (by kernel_rfl) (by kernel_rfl) (fun _ _ _ h => h) (Or.inr ⟨by rfl, rfl⟩) (by assumption) ?_
                ((try simp only [Act.put]); (try simp only [List.setIfInBounds_toArray]); (try simp only [List.set_cons_succ]); (try simp only [List.set_cons_zero]))
                refine wpAnyH_take (i := 17) (oi := { dst := some 187, op := Op.move (Operand.tmp 23), type := 3, pos := "law.go:119", after := #[{ on := 15, ground := Ground.guard }], guard := some (15, false) }) (v := undef) rfl (by kernel_rfl) (by kernel_rfl) (by kernel_rfl) (fun _ _ _ h => h) (Or.inr ⟨by rfl, rfl⟩) (by assumption) ?_
                ((try simp only [Act.put]); (try simp only [List.setIfInBounds_toArray]); (try simp only [List.set_cons_succ]); (try simp only [List.set_cons_zero]))
                refine wpAnyH_take (i := 18) (oi := { dst := some 188, op := Op.indexAddr 35 (Operand.tmp 186) (Operand.tmp 187), type := 0, pos := "law.go:119", after := #[{ on := 16, ground := Ground.data }, { on := 17, ground := Ground.data }, { on := 15, ground := Ground.guard }], guard := some (15, false) }) (v := undef) rfl (by kernel_rfl) (by kernel_rfl) (by kernel_rfl) (fun _ _ _ h => h) (Or.inr ⟨by rfl, rfl⟩) (by assumption) ?_
                ((try simp only [Act.put]); (try simp only [List.setIfInBounds_toArray]); (try simp only [List.set_cons_succ]); (try simp only [List.set_cons_zero]))
                refine wpAnyH_take (i := 19) (oi := { dst := some 189, op := Op.load 37 (Operand.tmp 188), type := 37, pos := "law.go:119", after := #[{ on := 18, ground := Ground.data }, { on := 15, ground := Ground.guard }], guard := some (15, false) }) (v := undef) rfl (by kernel_rfl) (by kernel_rfl) (by kernel_rfl) (fun _ _ _ h => h) (Or.inr ⟨by rfl, rfl⟩) (by assumption) ?_
                ((try simp only [Act.put]); (try simp only [List.setIfInBounds_toArray]); (try simp only [List.set_cons_succ]); (try simp only [List.set_cons_zero]))
                refine wpAnyH_take (i := 20) (oi := { dst := some 190, op := Op.move (Operand.tmp 2), type := 35, pos := "law.go:119", after := #[{ on := 15, ground := Ground.guard }], guard := some (15, false) }) (v := undef) rfl (by kernel_rfl) (by kernel_rfl) (by kernel_rfl) (fun _ _ _ h => h) (Or.inr ⟨by rfl, rfl⟩) (by assumption) ?_
                ((try simp only [Act.put]); (try simp only [List.setIfInBounds_toArray]); (try simp only [List.set_cons_succ]); (try simp only [List.set_cons_zero]))
                refine wpAnyH_take (i := 21) (oi := { dst := some 191, op := Op.move (Operand.tmp 23), type := 3, pos := "law.go:119", after := #[{ on := 15, ground := Ground.guard }], guard := some (15, false) }) (v := undef) rfl (by kernel_rfl) (by kernel_rfl) (by kernel_rfl) (fun _ _ _ h => h) (Or.inr ⟨by rfl, rfl⟩) (by assumption) ?_
                ((try simp only [Act.put]); (try simp only [List.setIfInBounds_toArray]); (try simp only [List.set_cons_succ]); (try simp only [List.set_cons_zero]))
                refine wpAnyH_take (i := 22) (oi := { dst := some 192, op := Op.indexAddr 35 (Operand.tmp 190) (Operand.tmp 191), type := 0, pos := "law.go:119", after := #[{ on := 20, ground := Ground.data }, { on := 21, ground := Ground.data }, { on := 15, ground := Ground.guard }], guard := some (15, false) }) (v := undef) rfl (by kernel_rfl) (by kernel_rfl) (by kernel_rfl) (fun _ _ _ h => h) (Or.inr ⟨by rfl, rfl⟩) (by assumption) ?_
                ((try simp only [Act.put]); (try simp only [List.setIfInBounds_toArray]); (try simp only [List.set_cons_succ]); (try simp only [List.set_cons_zero]))
                refine wpAnyH_take (i := 23) (oi := { dst := some 193, op := Op.load 37 (Operand.tmp 192), type := 37, pos := "law.go:119", after := #[{ on := 22, ground := Ground.data }, { on := 15, ground := Ground.guard }], guard := some (15, false) }) (v := undef) rfl (by kernel_rfl) (by kernel_rfl) (by kernel_rfl) (fun _ _ _ h => h) (Or.inr ⟨by rfl, rfl⟩) (by assumption) ?_
                ((try simp only [Act.put]); (try simp only [List.setIfInBounds_toArray]); (try simp only [List.set_cons_succ]); (try simp only [List.set_cons_zero]))
                refine wpAnyH_take (i := 24) (oi := { dst := some 194, op := Op.call { callee := Callee.value (Operand.func 24), args := #[Operand.tmp 189, Operand.tmp 193], argTypes := #[37, 37] }, type := 3, pos := "law.go:119", after := #[{ on := 19, ground := Ground.data }, { on := 23, ground := Ground.data }, { on := 15, ground := Ground.chain }, { on := 15, ground := Ground.guard }], guard := some (15, false) }) (v := undef) rfl (by kernel_rfl) (by kernel_rfl) (by kernel_rfl) (fun _ _ _ h => h) (Or.inr ⟨by rfl, rfl⟩) (by assumption) ?_
                ((try simp only [Act.put]); (try simp only [List.setIfInBounds_toArray]); (try simp only [List.set_cons_succ]); (try simp only [List.set_cons_zero]))
                refine wpAnyH_take (i := 25) (oi := { dst := some 195, op := Op.binOp BinOp.eql 3 (Operand.tmp 194) (Operand.const (Value.int IntKind.i64 (-1))) 3, type := 4, pos := "law.go:119", after := #[{ on := 24, ground := Ground.data }, { on := 15, ground := Ground.guard }], guard := some (15, false) }) (v := undef) rfl (by kernel_rfl) (by kernel_rfl) (by kernel_rfl) (fun _ _ _ h => h) (Or.inr ⟨by rfl, rfl⟩) (by assumption) ?_
                ((try simp only [Act.put]); (try simp only [List.setIfInBounds_toArray]); (try simp only [List.set_cons_succ]); (try simp only [List.set_cons_zero]))
                refine wpAnyH_take (i := 26) (oi := { dst := some 196, op := Op.pick (Operand.tmp 185) (Operand.const (Value.bool true)) (Operand.tmp 195), type := 4, pos := "law.go:119", after := #[{ on := 15, ground := Ground.data }, { on := 25, ground := Ground.data }, { on := 4, ground := Ground.guard }], guard := some (4, true) }) (v := undef) rfl (by kernel_rfl) (by kernel_rfl) (by kernel_rfl) (fun _ _ _ h => h) (Or.inr ⟨by rfl, rfl⟩) (by assumption) ?_
                ((try simp only [Act.put]); (try simp only [List.setIfInBounds_toArray]); (try simp only [List.set_cons_succ]); (try simp only [List.set_cons_zero]))
                refine wpAnyH_take (i := 27) (oi := { dst := some 197, op := Op.pick (Operand.tmp 174) (Operand.tmp 196) (Operand.const (Value.bool false)), type := 4, pos := "law.go:119", after := #[{ on := 4, ground := Ground.data }, { on := 26, ground := Ground.data }], guard := none }) (v := ?_) rfl (by kernel_rfl) (by kernel_rfl) (by kernel_rfl) (fun _ _ _ h => h) (Or.inl ⟨by rfl, ?_⟩) (by assumption) ?_
                rotate_left
                · (intro w hSw; (try dsimp only at hSw); go_simp; try with_reducible rfl)
                ((try simp only [Act.put]); (try simp only [List.setIfInBounds_toArray]); (try simp only [List.set_cons_succ]); (try simp only [List.set_cons_zero]))
                refine wpAnyH_take (i := 28) (oi := { dst := some 22, op := Op.assign (Operand.tmp 197), type := 4, pos := "law.go:119", after := #[{ on := 27, ground := Ground.data }, { on := 24, ground := Ground.chain }, { on := 0, ground := Ground.phase }, { on := 1, ground := Ground.phase }, { on := 2, ground := Ground.phase }, { on := 3, ground := Ground.phase }, { on := 4, ground := Ground.phase }, { on := 5, ground := Ground.phase }, { on := 6, ground := Ground.phase }, { on := 7, ground := Ground.phase }, { on := 8, ground := Ground.phase }, { on := 9, ground := Ground.phase }, { on := 10, ground := Ground.phase }, { on := 11, ground := Ground.phase }, { on := 12, ground := Ground.phase }, { on := 13, ground := Ground.phase }, { on := 14, ground := Ground.phase }, { on := 15, ground := Ground.phase }, { on := 16, ground := Ground.phase }, { on := 17, ground := Ground.phase }, { on := 18, ground := Ground.phase }, { on := 19, ground := Ground.phase }, { on := 20, ground := Ground.phase }, { on := 21, ground := Ground.phase }, { on := 22, ground := Ground.phase }, { on := 23, ground := Ground.phase }, { on := 24, ground := Ground.phase }, { on := 25, ground := Ground.phase }, { on := 26, ground := Ground.phase }, { on := 27, ground := Ground.phase }], guard := none }) (v := ?_) rfl (by kernel_rfl) (by kernel_rfl) (by kernel_rfl) (fun _ _ _ h => h) (Or.inl ⟨by rfl, ?_⟩) (by assumption) ?_
                rotate_left
                · (intro w hSw; (try dsimp only at hSw); go_simp; try with_reducible rfl)
                ((try simp only [Act.put]); (try simp only [List.setIfInBounds_toArray]); (try simp only [List.set_cons_succ]); (try simp only [List.set_cons_zero]))
                refine wpAnyH_done (by kernel_rfl) ?_ _
                refine NoPanic.normal ?_
                have IF := Lib.hid (B2.out.trans ((Hid.out hHeld.2.2).mono B2.out.size))
                have WE := Lib.hid (show wiK true ma mb (k + 1) = false from by rw [WM.out, WV.out]; rfl)
                go_wp2_with fail
                go_roundw
                case rel => exact ⟨k + 1, by have := KK.out; omega, by go_num, by rw [WE.out], rfl, IF.out⟩
                case measure => simp only [intOf]; omega
          · rcases WC.out with ⟨hc, hw⟩ | ⟨hc, hw⟩ | ⟨hc, hc2, hw⟩
            · have CE := Lib.hid hc
              have WB := Lib.hid hw
              clear hc hw
              rcases xj with x2 | ⟨x2, x3⟩
              all_goals
                as_aux_lemma =>
                  have B2 := HBW
                  have hA7 := cell_go hA6 B2.out
                  have hB8 := cell_go hB7 B2.out
                  go_wp2_with fail
                  have SA7 := Lib.hid (SA6.out.below B2.out)
                  have SB8 := Lib.hid (SB7.out.below B2.out)
                  refine wp_region_noPanic ?_
                  refine wp_region_held_drew (S := (fun w' => w'.cell? ⟨b6, f6 + k, none⟩ = some (.slice ra6 N rc6) ∧ w'.cell? ⟨b7, f7 + k, none⟩ = some (.slice ra7 N rc7) ∧ Hid (Below wr.heap.size wr w'))) (by kernel_rfl) ?_ (fun hHeld => ?_)
                  · exact ⟨hA7, hB8, Lib.hid (drew_below wr)⟩
                  refine wpAnyH_take (i := 0) (oi := { dst := some 170, op := Op.move (Operand.tmp 22), type := 4, pos := "law.go:119", after := #[], guard := none }) (v := ?_) rfl (by kernel_rfl) (by kernel_rfl) (by kernel_rfl) (fun _ _ _ h => h) (Or.inl ⟨by rfl, ?_⟩) (by assumption) ?_
                  rotate_left
                  · (intro w hSw; (try dsimp only at hSw); go_simp; try with_reducible rfl)
                  ((try simp only [Act.put]); (try simp only [List.setIfInBounds_toArray]); (try simp only [List.set_cons_succ]); (try simp only [List.set_cons_zero]))
                  refine wpAnyH_take (i := 1) (oi := { dst := some 171, op := Op.move (Operand.tmp 170), type := 4, pos := "law.go:119", after := #[{ on := 0, ground := Ground.data }], guard := none }) (v := ?_) rfl (by kernel_rfl) (by kernel_rfl) (by kernel_rfl) (fun _ _ _ h => h) (Or.inl ⟨by rfl, ?_⟩) (by assumption) ?_
                  rotate_left
                  · (intro w hSw; (try dsimp only at hSw); go_simp; try with_reducible rfl)
                  ((try simp only [Act.put]); (try simp only [List.setIfInBounds_toArray]); (try simp only [List.set_cons_succ]); (try simp only [List.set_cons_zero]))
                  refine wpAnyH_take (i := 2) (oi := { dst := some 172, op := Op.move (Operand.tmp 16), type := 4, pos := "law.go:119", after := #[{ on := 1, ground := Ground.guard }], guard := some (1, true) }) (v := ?_) rfl (by kernel_rfl) (by kernel_rfl) (by kernel_rfl) (fun _ _ _ h => h) (Or.inl ⟨by rfl, ?_⟩) (by assumption) ?_
                  rotate_left
                  · (intro w hSw; (try dsimp only at hSw); go_simp; try with_reducible rfl)
                  ((try simp only [Act.put]); (try simp only [List.setIfInBounds_toArray]); (try simp only [List.set_cons_succ]); (try simp only [List.set_cons_zero]))
                  refine wpAnyH_take (i := 3) (oi := { dst := some 173, op := Op.pick (Operand.tmp 171) (Operand.tmp 172) (Operand.const (Value.bool false)), type := 4, pos := "law.go:119", after := #[{ on := 1, ground := Ground.data }, { on := 2, ground := Ground.data }], guard := none }) (v := ?_) rfl (by kernel_rfl) (by kernel_rfl) (by kernel_rfl) (fun _ _ _ h => h) (Or.inl ⟨by rfl, ?_⟩) (by assumption) ?_
                  rotate_left
                  · (intro w hSw; (try dsimp only at hSw); go_simp; try with_reducible rfl)
                  ((try simp only [Act.put]); (try simp only [List.setIfInBounds_toArray]); (try simp only [List.set_cons_succ]); (try simp only [List.set_cons_zero]))
                  refine wpAnyH_take (i := 4) (oi := { dst := some 174, op := Op.move (Operand.tmp 173), type := 4, pos := "law.go:119", after := #[{ on := 3, ground := Ground.data }, { on := 1, ground := Ground.chain }], guard := none }) (v := ?_) rfl (by kernel_rfl) (by kernel_rfl) (by kernel_rfl) (fun _ _ _ h => h) (Or.inl ⟨by rfl, ?_⟩) (by assumption) ?_
                  rotate_left
                  · (intro w hSw; (try dsimp only at hSw); go_simp; try with_reducible rfl)
                  ((try simp only [Act.put]); (try simp only [List.setIfInBounds_toArray]); (try simp only [List.set_cons_succ]); (try simp only [List.set_cons_zero]))
                  refine wpAnyH_take (i := 5) (oi := { dst := some 175, op := Op.move (Operand.tmp 1), type := 35, pos := "law.go:119", after := #[{ on := 4, ground := Ground.guard }], guard := some (4, true) }) (v := ?_) rfl (by kernel_rfl) (by kernel_rfl) (by kernel_rfl) (fun _ _ _ h => h) (Or.inl ⟨by rfl, ?_⟩) (by assumption) ?_
                  rotate_left
                  · (intro w hSw; (try dsimp only at hSw); go_simp; try with_reducible rfl)
                  ((try simp only [Act.put]); (try simp only [List.setIfInBounds_toArray]); (try simp only [List.set_cons_succ]); (try simp only [List.set_cons_zero]))
                  refine wpAnyH_take (i := 6) (oi := { dst := some 176, op := Op.move (Operand.tmp 23), type := 3, pos := "law.go:119", after := #[{ on := 4, ground := Ground.guard }], guard := some (4, true) }) (v := ?_) rfl (by kernel_rfl) (by kernel_rfl) (by kernel_rfl) (fun _ _ _ h => h) (Or.inl ⟨by rfl, ?_⟩) (by assumption) ?_
                  rotate_left
                  · (intro w hSw; (try dsimp only at hSw); go_simp; try with_reducible rfl)
                  ((try simp only [Act.put]); (try simp only [List.setIfInBounds_toArray]); (try simp only [List.set_cons_succ]); (try simp only [List.set_cons_zero]))
                  refine wpAnyH_take (i := 7) (oi := { dst := some 177, op := Op.indexAddr 35 (Operand.tmp 175) (Operand.tmp 176), type := 0, pos := "law.go:119", after := #[{ on := 5, ground := Ground.data }, { on := 6, ground := Ground.data }, { on := 4, ground := Ground.guard }], guard := some (4, true) }) (v := ?_) rfl (by kernel_rfl) (by kernel_rfl) (by kernel_rfl) (fun _ _ _ h => h) (Or.inl ⟨by rfl, ?_⟩) (by assumption) ?_
                  rotate_left
                  · (intro w hSw; (try dsimp only at hSw); go_simp; try with_reducible rfl)
                  ((try simp only [Act.put]); (try simp only [List.setIfInBounds_toArray]); (try simp only [List.set_cons_succ]); (try simp only [List.set_cons_zero]))
                  refine wpAnyH_take (i := 8) (oi := { dst := some 178, op := Op.load 37 (Operand.tmp 177), type := 37, pos := "law.go:119", after := #[{ on := 7, ground := Ground.data }, { on := 4, ground := Ground.guard }], guard := some (4, true) }) (v := ?_) rfl (by kernel_rfl) (by kernel_rfl) (by kernel_rfl) (fun _ _ _ h => h) (Or.inl ⟨by rfl, ?_⟩) (by assumption) ?_
                  rotate_left
                  · (intro w hSw; (try dsimp only at hSw); go_simp; try with_reducible rfl)
                  ((try simp only [Act.put]); (try simp only [List.setIfInBounds_toArray]); (try simp only [List.set_cons_succ]); (try simp only [List.set_cons_zero]))
                  refine wpAnyH_take (i := 9) (oi := { dst := some 179, op := Op.move (Operand.tmp 2), type := 35, pos := "law.go:119", after := #[{ on := 4, ground := Ground.guard }], guard := some (4, true) }) (v := ?_) rfl (by kernel_rfl) (by kernel_rfl) (by kernel_rfl) (fun _ _ _ h => h) (Or.inl ⟨by rfl, ?_⟩) (by assumption) ?_
                  rotate_left
                  · (intro w hSw; (try dsimp only at hSw); go_simp; try with_reducible rfl)
                  ((try simp only [Act.put]); (try simp only [List.setIfInBounds_toArray]); (try simp only [List.set_cons_succ]); (try simp only [List.set_cons_zero]))
                  refine wpAnyH_take (i := 10) (oi := { dst := some 180, op := Op.move (Operand.tmp 23), type := 3, pos := "law.go:119", after := #[{ on := 4, ground := Ground.guard }], guard := some (4, true) }) (v := ?_) rfl (by kernel_rfl) (by kernel_rfl) (by kernel_rfl) (fun _ _ _ h => h) (Or.inl ⟨by rfl, ?_⟩) (by assumption) ?_
                  rotate_left
                  · (intro w hSw; (try dsimp only at hSw); go_simp; try with_reducible rfl)
                  ((try simp only [Act.put]); (try simp only [List.setIfInBounds_toArray]); (try simp only [List.set_cons_succ]); (try simp only [List.set_cons_zero]))
                  refine wpAnyH_take (i := 11) (oi := { dst := some 181, op := Op.indexAddr 35 (Operand.tmp 179) (Operand.tmp 180), type := 0, pos := "law.go:119", after := #[{ on := 9, ground := Ground.data }, { on := 10, ground := Ground.data }, { on := 4, ground := Ground.guard }], guard := some (4, true) }) (v := ?_) rfl (by kernel_rfl) (by kernel_rfl) (by kernel_rfl) (fun _ _ _ h => h) (Or.inl ⟨by rfl, ?_⟩) (by assumption) ?_
                  rotate_left
                  · (intro w hSw; (try dsimp only at hSw); go_simp; try with_reducible rfl)
                  ((try simp only [Act.put]); (try simp only [List.setIfInBounds_toArray]); (try simp only [List.set_cons_succ]); (try simp only [List.set_cons_zero]))
                  refine wpAnyH_take (i := 12) (oi := { dst := some 182, op := Op.load 37 (Operand.tmp 181), type := 37, pos := "law.go:119", after := #[{ on := 11, ground := Ground.data }, { on := 4, ground := Ground.guard }], guard := some (4, true) }) (v := ?_) rfl (by kernel_rfl) (by kernel_rfl) (by kernel_rfl) (fun _ _ _ h => h) (Or.inl ⟨by rfl, ?_⟩) (by assumption) ?_
                  rotate_left
                  · (intro w hSw; (try dsimp only at hSw); go_simp; try with_reducible rfl)
                  ((try simp only [Act.put]); (try simp only [List.setIfInBounds_toArray]); (try simp only [List.set_cons_succ]); (try simp only [List.set_cons_zero]))
                  refine wpAnyH_ready (rs := [13]) (by kernel_rfl) (by simp) ?_
                  refine AllReadyH.cons (o := { dst := some 183, op := Op.call { callee := Callee.value (Operand.func 24), args := #[Operand.tmp 178, Operand.tmp 182], argTypes := #[37, 37] }, type := 3, pos := "law.go:119", after := #[{ on := 8, ground := Ground.data }, { on := 12, ground := Ground.data }, { on := 4, ground := Ground.chain }, { on := 4, ground := Ground.guard }], guard := some (4, true) }) rfl (fun K hK => ?_) AllReadyH.nil
                  go_simp
                  refine (rcmp_any (z := 0) (SA7.out.below (Hid.out hHeld.2.2)) (SB8.out.below (Hid.out hHeld.2.2)) HLA.out HLB.out CE.out).mono ?_
                  rintro e w5 ⟨rfl, hw⟩
                  subst hw
                  try go_wp2_with fail
                  refine hK.out _ _ ?_ (fun hNew => ?_)
                  · exact hHeld
                  clear hK K
                  replace hHeld := hNew
                  clear hNew
                  ((try simp only [Act.put]); (try simp only [List.setIfInBounds_toArray]); (try simp only [List.set_cons_succ]); (try simp only [List.set_cons_zero]))
                  refine wpAnyH_take (i := 14) (oi := { dst := some 184, op := Op.binOp BinOp.eql 3 (Operand.tmp 183) (Operand.const (Value.int IntKind.i64 0)) 3, type := 4, pos := "law.go:119", after := #[{ on := 13, ground := Ground.data }, { on := 4, ground := Ground.guard }], guard := some (4, true) }) (v := ?_) rfl (by kernel_rfl) (by kernel_rfl) (by kernel_rfl) (fun _ _ _ h => h) (Or.inl ⟨by rfl, ?_⟩) (by assumption) ?_
                  rotate_left
                  · (intro w hSw; (try dsimp only at hSw); go_simp; try with_reducible rfl)
                  ((try simp only [Act.put]); (try simp only [List.setIfInBounds_toArray]); (try simp only [List.set_cons_succ]); (try simp only [List.set_cons_zero]))
                  refine wpAnyH_take (i := 15) (oi := { dst := some 185, op := Op.move (Operand.tmp 184), type := 4, pos := "law.go:119", after := #[{ on := 14, ground := Ground.data }, { on := 13, ground := Ground.chain }, { on := 4, ground := Ground.guard }], guard := some (4, true) }) (v := ?_) rfl (by kernel_rfl) (by kernel_rfl) (by kernel_rfl) (fun _ _ _ h => h) (Or.inl ⟨by rfl, ?_⟩) (by assumption) ?_
                  rotate_left
                  · (intro w hSw; (try dsimp only at hSw); go_simp; try with_reducible rfl)
                  ((try simp only [Act.put]); (try simp only [List.setIfInBounds_toArray]); (try simp only [List.set_cons_succ]); (try simp only [List.set_cons_zero]))
                  refine wpAnyH_take (i := 16) (oi := { dst := some 186, op := Op.move (Operand.tmp 1), type := 35, pos := "law.go:119", after := #[{ on := 15, ground := Ground.guard }], guard := some (15, false) }) (v := undef) rfl (by kernel_rfl) (by kernel_rfl) (by kernel_rfl) (fun _ _ _ h => h) (Or.inr ⟨by rfl, rfl⟩) (by assumption) ?_
                  ((try simp only [Act.put]); (try simp only [List.setIfInBounds_toArray]); (try simp only [List.set_cons_succ]); (try simp only [List.set_cons_zero]))
                  refine wpAnyH_take (i := 17) (oi := { dst := some 187, op := Op.move (Operand.tmp 23), type := 3, pos := "law.go:119", after := #[{ on := 15, ground := Ground.guard }], guard := some (15, false) }) (v := undef) rfl (by kernel_rfl) (by kernel_rfl) (by kernel_rfl) (fun _ _ _ h => h) (Or.inr ⟨by rfl, rfl⟩) (by assumption) ?_
                  ((try simp only [Act.put]); (try simp only [List.setIfInBounds_toArray]); (try simp only [List.set_cons_succ]); (try simp only [List.set_cons_zero]))
                  refine wpAnyH_take (i := 18) (oi := { dst := some 188, op := Op.indexAddr 35 (Operand.tmp 186) (Operand.tmp 187), type := 0, pos := "law.go:119", after := #[{ on := 16, ground := Ground.data }, { on := 17, ground := Ground.data }, { on := 15, ground := Ground.guard }], guard := some (15, false) }) (v := undef) rfl (by kernel_rfl) (by kernel_rfl) (by kernel_rfl) (fun _ _ _ h => h) (Or.inr ⟨by rfl, rfl⟩) (by assumption) ?_
                  ((try simp only [Act.put]); (try simp only [List.setIfInBounds_toArray]); (try simp only [List.set_cons_succ]); (try simp only [List.set_cons_zero]))
                  refine wpAnyH_take (i := 19) (oi := { dst := some 189, op := Op.load 37 (Operand.tmp 188), type := 37, pos := "law.go:119", after := #[{ on := 18, ground := Ground.data }, { on := 15, ground := Ground.guard }], guard := some (15, false) }) (v := undef) rfl (by kernel_rfl) (by kernel_rfl) (by kernel_rfl) (fun _ _ _ h => h) (Or.inr ⟨by rfl, rfl⟩) (by assumption) ?_
                  ((try simp only [Act.put]); (try simp only [List.setIfInBounds_toArray]); (try simp only [List.set_cons_succ]); (try simp only [List.set_cons_zero]))
                  refine wpAnyH_take (i := 20) (oi := { dst := some 190, op := Op.move (Operand.tmp 2), type := 35, pos := "law.go:119", after := #[{ on := 15, ground := Ground.guard }], guard := some (15, false) }) (v := undef) rfl (by kernel_rfl) (by kernel_rfl) (by kernel_rfl) (fun _ _ _ h => h) (Or.inr ⟨by rfl, rfl⟩) (by assumption) ?_
                  ((try simp only [Act.put]); (try simp only [List.setIfInBounds_toArray]); (try simp only [List.set_cons_succ]); (try simp only [List.set_cons_zero]))
                  refine wpAnyH_take (i := 21) (oi := { dst := some 191, op := Op.move (Operand.tmp 23), type := 3, pos := "law.go:119", after := #[{ on := 15, ground := Ground.guard }], guard := some (15, false) }) (v := undef) rfl (by kernel_rfl) (by kernel_rfl) (by kernel_rfl) (fun _ _ _ h => h) (Or.inr ⟨by rfl, rfl⟩) (by assumption) ?_
                  ((try simp only [Act.put]); (try simp only [List.setIfInBounds_toArray]); (try simp only [List.set_cons_succ]); (try simp only [List.set_cons_zero]))
                  refine wpAnyH_take (i := 22) (oi := { dst := some 192, op := Op.indexAddr 35 (Operand.tmp 190) (Operand.tmp 191), type := 0, pos := "law.go:119", after := #[{ on := 20, ground := Ground.data }, { on := 21, ground := Ground.data }, { on := 15, ground := Ground.guard }], guard := some (15, false) }) (v := undef) rfl (by kernel_rfl) (by kernel_rfl) (by kernel_rfl) (fun _ _ _ h => h) (Or.inr ⟨by rfl, rfl⟩) (by assumption) ?_
                  ((try simp only [Act.put]); (try simp only [List.setIfInBounds_toArray]); (try simp only [List.set_cons_succ]); (try simp only [List.set_cons_zero]))
                  refine wpAnyH_take (i := 23) (oi := { dst := some 193, op := Op.load 37 (Operand.tmp 192), type := 37, pos := "law.go:119", after := #[{ on := 22, ground := Ground.data }, { on := 15, ground := Ground.guard }], guard := some (15, false) }) (v := undef) rfl (by kernel_rfl) (by kernel_rfl) (by kernel_rfl) (fun _ _ _ h => h) (Or.inr ⟨by rfl, rfl⟩) (by assumption) ?_
                  ((try simp only [Act.put]); (try simp only [List.setIfInBounds_toArray]); (try simp only [List.set_cons_succ]); (try simp only [List.set_cons_zero]))
                  refine wpAnyH_take (i := 24) (oi := { dst := some 194, op := Op.call { callee := Callee.value (Operand.func 24), args := #[Operand.tmp 189, Operand.tmp 193], argTypes := #[37, 37] }, type := 3, pos := "law.go:119", after := #[{ on := 19, ground := Ground.data }, { on := 23, ground := Ground.data }, { on := 15, ground := Ground.chain }, { on := 15, ground := Ground.guard }], guard := some (15, false) }) (v := undef) rfl (by kernel_rfl) (by kernel_rfl) (by kernel_rfl) (fun _ _ _ h => h) (Or.inr ⟨by rfl, rfl⟩) (by assumption) ?_
                  ((try simp only [Act.put]); (try simp only [List.setIfInBounds_toArray]); (try simp only [List.set_cons_succ]); (try simp only [List.set_cons_zero]))
                  refine wpAnyH_take (i := 25) (oi := { dst := some 195, op := Op.binOp BinOp.eql 3 (Operand.tmp 194) (Operand.const (Value.int IntKind.i64 (-1))) 3, type := 4, pos := "law.go:119", after := #[{ on := 24, ground := Ground.data }, { on := 15, ground := Ground.guard }], guard := some (15, false) }) (v := undef) rfl (by kernel_rfl) (by kernel_rfl) (by kernel_rfl) (fun _ _ _ h => h) (Or.inr ⟨by rfl, rfl⟩) (by assumption) ?_
                  ((try simp only [Act.put]); (try simp only [List.setIfInBounds_toArray]); (try simp only [List.set_cons_succ]); (try simp only [List.set_cons_zero]))
                  refine wpAnyH_take (i := 26) (oi := { dst := some 196, op := Op.pick (Operand.tmp 185) (Operand.const (Value.bool true)) (Operand.tmp 195), type := 4, pos := "law.go:119", after := #[{ on := 15, ground := Ground.data }, { on := 25, ground := Ground.data }, { on := 4, ground := Ground.guard }], guard := some (4, true) }) (v := ?_) rfl (by kernel_rfl) (by kernel_rfl) (by kernel_rfl) (fun _ _ _ h => h) (Or.inl ⟨by rfl, ?_⟩) (by assumption) ?_
                  rotate_left
                  · (intro w hSw; (try dsimp only at hSw); go_simp; try with_reducible rfl)
                  ((try simp only [Act.put]); (try simp only [List.setIfInBounds_toArray]); (try simp only [List.set_cons_succ]); (try simp only [List.set_cons_zero]))
                  refine wpAnyH_take (i := 27) (oi := { dst := some 197, op := Op.pick (Operand.tmp 174) (Operand.tmp 196) (Operand.const (Value.bool false)), type := 4, pos := "law.go:119", after := #[{ on := 4, ground := Ground.data }, { on := 26, ground := Ground.data }], guard := none }) (v := ?_) rfl (by kernel_rfl) (by kernel_rfl) (by kernel_rfl) (fun _ _ _ h => h) (Or.inl ⟨by rfl, ?_⟩) (by assumption) ?_
                  rotate_left
                  · (intro w hSw; (try dsimp only at hSw); go_simp; try with_reducible rfl)
                  ((try simp only [Act.put]); (try simp only [List.setIfInBounds_toArray]); (try simp only [List.set_cons_succ]); (try simp only [List.set_cons_zero]))
                  refine wpAnyH_take (i := 28) (oi := { dst := some 22, op := Op.assign (Operand.tmp 197), type := 4, pos := "law.go:119", after := #[{ on := 27, ground := Ground.data }, { on := 24, ground := Ground.chain }, { on := 0, ground := Ground.phase }, { on := 1, ground := Ground.phase }, { on := 2, ground := Ground.phase }, { on := 3, ground := Ground.phase }, { on := 4, ground := Ground.phase }, { on := 5, ground := Ground.phase }, { on := 6, ground := Ground.phase }, { on := 7, ground := Ground.phase }, { on := 8, ground := Ground.phase }, { on := 9, ground := Ground.phase }, { on := 10, ground := Ground.phase }, { on := 11, ground := Ground.phase }, { on := 12, ground := Ground.phase }, { on := 13, ground := Ground.phase }, { on := 14, ground := Ground.phase }, { on := 15, ground := Ground.phase }, { on := 16, ground := Ground.phase }, { on := 17, ground := Ground.phase }, { on := 18, ground := Ground.phase }, { on := 19, ground := Ground.phase }, { on := 20, ground := Ground.phase }, { on := 21, ground := Ground.phase }, { on := 22, ground := Ground.phase }, { on := 23, ground := Ground.phase }, { on := 24, ground := Ground.phase }, { on := 25, ground := Ground.phase }, { on := 26, ground := Ground.phase }, { on := 27, ground := Ground.phase }], guard := none }) (v := ?_) rfl (by kernel_rfl) (by kernel_rfl) (by kernel_rfl) (fun _ _ _ h => h) (Or.inl ⟨by rfl, ?_⟩) (by assumption) ?_
                  rotate_left
                  · (intro w hSw; (try dsimp only at hSw); go_simp; try with_reducible rfl)
                  ((try simp only [Act.put]); (try simp only [List.setIfInBounds_toArray]); (try simp only [List.set_cons_succ]); (try simp only [List.set_cons_zero]))
                  refine wpAnyH_done (by kernel_rfl) ?_ _
                  refine NoPanic.normal ?_
                  have IF := Lib.hid (B2.out.trans ((Hid.out hHeld.2.2).mono B2.out.size))
                  have WE := Lib.hid (show wiK true ma mb (k + 1) = true from by rw [WM.out, WV.out, WB.out]; rfl)
                  go_wp2_with fail
                  go_roundw
                  case rel => exact ⟨k + 1, by have := KK.out; omega, by go_num, by rw [WE.out], rfl, IF.out⟩
                  case measure => simp only [intOf]; omega
            · have CE := Lib.hid hc
              have WB := Lib.hid hw
              clear hc hw
              rcases xj with x2 | ⟨x2, x3⟩
              all_goals
                as_aux_lemma =>
                  have B2 := HBW
                  have hA7 := cell_go hA6 B2.out
                  have hB8 := cell_go hB7 B2.out
                  go_wp2_with fail
                  have SA7 := Lib.hid (SA6.out.below B2.out)
                  have SB8 := Lib.hid (SB7.out.below B2.out)
                  refine wp_region_noPanic ?_
                  refine wp_region_held_drew (S := (fun w' => w'.cell? ⟨b6, f6 + k, none⟩ = some (.slice ra6 N rc6) ∧ w'.cell? ⟨b7, f7 + k, none⟩ = some (.slice ra7 N rc7) ∧ Hid (Below wr.heap.size wr w'))) (by kernel_rfl) ?_ (fun hHeld => ?_)
                  · exact ⟨hA7, hB8, Lib.hid (drew_below wr)⟩
                  refine wpAnyH_take (i := 0) (oi := { dst := some 170, op := Op.move (Operand.tmp 22), type := 4, pos := "law.go:119", after := #[], guard := none }) (v := ?_) rfl (by kernel_rfl) (by kernel_rfl) (by kernel_rfl) (fun _ _ _ h => h) (Or.inl ⟨by rfl, ?_⟩) (by assumption) ?_
                  rotate_left
                  · (intro w hSw; (try dsimp only at hSw); go_simp; try with_reducible rfl)
                  ((try simp only [Act.put]); (try simp only [List.setIfInBounds_toArray]); (try simp only [List.set_cons_succ]); (try simp only [List.set_cons_zero]))
                  refine wpAnyH_take (i := 1) (oi := { dst := some 171, op := Op.move (Operand.tmp 170), type := 4, pos := "law.go:119", after := #[{ on := 0, ground := Ground.data }], guard := none }) (v := ?_) rfl (by kernel_rfl) (by kernel_rfl) (by kernel_rfl) (fun _ _ _ h => h) (Or.inl ⟨by rfl, ?_⟩) (by assumption) ?_
                  rotate_left
                  · (intro w hSw; (try dsimp only at hSw); go_simp; try with_reducible rfl)
                  ((try simp only [Act.put]); (try simp only [List.setIfInBounds_toArray]); (try simp only [List.set_cons_succ]); (try simp only [List.set_cons_zero]))
                  refine wpAnyH_take (i := 2) (oi := { dst := some 172, op := Op.move (Operand.tmp 16), type := 4, pos := "law.go:119", after := #[{ on := 1, ground := Ground.guard }], guard := some (1, true) }) (v := ?_) rfl (by kernel_rfl) (by kernel_rfl) (by kernel_rfl) (fun _ _ _ h => h) (Or.inl ⟨by rfl, ?_⟩) (by assumption) ?_
                  rotate_left
                  · (intro w hSw; (try dsimp only at hSw); go_simp; try with_reducible rfl)
                  ((try simp only [Act.put]); (try simp only [List.setIfInBounds_toArray]); (try simp only [List.set_cons_succ]); (try simp only [List.set_cons_zero]))
                  refine wpAnyH_take (i := 3) (oi := { dst := some 173, op := Op.pick (Operand.tmp 171) (Operand.tmp 172) (Operand.const (Value.bool false)), type := 4, pos := "law.go:119", after := #[{ on := 1, ground := Ground.data }, { on := 2, ground := Ground.data }], guard := none }) (v := ?_) rfl (by kernel_rfl) (by kernel_rfl) (by kernel_rfl) (fun _ _ _ h => h) (Or.inl ⟨by rfl, ?_⟩) (by assumption) ?_
                  rotate_left
                  · (intro w hSw; (try dsimp only at hSw); go_simp; try with_reducible rfl)
                  ((try simp only [Act.put]); (try simp only [List.setIfInBounds_toArray]); (try simp only [List.set_cons_succ]); (try simp only [List.set_cons_zero]))
                  refine wpAnyH_take (i := 4) (oi := { dst := some 174, op := Op.move (Operand.tmp 173), type := 4, pos := "law.go:119", after := #[{ on := 3, ground := Ground.data }, { on := 1, ground := Ground.chain }], guard := none }) (v := ?_) rfl (by kernel_rfl) (by kernel_rfl) (by kernel_rfl) (fun _ _ _ h => h) (Or.inl ⟨by rfl, ?_⟩) (by assumption) ?_
                  rotate_left
                  · (intro w hSw; (try dsimp only at hSw); go_simp; try with_reducible rfl)
                  ((try simp only [Act.put]); (try simp only [List.setIfInBounds_toArray]); (try simp only [List.set_cons_succ]); (try simp only [List.set_cons_zero]))
                  refine wpAnyH_take (i := 5) (oi := { dst := some 175, op := Op.move (Operand.tmp 1), type := 35, pos := "law.go:119", after := #[{ on := 4, ground := Ground.guard }], guard := some (4, true) }) (v := ?_) rfl (by kernel_rfl) (by kernel_rfl) (by kernel_rfl) (fun _ _ _ h => h) (Or.inl ⟨by rfl, ?_⟩) (by assumption) ?_
                  rotate_left
                  · (intro w hSw; (try dsimp only at hSw); go_simp; try with_reducible rfl)
                  ((try simp only [Act.put]); (try simp only [List.setIfInBounds_toArray]); (try simp only [List.set_cons_succ]); (try simp only [List.set_cons_zero]))
                  refine wpAnyH_take (i := 6) (oi := { dst := some 176, op := Op.move (Operand.tmp 23), type := 3, pos := "law.go:119", after := #[{ on := 4, ground := Ground.guard }], guard := some (4, true) }) (v := ?_) rfl (by kernel_rfl) (by kernel_rfl) (by kernel_rfl) (fun _ _ _ h => h) (Or.inl ⟨by rfl, ?_⟩) (by assumption) ?_
                  rotate_left
                  · (intro w hSw; (try dsimp only at hSw); go_simp; try with_reducible rfl)
                  ((try simp only [Act.put]); (try simp only [List.setIfInBounds_toArray]); (try simp only [List.set_cons_succ]); (try simp only [List.set_cons_zero]))
                  refine wpAnyH_take (i := 7) (oi := { dst := some 177, op := Op.indexAddr 35 (Operand.tmp 175) (Operand.tmp 176), type := 0, pos := "law.go:119", after := #[{ on := 5, ground := Ground.data }, { on := 6, ground := Ground.data }, { on := 4, ground := Ground.guard }], guard := some (4, true) }) (v := ?_) rfl (by kernel_rfl) (by kernel_rfl) (by kernel_rfl) (fun _ _ _ h => h) (Or.inl ⟨by rfl, ?_⟩) (by assumption) ?_
                  rotate_left
                  · (intro w hSw; (try dsimp only at hSw); go_simp; try with_reducible rfl)
                  ((try simp only [Act.put]); (try simp only [List.setIfInBounds_toArray]); (try simp only [List.set_cons_succ]); (try simp only [List.set_cons_zero]))
                  refine wpAnyH_take (i := 8) (oi := { dst := some 178, op := Op.load 37 (Operand.tmp 177), type := 37, pos := "law.go:119", after := #[{ on := 7, ground := Ground.data }, { on := 4, ground := Ground.guard }], guard := some (4, true) }) (v := ?_) rfl (by kernel_rfl) (by kernel_rfl) (by kernel_rfl) (fun _ _ _ h => h) (Or.inl ⟨by rfl, ?_⟩) (by assumption) ?_
                  rotate_left
                  · (intro w hSw; (try dsimp only at hSw); go_simp; try with_reducible rfl)
                  ((try simp only [Act.put]); (try simp only [List.setIfInBounds_toArray]); (try simp only [List.set_cons_succ]); (try simp only [List.set_cons_zero]))
                  refine wpAnyH_take (i := 9) (oi := { dst := some 179, op := Op.move (Operand.tmp 2), type := 35, pos := "law.go:119", after := #[{ on := 4, ground := Ground.guard }], guard := some (4, true) }) (v := ?_) rfl (by kernel_rfl) (by kernel_rfl) (by kernel_rfl) (fun _ _ _ h => h) (Or.inl ⟨by rfl, ?_⟩) (by assumption) ?_
                  rotate_left
                  · (intro w hSw; (try dsimp only at hSw); go_simp; try with_reducible rfl)
                  ((try simp only [Act.put]); (try simp only [List.setIfInBounds_toArray]); (try simp only [List.set_cons_succ]); (try simp only [List.set_cons_zero]))
                  refine wpAnyH_take (i := 10) (oi := { dst := some 180, op := Op.move (Operand.tmp 23), type := 3, pos := "law.go:119", after := #[{ on := 4, ground := Ground.guard }], guard := some (4, true) }) (v := ?_) rfl (by kernel_rfl) (by kernel_rfl) (by kernel_rfl) (fun _ _ _ h => h) (Or.inl ⟨by rfl, ?_⟩) (by assumption) ?_
                  rotate_left
                  · (intro w hSw; (try dsimp only at hSw); go_simp; try with_reducible rfl)
                  ((try simp only [Act.put]); (try simp only [List.setIfInBounds_toArray]); (try simp only [List.set_cons_succ]); (try simp only [List.set_cons_zero]))
                  refine wpAnyH_take (i := 11) (oi := { dst := some 181, op := Op.indexAddr 35 (Operand.tmp 179) (Operand.tmp 180), type := 0, pos := "law.go:119", after := #[{ on := 9, ground := Ground.data }, { on := 10, ground := Ground.data }, { on := 4, ground := Ground.guard }], guard := some (4, true) }) (v := ?_) rfl (by kernel_rfl) (by kernel_rfl) (by kernel_rfl) (fun _ _ _ h => h) (Or.inl ⟨by rfl, ?_⟩) (by assumption) ?_
                  rotate_left
                  · (intro w hSw; (try dsimp only at hSw); go_simp; try with_reducible rfl)
                  ((try simp only [Act.put]); (try simp only [List.setIfInBounds_toArray]); (try simp only [List.set_cons_succ]); (try simp only [List.set_cons_zero]))
                  refine wpAnyH_take (i := 12) (oi := { dst := some 182, op := Op.load 37 (Operand.tmp 181), type := 37, pos := "law.go:119", after := #[{ on := 11, ground := Ground.data }, { on := 4, ground := Ground.guard }], guard := some (4, true) }) (v := ?_) rfl (by kernel_rfl) (by kernel_rfl) (by kernel_rfl) (fun _ _ _ h => h) (Or.inl ⟨by rfl, ?_⟩) (by assumption) ?_
                  rotate_left
                  · (intro w hSw; (try dsimp only at hSw); go_simp; try with_reducible rfl)
                  ((try simp only [Act.put]); (try simp only [List.setIfInBounds_toArray]); (try simp only [List.set_cons_succ]); (try simp only [List.set_cons_zero]))
                  refine wpAnyH_ready (rs := [13]) (by kernel_rfl) (by simp) ?_
                  refine AllReadyH.cons (o := { dst := some 183, op := Op.call { callee := Callee.value (Operand.func 24), args := #[Operand.tmp 178, Operand.tmp 182], argTypes := #[37, 37] }, type := 3, pos := "law.go:119", after := #[{ on := 8, ground := Ground.data }, { on := 12, ground := Ground.data }, { on := 4, ground := Ground.chain }, { on := 4, ground := Ground.guard }], guard := some (4, true) }) rfl (fun K hK => ?_) AllReadyH.nil
                  go_simp
                  refine (rcmp_any (z := -1) (SA7.out.below (Hid.out hHeld.2.2)) (SB8.out.below (Hid.out hHeld.2.2)) HLA.out HLB.out CE.out).mono ?_
                  rintro e w5 ⟨rfl, hw⟩
                  subst hw
                  try go_wp2_with fail
                  refine hK.out _ _ ?_ (fun hNew => ?_)
                  · exact hHeld
                  clear hK K
                  replace hHeld := hNew
                  clear hNew
                  ((try simp only [Act.put]); (try simp only [List.setIfInBounds_toArray]); (try simp only [List.set_cons_succ]); (try simp only [List.set_cons_zero]))
                  refine wpAnyH_take (i := 14) (oi := { dst := some 184, op := Op.binOp BinOp.eql 3 (Operand.tmp 183) (Operand.const (Value.int IntKind.i64 0)) 3, type := 4, pos := "law.go:119", after := #[{ on := 13, ground := Ground.data }, { on := 4, ground := Ground.guard }], guard := some (4, true) }) (v := ?_) rfl (by kernel_rfl) (by kernel_rfl) (by kernel_rfl) (fun _ _ _ h => h) (Or.inl ⟨by rfl, ?_⟩) (by assumption) ?_
                  rotate_left
                  · (intro w hSw; (try dsimp only at hSw); go_simp; try with_reducible rfl)
                  ((try simp only [Act.put]); (try simp only [List.setIfInBounds_toArray]); (try simp only [List.set_cons_succ]); (try simp only [List.set_cons_zero]))
                  refine wpAnyH_take (i := 15) (oi := { dst := some 185, op := Op.move (Operand.tmp 184), type := 4, pos := "law.go:119", after := #[{ on := 14, ground := Ground.data }, { on := 13, ground := Ground.chain }, { on := 4, ground := Ground.guard }], guard := some (4, true) }) (v := ?_) rfl (by kernel_rfl) (by kernel_rfl) (by kernel_rfl) (fun _ _ _ h => h) (Or.inl ⟨by rfl, ?_⟩) (by assumption) ?_
                  rotate_left
                  · (intro w hSw; (try dsimp only at hSw); go_simp; try with_reducible rfl)
                  ((try simp only [Act.put]); (try simp only [List.setIfInBounds_toArray]); (try simp only [List.set_cons_succ]); (try simp only [List.set_cons_zero]))
                  refine wpAnyH_take (i := 16) (oi := { dst := some 186, op := Op.move (Operand.tmp 1), type := 35, pos := "law.go:119", after := #[{ on := 15, ground := Ground.guard }], guard := some (15, false) }) (v := ?_) rfl (by kernel_rfl) (by kernel_rfl) (by kernel_rfl) (fun _ _ _ h => h) (Or.inl ⟨by rfl, ?_⟩) (by assumption) ?_
                  rotate_left
                  · (intro w hSw; (try dsimp only at hSw); go_simp; try with_reducible rfl)
                  ((try simp only [Act.put]); (try simp only [List.setIfInBounds_toArray]); (try simp only [List.set_cons_succ]); (try simp only [List.set_cons_zero]))
                  refine wpAnyH_take (i := 17) (oi := { dst := some 187, op := Op.move (Operand.tmp 23), type := 3, pos := "law.go:119", after := #[{ on := 15, ground := Ground.guard }], guard := some (15, false) }) (v := ?_) rfl (by kernel_rfl) (by kernel_rfl) (by kernel_rfl) (fun _ _ _ h => h) (Or.inl ⟨by rfl, ?_⟩) (by assumption) ?_
                  rotate_left
                  · (intro w hSw; (try dsimp only at hSw); go_simp; try with_reducible rfl)
                  ((try simp only [Act.put]); (try simp only [List.setIfInBounds_toArray]); (try simp only [List.set_cons_succ]); (try simp only [List.set_cons_zero]))
                  refine wpAnyH_take (i := 18) (oi := { dst := some 188, op := Op.indexAddr 35 (Operand.tmp 186) (Operand.tmp 187), type := 0, pos := "law.go:119", after := #[{ on := 16, ground := Ground.data }, { on := 17, ground := Ground.data }, { on := 15, ground := Ground.guard }], guard := some (15, false) }) (v := ?_) rfl (by kernel_rfl) (by kernel_rfl) (by kernel_rfl) (fun _ _ _ h => h) (Or.inl ⟨by rfl, ?_⟩) (by assumption) ?_
                  rotate_left
                  · (intro w hSw; (try dsimp only at hSw); go_simp; try with_reducible rfl)
                  ((try simp only [Act.put]); (try simp only [List.setIfInBounds_toArray]); (try simp only [List.set_cons_succ]); (try simp only [List.set_cons_zero]))
                  refine wpAnyH_take (i := 19) (oi := { dst := some 189, op := Op.load 37 (Operand.tmp 188), type := 37, pos := "law.go:119", after := #[{ on := 18, ground := Ground.data }, { on := 15, ground := Ground.guard }], guard := some (15, false) }) (v := ?_) rfl (by kernel_rfl) (by kernel_rfl) (by kernel_rfl) (fun _ _ _ h => h) (Or.inl ⟨by rfl, ?_⟩) (by assumption) ?_
                  rotate_left
                  · (intro w hSw; (try dsimp only at hSw); go_simp; try with_reducible rfl)
                  ((try simp only [Act.put]); (try simp only [List.setIfInBounds_toArray]); (try simp only [List.set_cons_succ]); (try simp only [List.set_cons_zero]))
                  refine wpAnyH_take (i := 20) (oi := { dst := some 190, op := Op.move (Operand.tmp 2), type := 35, pos := "law.go:119", after := #[{ on := 15, ground := Ground.guard }], guard := some (15, false) }) (v := ?_) rfl (by kernel_rfl) (by kernel_rfl) (by kernel_rfl) (fun _ _ _ h => h) (Or.inl ⟨by rfl, ?_⟩) (by assumption) ?_
                  rotate_left
                  · (intro w hSw; (try dsimp only at hSw); go_simp; try with_reducible rfl)
                  ((try simp only [Act.put]); (try simp only [List.setIfInBounds_toArray]); (try simp only [List.set_cons_succ]); (try simp only [List.set_cons_zero]))
                  refine wpAnyH_take (i := 21) (oi := { dst := some 191, op := Op.move (Operand.tmp 23), type := 3, pos := "law.go:119", after := #[{ on := 15, ground := Ground.guard }], guard := some (15, false) }) (v := ?_) rfl (by kernel_rfl) (by kernel_rfl) (by kernel_rfl) (fun _ _ _ h => h) (Or.inl ⟨by rfl, ?_⟩) (by assumption) ?_
                  rotate_left
                  · (intro w hSw; (try dsimp only at hSw); go_simp; try with_reducible rfl)
                  ((try simp only [Act.put]); (try simp only [List.setIfInBounds_toArray]); (try simp only [List.set_cons_succ]); (try simp only [List.set_cons_zero]))
                  refine wpAnyH_take (i := 22) (oi := { dst := some 192, op := Op.indexAddr 35 (Operand.tmp 190) (Operand.tmp 191), type := 0, pos := "law.go:119", after := #[{ on := 20, ground := Ground.data }, { on := 21, ground := Ground.data }, { on := 15, ground := Ground.guard }], guard := some (15, false) }) (v := ?_) rfl (by kernel_rfl) (by kernel_rfl) (by kernel_rfl) (fun _ _ _ h => h) (Or.inl ⟨by rfl, ?_⟩) (by assumption) ?_
                  rotate_left
                  · (intro w hSw; (try dsimp only at hSw); go_simp; try with_reducible rfl)
                  ((try simp only [Act.put]); (try simp only [List.setIfInBounds_toArray]); (try simp only [List.set_cons_succ]); (try simp only [List.set_cons_zero]))
                  refine wpAnyH_take (i := 23) (oi := { dst := some 193, op := Op.load 37 (Operand.tmp 192), type := 37, pos := "law.go:119", after := #[{ on := 22, ground := Ground.data }, { on := 15, ground := Ground.guard }], guard := some (15, false) }) (v := ?_) rfl (by kernel_rfl) (by kernel_rfl) (by kernel_rfl) (fun _ _ _ h => h) (Or.inl ⟨by rfl, ?_⟩) (by assumption) ?_
                  rotate_left
                  · (intro w hSw; (try dsimp only at hSw); go_simp; try with_reducible rfl)
                  ((try simp only [Act.put]); (try simp only [List.setIfInBounds_toArray]); (try simp only [List.set_cons_succ]); (try simp only [List.set_cons_zero]))
                  refine wpAnyH_ready (rs := [24]) (by kernel_rfl) (by simp) ?_
                  refine AllReadyH.cons (o := { dst := some 194, op := Op.call { callee := Callee.value (Operand.func 24), args := #[Operand.tmp 189, Operand.tmp 193], argTypes := #[37, 37] }, type := 3, pos := "law.go:119", after := #[{ on := 19, ground := Ground.data }, { on := 23, ground := Ground.data }, { on := 15, ground := Ground.chain }, { on := 15, ground := Ground.guard }], guard := some (15, false) }) rfl (fun K hK => ?_) AllReadyH.nil
                  go_simp
                  refine (rcmp_any (z := -1) (SA7.out.below (Hid.out hHeld.2.2)) (SB8.out.below (Hid.out hHeld.2.2)) HLA.out HLB.out CE.out).mono ?_
                  rintro e w5 ⟨rfl, hw⟩
                  subst hw
                  try go_wp2_with fail
                  refine hK.out _ _ ?_ (fun hNew => ?_)
                  · exact hHeld
                  clear hK K
                  replace hHeld := hNew
                  clear hNew
                  ((try simp only [Act.put]); (try simp only [List.setIfInBounds_toArray]); (try simp only [List.set_cons_succ]); (try simp only [List.set_cons_zero]))
                  refine wpAnyH_take (i := 25) (oi := { dst := some 195, op := Op.binOp BinOp.eql 3 (Operand.tmp 194) (Operand.const (Value.int IntKind.i64 (-1))) 3, type := 4, pos := "law.go:119", after := #[{ on := 24, ground := Ground.data }, { on := 15, ground := Ground.guard }], guard := some (15, false) }) (v := ?_) rfl (by kernel_rfl) (by kernel_rfl) (by kernel_rfl) (fun _ _ _ h => h) (Or.inl ⟨by rfl, ?_⟩) (by assumption) ?_
                  rotate_left
                  · (intro w hSw; (try dsimp only at hSw); go_simp; try with_reducible rfl)
                  ((try simp only [Act.put]); (try simp only [List.setIfInBounds_toArray]); (try simp only [List.set_cons_succ]); (try simp only [List.set_cons_zero]))
                  refine wpAnyH_take (i := 26) (oi := { dst := some 196, op := Op.pick (Operand.tmp 185) (Operand.const (Value.bool true)) (Operand.tmp 195), type := 4, pos := "law.go:119", after := #[{ on := 15, ground := Ground.data }, { on := 25, ground := Ground.data }, { on := 4, ground := Ground.guard }], guard := some (4, true) }) (v := ?_) rfl (by kernel_rfl) (by kernel_rfl) (by kernel_rfl) (fun _ _ _ h => h) (Or.inl ⟨by rfl, ?_⟩) (by assumption) ?_
                  rotate_left
                  · (intro w hSw; (try dsimp only at hSw); go_simp; try with_reducible rfl)
                  ((try simp only [Act.put]); (try simp only [List.setIfInBounds_toArray]); (try simp only [List.set_cons_succ]); (try simp only [List.set_cons_zero]))
                  refine wpAnyH_take (i := 27) (oi := { dst := some 197, op := Op.pick (Operand.tmp 174) (Operand.tmp 196) (Operand.const (Value.bool false)), type := 4, pos := "law.go:119", after := #[{ on := 4, ground := Ground.data }, { on := 26, ground := Ground.data }], guard := none }) (v := ?_) rfl (by kernel_rfl) (by kernel_rfl) (by kernel_rfl) (fun _ _ _ h => h) (Or.inl ⟨by rfl, ?_⟩) (by assumption) ?_
                  rotate_left
                  · (intro w hSw; (try dsimp only at hSw); go_simp; try with_reducible rfl)
                  ((try simp only [Act.put]); (try simp only [List.setIfInBounds_toArray]); (try simp only [List.set_cons_succ]); (try simp only [List.set_cons_zero]))
                  refine wpAnyH_take (i := 28) (oi := { dst := some 22, op := Op.assign (Operand.tmp 197), type := 4, pos := "law.go:119", after := #[{ on := 27, ground := Ground.data }, { on := 24, ground := Ground.chain }, { on := 0, ground := Ground.phase }, { on := 1, ground := Ground.phase }, { on := 2, ground := Ground.phase }, { on := 3, ground := Ground.phase }, { on := 4, ground := Ground.phase }, { on := 5, ground := Ground.phase }, { on := 6, ground := Ground.phase }, { on := 7, ground := Ground.phase }, { on := 8, ground := Ground.phase }, { on := 9, ground := Ground.phase }, { on := 10, ground := Ground.phase }, { on := 11, ground := Ground.phase }, { on := 12, ground := Ground.phase }, { on := 13, ground := Ground.phase }, { on := 14, ground := Ground.phase }, { on := 15, ground := Ground.phase }, { on := 16, ground := Ground.phase }, { on := 17, ground := Ground.phase }, { on := 18, ground := Ground.phase }, { on := 19, ground := Ground.phase }, { on := 20, ground := Ground.phase }, { on := 21, ground := Ground.phase }, { on := 22, ground := Ground.phase }, { on := 23, ground := Ground.phase }, { on := 24, ground := Ground.phase }, { on := 25, ground := Ground.phase }, { on := 26, ground := Ground.phase }, { on := 27, ground := Ground.phase }], guard := none }) (v := ?_) rfl (by kernel_rfl) (by kernel_rfl) (by kernel_rfl) (fun _ _ _ h => h) (Or.inl ⟨by rfl, ?_⟩) (by assumption) ?_
                  rotate_left
                  · (intro w hSw; (try dsimp only at hSw); go_simp; try with_reducible rfl)
                  ((try simp only [Act.put]); (try simp only [List.setIfInBounds_toArray]); (try simp only [List.set_cons_succ]); (try simp only [List.set_cons_zero]))
                  refine wpAnyH_done (by kernel_rfl) ?_ _
                  refine NoPanic.normal ?_
                  have IF := Lib.hid (B2.out.trans ((Hid.out hHeld.2.2).mono B2.out.size))
                  have WE := Lib.hid (show wiK true ma mb (k + 1) = true from by rw [WM.out, WV.out, WB.out]; rfl)
                  go_wp2_with fail
                  go_roundw
                  case rel => exact ⟨k + 1, by have := KK.out; omega, by go_num, by rw [WE.out], rfl, IF.out⟩
                  case measure => simp only [intOf]; omega
            · obtain ⟨cz, hcz⟩ : ∃ cz, cz = cmpZ (ma.getD k []) (mb.getD k []) := ⟨_, rfl⟩
              rw [← hcz] at hc hc2
              have CE := Lib.hid hcz.symm
              have WB := Lib.hid hw
              have dc1 : (cz == 0) = false := by simpa using hc
              have dc2 : (cz == -1) = false := by simpa using hc2
              clear hc hc2 hw hcz
              rcases xj with x2 | ⟨x2, x3⟩
              all_goals
                as_aux_lemma =>
                  have B2 := HBW
                  have hA7 := cell_go hA6 B2.out
                  have hB8 := cell_go hB7 B2.out
                  go_wp2_with fail
                  have SA7 := Lib.hid (SA6.out.below B2.out)
                  have SB8 := Lib.hid (SB7.out.below B2.out)
                  refine wp_region_noPanic ?_
                  refine wp_region_held_drew (S := (fun w' => w'.cell? ⟨b6, f6 + k, none⟩ = some (.slice ra6 N rc6) ∧ w'.cell? ⟨b7, f7 + k, none⟩ = some (.slice ra7 N rc7) ∧ Hid (Below wr.heap.size wr w'))) (by kernel_rfl) ?_ (fun hHeld => ?_)
                  · exact ⟨hA7, hB8, Lib.hid (drew_below wr)⟩
                  refine wpAnyH_take (i := 0) (oi := { dst := some 170, op := Op.move (Operand.tmp 22), type := 4, pos := "law.go:119", after := #[], guard := none }) (v := ?_) rfl (by kernel_rfl) (by kernel_rfl) (by kernel_rfl) (fun _ _ _ h => h) (Or.inl ⟨by rfl, ?_⟩) (by assumption) ?_
                  rotate_left
                  · (intro w hSw; (try dsimp only at hSw); go_simp; try with_reducible rfl)
                  ((try simp only [Act.put]); (try simp only [List.setIfInBounds_toArray]); (try simp only [List.set_cons_succ]); (try simp only [List.set_cons_zero]))
                  refine wpAnyH_take (i := 1) (oi := { dst := some 171, op := Op.move (Operand.tmp 170), type := 4, pos := "law.go:119", after := #[{ on := 0, ground := Ground.data }], guard := none }) (v := ?_) rfl (by kernel_rfl) (by kernel_rfl) (by kernel_rfl) (fun _ _ _ h => h) (Or.inl ⟨by rfl, ?_⟩) (by assumption) ?_
                  rotate_left
                  · (intro w hSw; (try dsimp only at hSw); go_simp; try with_reducible rfl)
                  ((try simp only [Act.put]); (try simp only [List.setIfInBounds_toArray]); (try simp only [List.set_cons_succ]); (try simp only [List.set_cons_zero]))
                  refine wpAnyH_take (i := 2) (oi := { dst := some 172, op := Op.move (Operand.tmp 16), type := 4, pos := "law.go:119", after := #[{ on := 1, ground := Ground.guard }], guard := some (1, true) }) (v := ?_) rfl (by kernel_rfl) (by kernel_rfl) (by kernel_rfl) (fun _ _ _ h => h) (Or.inl ⟨by rfl, ?_⟩) (by assumption) ?_
                  rotate_left
                  · (intro w hSw; (try dsimp only at hSw); go_simp; try with_reducible rfl)
                  ((try simp only [Act.put]); (try simp only [List.setIfInBounds_toArray]); (try simp only [List.set_cons_succ]); (try simp only [List.set_cons_zero]))
                  refine wpAnyH_take (i := 3) (oi := { dst := some 173, op := Op.pick (Operand.tmp 171) (Operand.tmp 172) (Operand.const (Value.bool false)), type := 4, pos := "law.go:119", after := #[{ on := 1, ground := Ground.data }, { on := 2, ground := Ground.data }], guard := none }) (v := ?_) rfl (by kernel_rfl) (by kernel_rfl) (by kernel_rfl) (fun _ _ _ h => h) (Or.inl ⟨by rfl, ?_⟩) (by assumption) ?_
                  rotate_left
                  · (intro w hSw; (try dsimp only at hSw); go_simp; try with_reducible rfl)
                  ((try simp only [Act.put]); (try simp only [List.setIfInBounds_toArray]); (try simp only [List.set_cons_succ]); (try simp only [List.set_cons_zero]))
                  refine wpAnyH_take (i := 4) (oi := { dst := some 174, op := Op.move (Operand.tmp 173), type := 4, pos := "law.go:119", after := #[{ on := 3, ground := Ground.data }, { on := 1, ground := Ground.chain }], guard := none }) (v := ?_) rfl (by kernel_rfl) (by kernel_rfl) (by kernel_rfl) (fun _ _ _ h => h) (Or.inl ⟨by rfl, ?_⟩) (by assumption) ?_
                  rotate_left
                  · (intro w hSw; (try dsimp only at hSw); go_simp; try with_reducible rfl)
                  ((try simp only [Act.put]); (try simp only [List.setIfInBounds_toArray]); (try simp only [List.set_cons_succ]); (try simp only [List.set_cons_zero]))
                  refine wpAnyH_take (i := 5) (oi := { dst := some 175, op := Op.move (Operand.tmp 1), type := 35, pos := "law.go:119", after := #[{ on := 4, ground := Ground.guard }], guard := some (4, true) }) (v := ?_) rfl (by kernel_rfl) (by kernel_rfl) (by kernel_rfl) (fun _ _ _ h => h) (Or.inl ⟨by rfl, ?_⟩) (by assumption) ?_
                  rotate_left
                  · (intro w hSw; (try dsimp only at hSw); go_simp; try with_reducible rfl)
                  ((try simp only [Act.put]); (try simp only [List.setIfInBounds_toArray]); (try simp only [List.set_cons_succ]); (try simp only [List.set_cons_zero]))
                  refine wpAnyH_take (i := 6) (oi := { dst := some 176, op := Op.move (Operand.tmp 23), type := 3, pos := "law.go:119", after := #[{ on := 4, ground := Ground.guard }], guard := some (4, true) }) (v := ?_) rfl (by kernel_rfl) (by kernel_rfl) (by kernel_rfl) (fun _ _ _ h => h) (Or.inl ⟨by rfl, ?_⟩) (by assumption) ?_
                  rotate_left
                  · (intro w hSw; (try dsimp only at hSw); go_simp; try with_reducible rfl)
                  ((try simp only [Act.put]); (try simp only [List.setIfInBounds_toArray]); (try simp only [List.set_cons_succ]); (try simp only [List.set_cons_zero]))
                  refine wpAnyH_take (i := 7) (oi := { dst := some 177, op := Op.indexAddr 35 (Operand.tmp 175) (Operand.tmp 176), type := 0, pos := "law.go:119", after := #[{ on := 5, ground := Ground.data }, { on := 6, ground := Ground.data }, { on := 4, ground := Ground.guard }], guard := some (4, true) }) (v := ?_) rfl (by kernel_rfl) (by kernel_rfl) (by kernel_rfl) (fun _ _ _ h => h) (Or.inl ⟨by rfl, ?_⟩) (by assumption) ?_
                  rotate_left
                  · (intro w hSw; (try dsimp only at hSw); go_simp; try with_reducible rfl)
                  ((try simp only [Act.put]); (try simp only [List.setIfInBounds_toArray]); (try simp only [List.set_cons_succ]); (try simp only [List.set_cons_zero]))
                  refine wpAnyH_take (i := 8) (oi := { dst := some 178, op := Op.load 37 (Operand.tmp 177), type := 37, pos := "law.go:119", after := #[{ on := 7, ground := Ground.data }, { on := 4, ground := Ground.guard }], guard := some (4, true) }) (v := ?_) rfl (by kernel_rfl) (by kernel_rfl) (by kernel_rfl) (fun _ _ _ h => h) (Or.inl ⟨by rfl, ?_⟩) (by assumption) ?_
                  rotate_left
                  · (intro w hSw; (try dsimp only at hSw); go_simp; try with_reducible rfl)
                  ((try simp only [Act.put]); (try simp only [List.setIfInBounds_toArray]); (try simp only [List.set_cons_succ]); (try simp only [List.set_cons_zero]))
                  refine wpAnyH_take (i := 9) (oi := { dst := some 179, op := Op.move (Operand.tmp 2), type := 35, pos := "law.go:119", after := #[{ on := 4, ground := Ground.guard }], guard := some (4, true) }) (v := ?_) rfl (by kernel_rfl) (by kernel_rfl) (by kernel_rfl) (fun _ _ _ h => h) (Or.inl ⟨by rfl, ?_⟩) (by assumption) ?_
                  rotate_left
                  · (intro w hSw; (try dsimp only at hSw); go_simp; try with_reducible rfl)
                  ((try simp only [Act.put]); (try simp only [List.setIfInBounds_toArray]); (try simp only [List.set_cons_succ]); (try simp only [List.set_cons_zero]))
                  refine wpAnyH_take (i := 10) (oi := { dst := some 180, op := Op.move (Operand.tmp 23), type := 3, pos := "law.go:119", after := #[{ on := 4, ground := Ground.guard }], guard := some (4, true) }) (v := ?_) rfl (by kernel_rfl) (by kernel_rfl) (by kernel_rfl) (fun _ _ _ h => h) (Or.inl ⟨by rfl, ?_⟩) (by assumption) ?_
                  rotate_left
                  · (intro w hSw; (try dsimp only at hSw); go_simp; try with_reducible rfl)
                  ((try simp only [Act.put]); (try simp only [List.setIfInBounds_toArray]); (try simp only [List.set_cons_succ]); (try simp only [List.set_cons_zero]))
                  refine wpAnyH_take (i := 11) (oi := { dst := some 181, op := Op.indexAddr 35 (Operand.tmp 179) (Operand.tmp 180), type := 0, pos := "law.go:119", after := #[{ on := 9, ground := Ground.data }, { on := 10, ground := Ground.data }, { on := 4, ground := Ground.guard }], guard := some (4, true) }) (v := ?_) rfl (by kernel_rfl) (by kernel_rfl) (by kernel_rfl) (fun _ _ _ h => h) (Or.inl ⟨by rfl, ?_⟩) (by assumption) ?_
                  rotate_left
                  · (intro w hSw; (try dsimp only at hSw); go_simp; try with_reducible rfl)
                  ((try simp only [Act.put]); (try simp only [List.setIfInBounds_toArray]); (try simp only [List.set_cons_succ]); (try simp only [List.set_cons_zero]))
                  refine wpAnyH_take (i := 12) (oi := { dst := some 182, op := Op.load 37 (Operand.tmp 181), type := 37, pos := "law.go:119", after := #[{ on := 11, ground := Ground.data }, { on := 4, ground := Ground.guard }], guard := some (4, true) }) (v := ?_) rfl (by kernel_rfl) (by kernel_rfl) (by kernel_rfl) (fun _ _ _ h => h) (Or.inl ⟨by rfl, ?_⟩) (by assumption) ?_
                  rotate_left
                  · (intro w hSw; (try dsimp only at hSw); go_simp; try with_reducible rfl)
                  ((try simp only [Act.put]); (try simp only [List.setIfInBounds_toArray]); (try simp only [List.set_cons_succ]); (try simp only [List.set_cons_zero]))
                  refine wpAnyH_ready (rs := [13]) (by kernel_rfl) (by simp) ?_
                  refine AllReadyH.cons (o := { dst := some 183, op := Op.call { callee := Callee.value (Operand.func 24), args := #[Operand.tmp 178, Operand.tmp 182], argTypes := #[37, 37] }, type := 3, pos := "law.go:119", after := #[{ on := 8, ground := Ground.data }, { on := 12, ground := Ground.data }, { on := 4, ground := Ground.chain }, { on := 4, ground := Ground.guard }], guard := some (4, true) }) rfl (fun K hK => ?_) AllReadyH.nil
                  go_simp
                  refine (rcmp_any (z := cz) (SA7.out.below (Hid.out hHeld.2.2)) (SB8.out.below (Hid.out hHeld.2.2)) HLA.out HLB.out CE.out).mono ?_
                  rintro e w5 ⟨rfl, hw⟩
                  subst hw
                  try go_wp2_with fail
                  refine hK.out _ _ ?_ (fun hNew => ?_)
                  · exact hHeld
                  clear hK K
                  replace hHeld := hNew
                  clear hNew
                  ((try simp only [Act.put]); (try simp only [List.setIfInBounds_toArray]); (try simp only [List.set_cons_succ]); (try simp only [List.set_cons_zero]))
                  refine wpAnyH_take (i := 14) (oi := { dst := some 184, op := Op.binOp BinOp.eql 3 (Operand.tmp 183) (Operand.const (Value.int IntKind.i64 0)) 3, type := 4, pos := "law.go:119", after := #[{ on := 13, ground := Ground.data }, { on := 4, ground := Ground.guard }], guard := some (4, true) }) (v := ?_) rfl (by kernel_rfl) (by kernel_rfl) (by kernel_rfl) (fun _ _ _ h => h) (Or.inl ⟨by rfl, ?_⟩) (by assumption) ?_
                  rotate_left
                  · (intro w hSw; (try dsimp only at hSw); go_simp; try with_reducible rfl)
                  ((try simp only [Act.put]); (try simp only [List.setIfInBounds_toArray]); (try simp only [List.set_cons_succ]); (try simp only [List.set_cons_zero]))
                  refine wpAnyH_take (i := 15) (oi := { dst := some 185, op := Op.move (Operand.tmp 184), type := 4, pos := "law.go:119", after := #[{ on := 14, ground := Ground.data }, { on := 13, ground := Ground.chain }, { on := 4, ground := Ground.guard }], guard := some (4, true) }) (v := ?_) rfl (by kernel_rfl) (by kernel_rfl) (by kernel_rfl) (fun _ _ _ h => h) (Or.inl ⟨by rfl, ?_⟩) (by assumption) ?_
                  rotate_left
                  · (intro w hSw; (try dsimp only at hSw); go_simp; try with_reducible rfl)
                  ((try simp only [Act.put]); (try simp only [List.setIfInBounds_toArray]); (try simp only [List.set_cons_succ]); (try simp only [List.set_cons_zero]))
                  refine wpAnyH_take (i := 16) (oi := { dst := some 186, op := Op.move (Operand.tmp 1), type := 35, pos := "law.go:119", after := #[{ on := 15, ground := Ground.guard }], guard := some (15, false) }) (v := ?_) rfl (by kernel_rfl) (by kernel_rfl) (by kernel_rfl) (fun _ _ _ h => h) (Or.inl ⟨by rfl, ?_⟩) (by assumption) ?_
                  rotate_left
                  · (intro w hSw; (try dsimp only at hSw); go_simp; try with_reducible rfl)
                  ((try simp only [Act.put]); (try simp only [List.setIfInBounds_toArray]); (try simp only [List.set_cons_succ]); (try simp only [List.set_cons_zero]))
                  refine wpAnyH_take (i := 17) (oi := { dst := some 187, op := Op.move (Operand.tmp 23), type := 3, pos := "law.go:119", after := #[{ on := 15, ground := Ground.guard }], guard := some (15, false) }) (v := ?_) rfl (by kernel_rfl) (by kernel_rfl) (by kernel_rfl) (fun _ _ _ h => h) (Or.inl ⟨by rfl, ?_⟩) (by assumption) ?_
                  rotate_left
                  · (intro w hSw; (try dsimp only at hSw); go_simp; try with_reducible rfl)
                  ((try simp only [Act.put]); (try simp only [List.setIfInBounds_toArray]); (try simp only [List.set_cons_succ]); (try simp only [List.set_cons_zero]))
                  refine wpAnyH_take (i := 18) (oi := { dst := some 188, op := Op.indexAddr 35 (Operand.tmp 186) (Operand.tmp 187), type := 0, pos := "law.go:119", after := #[{ on := 16, ground := Ground.data }, { on := 17, ground := Ground.data }, { on := 15, ground := Ground.guard }], guard := some (15, false) }) (v := ?_) rfl (by kernel_rfl) (by kernel_rfl) (by kernel_rfl) (fun _ _ _ h => h) (Or.inl ⟨by rfl, ?_⟩) (by assumption) ?_
                  rotate_left
                  · (intro w hSw; (try dsimp only at hSw); go_simp; try with_reducible rfl)
                  ((try simp only [Act.put]); (try simp only [List.setIfInBounds_toArray]); (try simp only [List.set_cons_succ]); (try simp only [List.set_cons_zero]))
                  refine wpAnyH_take (i := 19) (oi := { dst := some 189, op := Op.load 37 (Operand.tmp 188), type := 37, pos := "law.go:119", after := #[{ on := 18, ground := Ground.data }, { on := 15, ground := Ground.guard }], guard := some (15, false) }) (v := ?_) rfl (by kernel_rfl) (by kernel_rfl) (by kernel_rfl) (fun _ _ _ h => h) (Or.inl ⟨by rfl, ?_⟩) (by assumption) ?_
                  rotate_left
                  · (intro w hSw; (try dsimp only at hSw); go_simp; try with_reducible rfl)
                  ((try simp only [Act.put]); (try simp only [List.setIfInBounds_toArray]); (try simp only [List.set_cons_succ]); (try simp only [List.set_cons_zero]))
                  refine wpAnyH_take (i := 20) (oi := { dst := some 190, op := Op.move (Operand.tmp 2), type := 35, pos := "law.go:119", after := #[{ on := 15, ground := Ground.guard }], guard := some (15, false) }) (v := ?_) rfl (by kernel_rfl) (by kernel_rfl) (by kernel_rfl) (fun _ _ _ h => h) (Or.inl ⟨by rfl, ?_⟩) (by assumption) ?_
                  rotate_left
                  · (intro w hSw; (try dsimp only at hSw); go_simp; try with_reducible rfl)
                  ((try simp only [Act.put]); (try simp only [List.setIfInBounds_toArray]); (try simp only [List.set_cons_succ]); (try simp only [List.set_cons_zero]))
                  refine wpAnyH_take (i := 21) (oi := { dst := some 191, op := Op.move (Operand.tmp 23), type := 3, pos := "law.go:119", after := #[{ on := 15, ground := Ground.guard }], guard := some (15, false) }) (v := ?_) rfl (by kernel_rfl) (by kernel_rfl) (by kernel_rfl) (fun _ _ _ h => h) (Or.inl ⟨by rfl, ?_⟩) (by assumption) ?_
                  rotate_left
                  · (intro w hSw; (try dsimp only at hSw); go_simp; try with_reducible rfl)
                  ((try simp only [Act.put]); (try simp only [List.setIfInBounds_toArray]); (try simp only [List.set_cons_succ]); (try simp only [List.set_cons_zero]))
                  refine wpAnyH_take (i := 22) (oi := { dst := some 192, op := Op.indexAddr 35 (Operand.tmp 190) (Operand.tmp 191), type := 0, pos := "law.go:119", after := #[{ on := 20, ground := Ground.data }, { on := 21, ground := Ground.data }, { on := 15, ground := Ground.guard }], guard := some (15, false) }) (v := ?_) rfl (by kernel_rfl) (by kernel_rfl) (by kernel_rfl) (fun _ _ _ h => h) (Or.inl ⟨by rfl, ?_⟩) (by assumption) ?_
                  rotate_left
                  · (intro w hSw; (try dsimp only at hSw); go_simp; try with_reducible rfl)
                  ((try simp only [Act.put]); (try simp only [List.setIfInBounds_toArray]); (try simp only [List.set_cons_succ]); (try simp only [List.set_cons_zero]))
                  refine wpAnyH_take (i := 23) (oi := { dst := some 193, op := Op.load 37 (Operand.tmp 192), type := 37, pos := "law.go:119", after := #[{ on := 22, ground := Ground.data }, { on := 15, ground := Ground.guard }], guard := some (15, false) }) (v := ?_) rfl (by kernel_rfl) (by kernel_rfl) (by kernel_rfl) (fun _ _ _ h => h) (Or.inl ⟨by rfl, ?_⟩) (by assumption) ?_
                  rotate_left
                  · (intro w hSw; (try dsimp only at hSw); go_simp; try with_reducible rfl)
                  ((try simp only [Act.put]); (try simp only [List.setIfInBounds_toArray]); (try simp only [List.set_cons_succ]); (try simp only [List.set_cons_zero]))
                  refine wpAnyH_ready (rs := [24]) (by kernel_rfl) (by simp) ?_
                  refine AllReadyH.cons (o := { dst := some 194, op := Op.call { callee := Callee.value (Operand.func 24), args := #[Operand.tmp 189, Operand.tmp 193], argTypes := #[37, 37] }, type := 3, pos := "law.go:119", after := #[{ on := 19, ground := Ground.data }, { on := 23, ground := Ground.data }, { on := 15, ground := Ground.chain }, { on := 15, ground := Ground.guard }], guard := some (15, false) }) rfl (fun K hK => ?_) AllReadyH.nil
                  go_simp
                  refine (rcmp_any (z := cz) (SA7.out.below (Hid.out hHeld.2.2)) (SB8.out.below (Hid.out hHeld.2.2)) HLA.out HLB.out CE.out).mono ?_
                  rintro e w5 ⟨rfl, hw⟩
                  subst hw
                  try go_wp2_with fail
                  refine hK.out _ _ ?_ (fun hNew => ?_)
                  · exact hHeld
                  clear hK K
                  replace hHeld := hNew
                  clear hNew
                  ((try simp only [Act.put]); (try simp only [List.setIfInBounds_toArray]); (try simp only [List.set_cons_succ]); (try simp only [List.set_cons_zero]))
                  refine wpAnyH_take (i := 25) (oi := { dst := some 195, op := Op.binOp BinOp.eql 3 (Operand.tmp 194) (Operand.const (Value.int IntKind.i64 (-1))) 3, type := 4, pos := "law.go:119", after := #[{ on := 24, ground := Ground.data }, { on := 15, ground := Ground.guard }], guard := some (15, false) }) (v := ?_) rfl (by kernel_rfl) (by kernel_rfl) (by kernel_rfl) (fun _ _ _ h => h) (Or.inl ⟨by rfl, ?_⟩) (by assumption) ?_
                  rotate_left
                  · (intro w hSw; (try dsimp only at hSw); go_simp; try with_reducible rfl)
                  ((try simp only [Act.put]); (try simp only [List.setIfInBounds_toArray]); (try simp only [List.set_cons_succ]); (try simp only [List.set_cons_zero]))
                  refine wpAnyH_take (i := 26) (oi := { dst := some 196, op := Op.pick (Operand.tmp 185) (Operand.const (Value.bool true)) (Operand.tmp 195), type := 4, pos := "law.go:119", after := #[{ on := 15, ground := Ground.data }, { on := 25, ground := Ground.data }, { on := 4, ground := Ground.guard }], guard := some (4, true) }) (v := ?_) rfl (by kernel_rfl) (by kernel_rfl) (by kernel_rfl) (fun _ _ _ h => h) (Or.inl ⟨by rfl, ?_⟩) (by assumption) ?_
                  rotate_left
                  · (intro w hSw; (try dsimp only at hSw); go_simp; try with_reducible rfl)
                  ((try simp only [Act.put]); (try simp only [List.setIfInBounds_toArray]); (try simp only [List.set_cons_succ]); (try simp only [List.set_cons_zero]))
                  refine wpAnyH_take (i := 27) (oi := { dst := some 197, op := Op.pick (Operand.tmp 174) (Operand.tmp 196) (Operand.const (Value.bool false)), type := 4, pos := "law.go:119", after := #[{ on := 4, ground := Ground.data }, { on := 26, ground := Ground.data }], guard := none }) (v := ?_) rfl (by kernel_rfl) (by kernel_rfl) (by kernel_rfl) (fun _ _ _ h => h) (Or.inl ⟨by rfl, ?_⟩) (by assumption) ?_
                  rotate_left
                  · (intro w hSw; (try dsimp only at hSw); go_simp; try with_reducible rfl)
                  ((try simp only [Act.put]); (try simp only [List.setIfInBounds_toArray]); (try simp only [List.set_cons_succ]); (try simp only [List.set_cons_zero]))
                  refine wpAnyH_take (i := 28) (oi := { dst := some 22, op := Op.assign (Operand.tmp 197), type := 4, pos := "law.go:119", after := #[{ on := 27, ground := Ground.data }, { on := 24, ground := Ground.chain }, { on := 0, ground := Ground.phase }, { on := 1, ground := Ground.phase }, { on := 2, ground := Ground.phase }, { on := 3, ground := Ground.phase }, { on := 4, ground := Ground.phase }, { on := 5, ground := Ground.phase }, { on := 6, ground := Ground.phase }, { on := 7, ground := Ground.phase }, { on := 8, ground := Ground.phase }, { on := 9, ground := Ground.phase }, { on := 10, ground := Ground.phase }, { on := 11, ground := Ground.phase }, { on := 12, ground := Ground.phase }, { on := 13, ground := Ground.phase }, { on := 14, ground := Ground.phase }, { on := 15, ground := Ground.phase }, { on := 16, ground := Ground.phase }, { on := 17, ground := Ground.phase }, { on := 18, ground := Ground.phase }, { on := 19, ground := Ground.phase }, { on := 20, ground := Ground.phase }, { on := 21, ground := Ground.phase }, { on := 22, ground := Ground.phase }, { on := 23, ground := Ground.phase }, { on := 24, ground := Ground.phase }, { on := 25, ground := Ground.phase }, { on := 26, ground := Ground.phase }, { on := 27, ground := Ground.phase }], guard := none }) (v := ?_) rfl (by kernel_rfl) (by kernel_rfl) (by kernel_rfl) (fun _ _ _ h => h) (Or.inl ⟨by rfl, ?_⟩) (by assumption) ?_
                  rotate_left
                  · (intro w hSw; (try dsimp only at hSw); go_simp; try with_reducible rfl)
                  ((try simp only [Act.put]); (try simp only [List.setIfInBounds_toArray]); (try simp only [List.set_cons_succ]); (try simp only [List.set_cons_zero]))
                  refine wpAnyH_done (by kernel_rfl) ?_ _
                  refine NoPanic.normal ?_
                  have IF := Lib.hid (B2.out.trans ((Hid.out hHeld.2.2).mono B2.out.size))
                  have WE := Lib.hid (show wiK true ma mb (k + 1) = false from by rw [WM.out, WV.out, WB.out]; rfl)
                  go_wp2_with fail
                  go_roundw
                  case rel => exact ⟨k + 1, by have := KK.out; omega, by go_num, by rw [WE.out], rfl, IF.out⟩
                  case measure => simp only [intOf]; omega
        · obtain rfl : k = N := by omega
          have dk : decide ((k : Int) < (k : Int)) = false := decide_eq_false (by omega)
          have S := Lib.hid (ST.out.below HBW.out)
          have S0 := Lib.hid S.out.p.lt
          obtain ⟨AX, hX⟩ := S.out.x
          obtain ⟨AY, hY⟩ := S.out.y
          have X := Lib.hid hX
          have Y := Lib.hid hY
          have B := Lib.hid S.out.b
          clear hX hY S ST
          generalize wiK true ma mb k = wb at *
          have hwb : (wb == wb) = true := beq_self_eq_true wb
          have hvv : ((0 : Int) == (0 : Int)) = true := beq_self_eq_true _
          subst hO
          have HCL := CF
          have CL := Lib.hid (show ([] : List Nat).length = 0 from rfl)
          have RC := Lib.hid (SlAt.none qV QM wr)
          have k0 := X.out.c0
          have k1 := X.out.c1
          go_wp2_with fail
          refine (mat_at (v := 0) X.out.s GA.out HW.out).mono ?_
          rintro e w20 ⟨rfl, hb20⟩
          replace X := Lib.hid (X.out.below hb20)
          replace Y := Lib.hid (Y.out.below hb20)
          replace RC := Lib.hid (RC.out.below hb20)
          replace B := Lib.hid (B.out.trans (hb20.mono B.out.size))
          clear hb20 k0 k1
          have k0 := X.out.c0
          have k1 := X.out.c1
          go_wp2_with fail
          refine (mcol_at (k := 0) X.out.s HCL.out CL.out).mono ?_
          rintro e w21 ⟨d21, e21, rfl, hs, hb21⟩
          have R := Lib.hid hs
          replace X := Lib.hid (X.out.below hb21)
          replace Y := Lib.hid (Y.out.below hb21)
          replace RC := Lib.hid (RC.out.below hb21)
          replace B := Lib.hid (B.out.trans (hb21.mono B.out.size))
          clear hs hb21 k0 k1
          go_wp2_with fail
          refine (longs_any (r := true) (n := 0) (m := 0) R.out RC.out CL.out CL.out (decide_eq_true rfl)).mono ?_
          rintro e w22 ⟨rfl, q22, hw⟩
          have hb22 := drew_b hw
          replace X := Lib.hid (X.out.below hb22)
          replace Y := Lib.hid (Y.out.below hb22)
          replace B := Lib.hid (B.out.trans (hb22.mono B.out.size))
          clear hw hb22 R RC
          have k0 := X.out.c0
          have k1 := X.out.c1
          have k2 := Y.out.c0
          have k3 := Y.out.c1
          go_wp2_with fail
          refine (mwi_at (r := wb) X.out.s Y.out.s WK.out).mono ?_
          rintro e w23 ⟨rfl, hb23⟩
          replace B := Lib.hid (B.out.trans (hb23.mono B.out.size))
          clear hb23
          go_wp2_with fail
          go_ret
          exact ⟨rfl, B.out⟩

end Go.Proofs.Ytfiamomadicbpaa
