/-
  TrimKnown.
-/
import Derived.Test.YtbmpeadoicjpnaaMap
import Derived.Test.YtbmpeadoicjpnaaWnkm
import Derived.Deep.RegionHeld3
import Derived.Deep.Cut
namespace Go.Proofs.Ytbmpeadoicjpnaa
open Go.RowKit Go.Sort

set_option maxRecDepth 20000 in
set_option maxHeartbeats 32000000 in
theorem law_TrimKnown (W : World) : Calls Try.prog 3 #[] W fun e w' => e = .returned (.bool true) ∧ Below W.heap.size W w' := by
  have hfl : ∀ (a : Option Addr) (n c : Nat) (w : World), (Instr.field 29 (.agg #[.slice a n c]) 0).run Try.prog w = .ok (.slice a n c) w := fun a n c w => by kernel_rfl
  obtain ⟨iT, hi0, hz0, hz1, hz2⟩ := info_parts Try.infoB
  go_enter Try.func3, Try.ntmps3
  simp only [List.append_eq, List.cons_append, List.nil_append]
  go_wp2_with fail
  refine (awake_any W).mono ?_
  rintro e w0 ⟨rfl, hb0⟩
  have B := Lib.hid hb0
  clear hb0
  obtain ⟨U1, hU⟩ : ∃ U, U = w0.alloc (.cells #[.int .i64 0, .int .u64 1, .int .u64 6, .int .i64 0, .int .u64 2, .int .u64 2, .int .i64 1, .int .u64 5, .int .u64 0] 26) := ⟨_, rfl⟩
  have hu : Below w0.heap.size w0 U1 := by rw [hU]; exact boxb w0 _
  have su : U1.heap.size = w0.heap.size + 1 := by rw [hU]; simp
  have hL : LgAt (fun _ => True) U1 (some ⟨w0.heap.size, 0, none⟩) 3 3 gK := by rw [hU]; exact (lit_at w0 26 gK #[.int .i64 0, .int .u64 1, .int .u64 6, .int .i64 0, .int .u64 2, .int .u64 2, .int .i64 1, .int .u64 5, .int .u64 0] 3 rfl rfl (by decide) (by intro x hx; simp only [gK, List.mem_cons, List.not_mem_nil, or_false] at hx; rcases hx with rfl | rfl | rfl <;> (unfold OkX IntOk; decide)))
  obtain ⟨V1, hV⟩ : ∃ V, V = U1.alloc (.cells #[.slice (some ⟨w0.heap.size, 0, none⟩) 3 3] 29) := ⟨_, rfl⟩
  have hv : Below U1.heap.size U1 V1 := by rw [hV]; exact boxb U1 _
  have hbv := hu.trans (hv.mono hu.size)
  have LG := Lib.hid (show LgV V1 (w0.heap.size + 1) (some ⟨w0.heap.size, 0, none⟩) 3 3 gK by rw [hV, ← su]; exact LgV.box hL 29)
  replace B := Lib.hid (B.out.trans (hbv.mono B.out.size))
  have HV := Lib.hid (show (w0.alloc (.cells #[.int .i64 0, .int .u64 1, .int .u64 6, .int .i64 0, .int .u64 2, .int .u64 2, .int .i64 1, .int .u64 5, .int .u64 0] 26)).alloc (.cells #[.slice (some ⟨w0.heap.size, 0, none⟩) 3 3] 29) = V1 by rw [hV, hU])
  clear hU hu su hL hV hv hbv
  go_upto_region 4 with fail
  rw [HV.out]
  clear HV
  generalize w0.heap.size + 1 = pG at *
  generalize (some ⟨w0.heap.size, 0, none⟩ : Option Addr) = aG at *
  have kG : V1.cell? ⟨pG, 0, none⟩ = some (.slice aG 3 3) := LG.out.ce
  go_wp2_with fail
  refine (less_k LG.out.ro (by decide) 2 rfl (by decide) k_less).mono ?_
  rintro e w2 ⟨aA, cA, rfl, hL, hb⟩
  obtain ⟨V2, hV⟩ : ∃ V, V = w2.alloc (.cells #[.slice aA 3 cA] 29) := ⟨_, rfl⟩
  have hv : Below w2.heap.size w2 V2 := by rw [hV]; exact boxb w2 _
  have hbv := hb.trans (hv.mono hb.size)
  have LA := Lib.hid (show LgV V2 w2.heap.size aA cA 3 aK by rw [hV]; exact LgV.box hL 29)
  replace LG := Lib.hid (LG.out.below hbv)
  replace B := Lib.hid (B.out.trans (hbv.mono B.out.size))
  have HV := Lib.hid hV.symm
  clear hV hv hbv hb hL kG
  go_upto_region 5 with fail
  rw [HV.out]
  clear HV
  generalize w2.heap.size = pA at *
  have kG : V2.cell? ⟨pG, 0, none⟩ = some (.slice aG 3 3) := LG.out.ce
  go_wp2_with fail
  refine (less_k LG.out.ro (by decide) 6 rfl (by decide) k_less6).mono ?_
  rintro e u5 ⟨a5, c5, rfl, hL5, hb5⟩
  have Q5 := Lib.hid hL5
  have b5 := Lib.hid hb5
  clear hL5 hb5
  go_wp2_with fail
  refine (purge_k (k := 2) Q5.out (by decide) k_purge rfl).mono ?_
  rintro e v5 ⟨aB, cB, rfl, hL, hb6⟩
  have hb := b5.out.trans (hb6.mono b5.out.size)
  clear hb6 b5 Q5
  obtain ⟨V3, hV⟩ : ∃ V, V = v5.alloc (.cells #[.slice aB 2 cB] 29) := ⟨_, rfl⟩
  have hv : Below v5.heap.size v5 V3 := by rw [hV]; exact boxb v5 _
  have hbv := hb.trans (hv.mono hb.size)
  have LB := Lib.hid (show LgV V3 v5.heap.size aB cB 2 bK by rw [hV]; exact LgV.box hL 29)
  replace LG := Lib.hid (LG.out.below hbv)
  replace LA := Lib.hid (LA.out.below hbv)
  replace B := Lib.hid (B.out.trans (hbv.mono B.out.size))
  have HV := Lib.hid hV.symm
  clear hV hv hbv hb hL kG
  go_upto_region 6 with fail
  rw [HV.out]
  clear HV
  generalize v5.heap.size = pB at *
  have kG : V3.cell? ⟨pG, 0, none⟩ = some (.slice aG 3 3) := LG.out.ce
  go_wp2_with fail
  refine (but_k LG.out.ro (by decide) 6 rfl (by decide) (by unfold IntOk; decide) k_but).mono ?_
  rintro e w4 ⟨aC, cC, rfl, hL, hb⟩
  obtain ⟨V4, hV⟩ : ∃ V, V = w4.alloc (.cells #[.slice aC 3 cC] 29) := ⟨_, rfl⟩
  have hv : Below w4.heap.size w4 V4 := by rw [hV]; exact boxb w4 _
  have hbv := hb.trans (hv.mono hb.size)
  have LC := Lib.hid (show LgV V4 w4.heap.size aC cC 3 aK by rw [hV]; exact LgV.box hL 29)
  replace LG := Lib.hid (LG.out.below hbv)
  replace LA := Lib.hid (LA.out.below hbv)
  replace LB := Lib.hid (LB.out.below hbv)
  replace B := Lib.hid (B.out.trans (hbv.mono B.out.size))
  have HV := Lib.hid hV.symm
  clear hV hv hbv hb hL kG
  go_upto_region 7 with fail
  rw [HV.out]
  clear HV
  generalize w4.heap.size = pC at *
  have kG : V4.cell? ⟨pG, 0, none⟩ = some (.slice aG 3 3) := LG.out.ce
  go_wp2_with fail
  refine (add_k (k := 3) LG.out.ro (by decide) ⟨0, 2, 4⟩ (by unfold OkX IntOk; decide) rfl rfl rfl k_add rfl).mono ?_
  rintro e w5 ⟨aD, cD, rfl, hL, hb⟩
  obtain ⟨V5, hV⟩ : ∃ V, V = w5.alloc (.cells #[.slice aD 3 cD] 29) := ⟨_, rfl⟩
  have hv : Below w5.heap.size w5 V5 := by rw [hV]; exact boxb w5 _
  have hbv := hb.trans (hv.mono hb.size)
  have LD := Lib.hid (show LgV V5 w5.heap.size aD cD 3 dK by rw [hV]; exact LgV.box hL 29)
  replace LG := Lib.hid (LG.out.below hbv)
  replace LA := Lib.hid (LA.out.below hbv)
  replace LB := Lib.hid (LB.out.below hbv)
  replace LC := Lib.hid (LC.out.below hbv)
  replace B := Lib.hid (B.out.trans (hbv.mono B.out.size))
  have HV := Lib.hid hV.symm
  clear hV hv hbv hb hL kG
  go_upto_region 8 with fail
  rw [HV.out]
  clear HV
  generalize w5.heap.size = pD at *
  have kG : V5.cell? ⟨pG, 0, none⟩ = some (.slice aG 3 3) := LG.out.ce
  go_wp2_with fail
  refine (add_k (k := 3) LG.out.ro (by decide) ⟨16, 1, 0⟩ (by unfold OkX IntOk; decide) rfl rfl rfl k_add16 rfl).mono ?_
  rintro e w6 ⟨aE, cE, rfl, hL, hb⟩
  obtain ⟨V6, hV⟩ : ∃ V, V = w6.alloc (.cells #[.slice aE 3 cE] 29) := ⟨_, rfl⟩
  have hv : Below w6.heap.size w6 V6 := by rw [hV]; exact boxb w6 _
  have hbv := hb.trans (hv.mono hb.size)
  have LE := Lib.hid (show LgV V6 w6.heap.size aE cE 3 gK by rw [hV]; exact LgV.box hL 29)
  replace LG := Lib.hid (LG.out.below hbv)
  replace LA := Lib.hid (LA.out.below hbv)
  replace LB := Lib.hid (LB.out.below hbv)
  replace LC := Lib.hid (LC.out.below hbv)
  replace LD := Lib.hid (LD.out.below hbv)
  replace B := Lib.hid (B.out.trans (hbv.mono B.out.size))
  have HV := Lib.hid hV.symm
  clear hV hv hbv hb hL kG
  go_upto_region 9 with fail
  rw [HV.out]
  clear HV
  generalize w6.heap.size = pE at *
  obtain ⟨U9, hU⟩ : ∃ U, U = V6.alloc (.cells #[.int .i64 0, .int .u64 1, .int .u64 4, .int .i64 0, .int .u64 3, .int .u64 1, .int .i64 1, .int .u64 4, .int .u64 1, .int .i64 2, .int .u64 1, .int .u64 1] 26) := ⟨_, rfl⟩
  have hu : Below V6.heap.size V6 U9 := by rw [hU]; exact boxb V6 _
  have LQ := Lib.hid (show LgAt (fun _ => True) U9 (some ⟨V6.heap.size, 0, none⟩) 4 4 hK2 by rw [hU]; exact (lit_at V6 26 hK2 #[.int .i64 0, .int .u64 1, .int .u64 4, .int .i64 0, .int .u64 3, .int .u64 1, .int .i64 1, .int .u64 4, .int .u64 1, .int .i64 2, .int .u64 1, .int .u64 1] 4 rfl rfl (by decide) (by intro x hx; simp only [hK2, List.mem_cons, List.not_mem_nil, or_false] at hx; rcases hx with rfl | rfl | rfl | rfl <;> (unfold OkX IntOk; decide))))
  have CJ := Lib.hid (join_k (k := 4) (LG.out.ro.below hu) LQ.out (by decide) (by decide) k_join rfl)
  have b9 := Lib.hid hu
  have HU := Lib.hid hU.symm
  clear hu hU
  have kG : V6.cell? ⟨pG, 0, none⟩ = some (.slice aG 3 3) := LG.out.ce
  go_wp2_with fail
  rw [HU.out]
  refine CJ.out.mono ?_
  rintro e w9 ⟨aF, cF, rfl, hL, hb6⟩
  have hb := b9.out.trans (hb6.mono b9.out.size)
  clear hb6 b9 HU CJ LQ
  obtain ⟨V7, hV⟩ : ∃ V, V = w9.alloc (.cells #[.slice aF 4 cF] 29) := ⟨_, rfl⟩
  have hv : Below w9.heap.size w9 V7 := by rw [hV]; exact boxb w9 _
  have hbv := hb.trans (hv.mono hb.size)
  have LF := Lib.hid (show LgV V7 w9.heap.size aF cF 4 fK by rw [hV]; exact LgV.box hL 29)
  replace LG := Lib.hid (LG.out.below hbv)
  replace LA := Lib.hid (LA.out.below hbv)
  replace LB := Lib.hid (LB.out.below hbv)
  replace LC := Lib.hid (LC.out.below hbv)
  replace LD := Lib.hid (LD.out.below hbv)
  replace LE := Lib.hid (LE.out.below hbv)
  replace B := Lib.hid (B.out.trans (hbv.mono B.out.size))
  have HV := Lib.hid hV.symm
  clear hV hv hbv hb hL kG
  go_upto_region 10 with fail
  rw [HV.out]
  clear HV
  generalize w9.heap.size = pF at *
  obtain ⟨U8, hU⟩ : ∃ U, U = V7.alloc (.cells #[.int .i64 1, .int .u64 1, .int .u64 0, .int .i64 0, .int .u64 1, .int .u64 0] 26) := ⟨_, rfl⟩
  have hu : Below V7.heap.size V7 U8 := by rw [hU]; exact boxb V7 _
  have su : U8.heap.size = V7.heap.size + 1 := by rw [hU]; simp
  have hL : LgAt (fun _ => True) U8 (some ⟨V7.heap.size, 0, none⟩) 2 2 badK := by rw [hU]; exact (lit_at V7 26 badK #[.int .i64 1, .int .u64 1, .int .u64 0, .int .i64 0, .int .u64 1, .int .u64 0] 2 rfl rfl (by decide) (by intro x hx; simp only [badK, List.mem_cons, List.not_mem_nil, or_false] at hx; rcases hx with rfl | rfl <;> (unfold OkX IntOk; decide)))
  obtain ⟨V8, hV⟩ : ∃ V, V = U8.alloc (.cells #[.slice (some ⟨V7.heap.size, 0, none⟩) 2 2] 29) := ⟨_, rfl⟩
  have hv : Below U8.heap.size U8 V8 := by rw [hV]; exact boxb U8 _
  have hbv := hu.trans (hv.mono hu.size)
  have LX := Lib.hid (show LgV V8 (V7.heap.size + 1) (some ⟨V7.heap.size, 0, none⟩) 2 2 badK by rw [hV, ← su]; exact LgV.box hL 29)
  replace LG := Lib.hid (LG.out.below hbv)
  replace LA := Lib.hid (LA.out.below hbv)
  replace LB := Lib.hid (LB.out.below hbv)
  replace LC := Lib.hid (LC.out.below hbv)
  replace LD := Lib.hid (LD.out.below hbv)
  replace LE := Lib.hid (LE.out.below hbv)
  replace LF := Lib.hid (LF.out.below hbv)
  replace B := Lib.hid (B.out.trans (hbv.mono B.out.size))
  have HV := Lib.hid (show (V7.alloc (.cells #[.int .i64 1, .int .u64 1, .int .u64 0, .int .i64 0, .int .u64 1, .int .u64 0] 26)).alloc (.cells #[.slice (some ⟨V7.heap.size, 0, none⟩) 2 2] 29) = V8 by rw [hV, hU])
  clear hU hu su hL hV hv hbv
  go_upto_region 11 with fail
  rw [HV.out]
  clear HV
  generalize V7.heap.size + 1 = pX at *
  generalize (some ⟨V7.heap.size, 0, none⟩ : Option Addr) = aX at *
  have kG : V8.cell? ⟨pG, 0, none⟩ = some (.slice aG 3 3) := LG.out.ce
  go_wp2_with fail
  refine (put_k (k := 10) LG.out.ro (by decide) k_put rfl).mono ?_
  rintro e w11 ⟨a11, c11, rfl, hO, hb5⟩
  have S11 := Lib.hid (show SlAt bV 256 w11 a11 c11 gB by obtain ⟨-, a2, c2, e2, hs⟩ := own_sl (M := 256) (xs := gB) hO (by decide); cases e2; exact hs)
  have b5 := Lib.hid hb5
  clear hO hb5
  go_wp2_with fail
  refine (get_k (k := 3) S11.out rfl (by decide) k_out.1 k_out.2 rfl).mono ?_
  rintro e u11 ⟨aH, cH, rfl, hL, hb6⟩
  have hb := b5.out.trans (hb6.mono b5.out.size)
  clear hb6 b5 S11
  obtain ⟨V9, hV⟩ : ∃ V, V = u11.alloc (.cells #[.slice aH 3 cH] 29) := ⟨_, rfl⟩
  have hv : Below u11.heap.size u11 V9 := by rw [hV]; exact boxb u11 _
  have hbv := hb.trans (hv.mono hb.size)
  have LH := Lib.hid (show LgV V9 u11.heap.size aH cH 3 gK by rw [hV]; exact LgV.box hL 29)
  replace LG := Lib.hid (LG.out.below hbv)
  replace LA := Lib.hid (LA.out.below hbv)
  replace LB := Lib.hid (LB.out.below hbv)
  replace LC := Lib.hid (LC.out.below hbv)
  replace LD := Lib.hid (LD.out.below hbv)
  replace LE := Lib.hid (LE.out.below hbv)
  replace LF := Lib.hid (LF.out.below hbv)
  replace LX := Lib.hid (LX.out.below hbv)
  replace B := Lib.hid (B.out.trans (hbv.mono B.out.size))
  have HV := Lib.hid hV.symm
  clear hV hv hbv hb hL kG
  go_upto_region 12 with fail
  rw [HV.out]
  clear HV
  generalize u11.heap.size = pH at *
  have kG : V9.cell? ⟨pG, 0, none⟩ = some (.slice aG 3 3) := LG.out.ce
  go_wp2_with fail
  refine (put_k (k := 10) LG.out.ro (by decide) k_put rfl).mono ?_
  rintro e w12 ⟨a12, c12, rfl, hO, hb5⟩
  have O := Lib.hid hO
  have b5 := Lib.hid hb5
  clear hO hb5
  go_wp2_with (at_builtin; refine wpList_append_opt rfl (.tmp 53) (.tmp 54) 37 rfl V9.heap.size 5 iT (.int .u8 0) 1 1 Try.underlying37 hi0 hz0 hz1 hz2 rfl (by decide) _ _ _ rfl (World.ownsRow.alloc O.out _) (some ⟨w12.heap.size, 0, none⟩) 1 1 [bV 0] rfl rfl (fun e => by cases e) (fun ad e => by cases e; exact World.news_of_block (heap_alloc_new _ _)) (by simp [bV, Value.oneCell']) (by unfold maxLen; omega) (by omega) (by have := b5.out.size; simp; omega) ?_
               intro v2 w13 hown2 hgr2
               have hb2 : Below V9.heap.size V9 w13 := (b5.out.alloc b5.out.size _).grown hgr2 (by have := b5.out.size; simp; omega) (fun k h => (O.out.lt k h).1)
               have R2 := Lib.hid hown2
               have BB := Lib.hid hb2
               clear hown2 hgr2 hb2)
  obtain ⟨-, a13, c13, rfl, hs13⟩ := own_sl (M := 256) (xs := gB ++ [0]) R2.out (by decide)
  have S13 := Lib.hid hs13
  clear hs13 R2 O b5
  go_wp2_with fail
  refine (get_k (k := 0) S13.out rfl (by decide) k_out1.1 k_out1.2 rfl).mono ?_
  rintro e u12 ⟨aJ, cJ, rfl, hL, hb6⟩
  have hb := BB.out.trans (hb6.mono BB.out.size)
  clear hb6 BB S13
  obtain ⟨V10, hV⟩ : ∃ V, V = u12.alloc (.cells #[.slice aJ 0 cJ] 29) := ⟨_, rfl⟩
  have hv : Below u12.heap.size u12 V10 := by rw [hV]; exact boxb u12 _
  have hbv := hb.trans (hv.mono hb.size)
  have LJ := Lib.hid (show LgV V10 u12.heap.size aJ cJ 0 [] by rw [hV]; exact LgV.box hL 29)
  replace LG := Lib.hid (LG.out.below hbv)
  replace LA := Lib.hid (LA.out.below hbv)
  replace LB := Lib.hid (LB.out.below hbv)
  replace LC := Lib.hid (LC.out.below hbv)
  replace LD := Lib.hid (LD.out.below hbv)
  replace LE := Lib.hid (LE.out.below hbv)
  replace LF := Lib.hid (LF.out.below hbv)
  replace LX := Lib.hid (LX.out.below hbv)
  replace LH := Lib.hid (LH.out.below hbv)
  replace B := Lib.hid (B.out.trans (hbv.mono B.out.size))
  have HV := Lib.hid hV.symm
  clear hV hv hbv hb hL kG
  go_upto_region 13 with fail
  rw [HV.out]
  clear HV
  generalize u12.heap.size = pJ at *
  clear LJ hi0 hz0 hz1 hz2
  clear iT
  obtain ⟨bD, oD, rfl, -, -, -, -, z5⟩ := LD.out.ro.cell (i := 1) (by decide)
  have kZ : V10.cell? ⟨bD, oD + 1 * 3 + 2, none⟩ = some (.int .u64 4) := z5
  clear z5
  have kG : V10.cell? ⟨pG, 0, none⟩ = some (.slice aG 3 3) := LG.out.ce
  have kA : V10.cell? ⟨pA, 0, none⟩ = some (.slice aA 3 cA) := LA.out.ce
  have kB : V10.cell? ⟨pB, 0, none⟩ = some (.slice aB 2 cB) := LB.out.ce
  have kC : V10.cell? ⟨pC, 0, none⟩ = some (.slice aC 3 cC) := LC.out.ce
  have kD : V10.cell? ⟨pD, 0, none⟩ = some (.slice (some ⟨bD, oD, none⟩) 3 cD) := LD.out.ce
  have kE : V10.cell? ⟨pE, 0, none⟩ = some (.slice aE 3 cE) := LE.out.ce
  have kF : V10.cell? ⟨pF, 0, none⟩ = some (.slice aF 4 cF) := LF.out.ce
  have kX : V10.cell? ⟨pX, 0, none⟩ = some (.slice aX 2 2) := LX.out.ce
  have kH : V10.cell? ⟨pH, 0, none⟩ = some (.slice aH 3 cH) := LH.out.ce
  refine wp_region_noPanic ?_
  refine wp_region_held_drew (S := (fun w' => w'.cell? ⟨pG, 0, none⟩ = some (.slice aG 3 3) ∧ w'.cell? ⟨pA, 0, none⟩ = some (.slice aA 3 cA) ∧ w'.cell? ⟨pB, 0, none⟩ = some (.slice aB 2 cB) ∧ w'.cell? ⟨pC, 0, none⟩ = some (.slice aC 3 cC) ∧ w'.cell? ⟨pD, 0, none⟩ = some (.slice (some ⟨bD, oD, none⟩) 3 cD) ∧ w'.cell? ⟨pE, 0, none⟩ = some (.slice aE 3 cE) ∧ w'.cell? ⟨pF, 0, none⟩ = some (.slice aF 4 cF) ∧ w'.cell? ⟨pX, 0, none⟩ = some (.slice aX 2 2) ∧ w'.cell? ⟨pH, 0, none⟩ = some (.slice aH 3 cH) ∧ w'.cell? ⟨bD, oD + 1 * 3 + 2, none⟩ = some (.int .u64 4) ∧ Hid (Below V10.heap.size V10 w'))) (by kernel_rfl) ?_ (fun hHeld => ?_)
  · exact ⟨cell_go kG (drew_below V10), cell_go kA (drew_below V10), cell_go kB (drew_below V10), cell_go kC (drew_below V10), cell_go kD (drew_below V10), cell_go kE (drew_below V10), cell_go kF (drew_below V10), cell_go kX (drew_below V10), cell_go kH (drew_below V10), cell_go kZ (drew_below V10), Lib.hid (drew_below V10)⟩
  generalize V10.drew = w_ at *
  refine wpAnyH_take (i := 0) (oi := { dst := some 59, op := Op.fieldAddr 29 (Operand.tmp 2) 0, type := 0, pos := "law.go:53", after := #[], guard := none }) (v := ?_) rfl (by kernel_rfl) (by kernel_rfl) (by kernel_rfl) (fun _ _ _ h => h) (Or.inl ⟨by rfl, ?_⟩) (by assumption) ?_
  rotate_left
  · (intro w hSw; (try dsimp only at hSw); go_simp; try with_reducible rfl)
  ((try simp only [Act.put]); (try simp only [List.setIfInBounds_toArray]); (try simp only [List.set_cons_succ]); (try simp only [List.set_cons_zero]))
  refine wpAnyH_take (i := 1) (oi := { dst := some 60, op := Op.load 27 (Operand.tmp 59), type := 27, pos := "law.go:53", after := #[{ on := 0, ground := Ground.data }], guard := none }) (v := ?_) rfl (by kernel_rfl) (by kernel_rfl) (by kernel_rfl) (fun _ _ _ h => h) (Or.inl ⟨by rfl, ?_⟩) (by assumption) ?_
  rotate_left
  · (intro w hSw; (try dsimp only at hSw); go_simp; try with_reducible rfl)
  ((try simp only [Act.put]); (try simp only [List.setIfInBounds_toArray]); (try simp only [List.set_cons_succ]); (try simp only [List.set_cons_zero]))
  refine wpAnyH_take (i := 3) (oi := { dst := some 62, op := Op.build 43 #[(0, Operand.const (Value.int IntKind.i64 0)), (1, Operand.const (Value.int IntKind.u64 1)), (2, Operand.const (Value.int IntKind.u64 4))], type := 43, pos := "law.go:53", after := #[], guard := none }) (v := ?_) rfl (by kernel_rfl) (by kernel_rfl) (by kernel_rfl) (fun _ _ _ h => h) (Or.inl ⟨by rfl, ?_⟩) (by assumption) ?_
  rotate_left
  · (intro w hSw; (try dsimp only at hSw); go_simp; try with_reducible rfl)
  ((try simp only [Act.put]); (try simp only [List.setIfInBounds_toArray]); (try simp only [List.set_cons_succ]); (try simp only [List.set_cons_zero]))
  refine wpAnyH_take (i := 4) (oi := { dst := some 63, op := Op.build 43 #[(0, Operand.const (Value.int IntKind.i64 0)), (1, Operand.const (Value.int IntKind.u64 2))], type := 43, pos := "law.go:53", after := #[], guard := none }) (v := ?_) rfl (by kernel_rfl) (by kernel_rfl) (by kernel_rfl) (fun _ _ _ h => h) (Or.inl ⟨by rfl, ?_⟩) (by assumption) ?_
  rotate_left
  · (intro w hSw; (try dsimp only at hSw); go_simp; try with_reducible rfl)
  ((try simp only [Act.put]); (try simp only [List.setIfInBounds_toArray]); (try simp only [List.set_cons_succ]); (try simp only [List.set_cons_zero]))
  refine wpAnyH_take (i := 5) (oi := { dst := some 64, op := Op.build 43 #[(0, Operand.const (Value.int IntKind.i64 1)), (1, Operand.const (Value.int IntKind.u64 5))], type := 43, pos := "law.go:53", after := #[], guard := none }) (v := ?_) rfl (by kernel_rfl) (by kernel_rfl) (by kernel_rfl) (fun _ _ _ h => h) (Or.inl ⟨by rfl, ?_⟩) (by assumption) ?_
  rotate_left
  · (intro w hSw; (try dsimp only at hSw); go_simp; try with_reducible rfl)
  ((try simp only [Act.put]); (try simp only [List.setIfInBounds_toArray]); (try simp only [List.set_cons_succ]); (try simp only [List.set_cons_zero]))
  refine' neck2 (S := (fun w' => w'.cell? ⟨pG, 0, none⟩ = some (.slice aG 3 3) ∧ w'.cell? ⟨pA, 0, none⟩ = some (.slice aA 3 cA) ∧ w'.cell? ⟨pB, 0, none⟩ = some (.slice aB 2 cB) ∧ w'.cell? ⟨pC, 0, none⟩ = some (.slice aC 3 cC) ∧ w'.cell? ⟨pD, 0, none⟩ = some (.slice (some ⟨bD, oD, none⟩) 3 cD) ∧ w'.cell? ⟨pE, 0, none⟩ = some (.slice aE 3 cE) ∧ w'.cell? ⟨pF, 0, none⟩ = some (.slice aF 4 cF) ∧ w'.cell? ⟨pX, 0, none⟩ = some (.slice aX 2 2) ∧ w'.cell? ⟨pH, 0, none⟩ = some (.slice aH 3 cH) ∧ w'.cell? ⟨bD, oD + 1 * 3 + 2, none⟩ = some (.int .u64 4) ∧ Hid (Below V10.heap.size V10 w'))) (fun N8 => ?_) (fun s61 s65 y8 hHeld => ?_)
  rotate_left
  · focus
      refine wpAnyH_ready (rs := [2, 6]) (by kernel_rfl) (by simp) ?_
      refine AllReadyH.cons (o := { dst := some 61, op := Op.call { callee := Callee.value (Operand.func 18), args := #[Operand.tmp 60], argTypes := #[27] }, type := 40, pos := "law.go:53", after := #[{ on := 1, ground := Ground.data }], guard := none }) rfl (fun K hK => ?_) (AllReadyH.cons (o := { dst := some 65, op := Op.buildSlice 40 3 #[(0, Operand.tmp 62), (1, Operand.tmp 63), (2, Operand.tmp 64)], type := 40, pos := "law.go:53", after := #[{ on := 3, ground := Ground.data }, { on := 4, ground := Ground.data }, { on := 5, ground := Ground.data }], guard := none }) rfl (fun K hK => ?_) AllReadyH.nil)
      · skip
        go_simp
        refine (log_k (LA.out.ro.below (Hid.out hHeld.2.2.2.2.2.2.2.2.2.2)) (by decide)).mono ?_
        rintro e v2 ⟨a2, c2, rfl, h5, hb⟩
        have R := Lib.hid h5
        clear h5
        try go_wp2_with fail
        refine hK.out _ _ ?_ (fun hNew => ?_)
        · exact ⟨cell_go hHeld.1 hb, cell_go hHeld.2.1 hb, cell_go hHeld.2.2.1 hb, cell_go hHeld.2.2.2.1 hb, cell_go hHeld.2.2.2.2.1 hb, cell_go hHeld.2.2.2.2.2.1 hb, cell_go hHeld.2.2.2.2.2.2.1 hb, cell_go hHeld.2.2.2.2.2.2.2.1 hb, cell_go hHeld.2.2.2.2.2.2.2.2.1 hb, cell_go hHeld.2.2.2.2.2.2.2.2.2.1 hb, Lib.hid ((Hid.out hHeld.2.2.2.2.2.2.2.2.2.2).trans (hb.mono (Hid.out hHeld.2.2.2.2.2.2.2.2.2.2).size))⟩
        clear hK K
        replace hHeld := hNew
        clear hNew
        ((try simp only [Act.put]); (try simp only [List.setIfInBounds_toArray]); (try simp only [List.set_cons_succ]); (try simp only [List.set_cons_zero]))
        refine wpAnyH_ready (rs := [6]) (by kernel_rfl) (by simp) ?_
        refine AllReadyH.cons (o := { dst := some 65, op := Op.buildSlice 40 3 #[(0, Operand.tmp 62), (1, Operand.tmp 63), (2, Operand.tmp 64)], type := 40, pos := "law.go:53", after := #[{ on := 3, ground := Ground.data }, { on := 4, ground := Ground.data }, { on := 5, ground := Ground.data }], guard := none }) rfl (fun K hK => ?_) AllReadyH.nil
        go_simp
        have Q := Lib.hid (lit_at v2 43 aK #[.int .i64 0, .int .u64 1, .int .u64 4, .int .i64 0, .int .u64 2, .int .u64 0, .int .i64 1, .int .u64 5, .int .u64 0] 3 rfl rfl (by decide) (by intro x hx; simp only [aK, List.mem_cons, List.not_mem_nil, or_false] at hx; rcases hx with rfl | rfl | rfl <;> (unfold OkX IntOk; decide)))
        replace R := Lib.hid (R.out.below (boxb v2 (.cells #[.int .i64 0, .int .u64 1, .int .u64 4, .int .i64 0, .int .u64 2, .int .u64 0, .int .i64 1, .int .u64 5, .int .u64 0] 43)))
        have hb := boxb v2 (.cells #[.int .i64 0, .int .u64 1, .int .u64 4, .int .i64 0, .int .u64 2, .int .u64 0, .int .i64 1, .int .u64 5, .int .u64 0] 43)
        generalize hw : v2.alloc (.cells #[.int .i64 0, .int .u64 1, .int .u64 4, .int .i64 0, .int .u64 2, .int .u64 0, .int .i64 1, .int .u64 5, .int .u64 0] 43) = v6 at *
        clear hw
        try go_wp2_with fail
        refine hK.out _ _ ?_ (fun hNew => ?_)
        · exact ⟨cell_go hHeld.1 hb, cell_go hHeld.2.1 hb, cell_go hHeld.2.2.1 hb, cell_go hHeld.2.2.2.1 hb, cell_go hHeld.2.2.2.2.1 hb, cell_go hHeld.2.2.2.2.2.1 hb, cell_go hHeld.2.2.2.2.2.2.1 hb, cell_go hHeld.2.2.2.2.2.2.2.1 hb, cell_go hHeld.2.2.2.2.2.2.2.2.1 hb, cell_go hHeld.2.2.2.2.2.2.2.2.2.1 hb, Lib.hid ((Hid.out hHeld.2.2.2.2.2.2.2.2.2.2).trans (hb.mono (Hid.out hHeld.2.2.2.2.2.2.2.2.2.2).size))⟩
        clear hK K
        replace hHeld := hNew
        clear hNew
        ((try simp only [Act.put]); (try simp only [List.setIfInBounds_toArray]); (try simp only [List.set_cons_succ]); (try simp only [List.set_cons_zero]))
        as_aux_lemma =>
          refine wpAnyH_ready (rs := [7]) (by kernel_rfl) (by simp) ?_
          refine AllReadyH.cons (o := { dst := some 66, op := Op.call { callee := Callee.value (Operand.func 17), args := #[Operand.tmp 61, Operand.tmp 65], argTypes := #[40, 40] }, type := 4, pos := "law.go:53", after := #[{ on := 2, ground := Ground.data }, { on := 6, ground := Ground.data }, { on := 2, ground := Ground.chain }], guard := none }) rfl (fun K hK => ?_) AllReadyH.nil
          go_simp
          refine (logs_any R.out Q.out (r := true) (by decide)).mono ?_
          rintro e v7 ⟨rfl, nn, hw⟩
          have hb := drew_b hw
          clear hw R Q
          try go_wp2_with fail
          refine hK.out _ _ ?_ (fun hNew => ?_)
          · exact ⟨cell_go hHeld.1 hb, cell_go hHeld.2.1 hb, cell_go hHeld.2.2.1 hb, cell_go hHeld.2.2.2.1 hb, cell_go hHeld.2.2.2.2.1 hb, cell_go hHeld.2.2.2.2.2.1 hb, cell_go hHeld.2.2.2.2.2.2.1 hb, cell_go hHeld.2.2.2.2.2.2.2.1 hb, cell_go hHeld.2.2.2.2.2.2.2.2.1 hb, cell_go hHeld.2.2.2.2.2.2.2.2.2.1 hb, Lib.hid ((Hid.out hHeld.2.2.2.2.2.2.2.2.2.2).trans (hb.mono (Hid.out hHeld.2.2.2.2.2.2.2.2.2.2).size))⟩
          clear hK K
          replace hHeld := hNew
          clear hNew
          ((try simp only [Act.put]); (try simp only [List.setIfInBounds_toArray]); (try simp only [List.set_cons_succ]); (try simp only [List.set_cons_zero]))
          refine gen1 61 (by kernel_rfl) (fun s61 => ?_)
          ((try simp only [Act.put]); (try simp only [List.setIfInBounds_toArray]); (try simp only [List.set_cons_succ]); (try simp only [List.set_cons_zero]))
          refine gen1 65 (by kernel_rfl) (fun s65 => ?_)
          ((try simp only [Act.put]); (try simp only [List.setIfInBounds_toArray]); (try simp only [List.set_cons_succ]); (try simp only [List.set_cons_zero]))
          refine listed_to (l' := #[true, true, true, true, true, true, true, true, false, false, false, false, false, false, false, false, false, false, false, false, false, false, false, false, false, false, false, false, false, false, false, false, false, false, false, false, false, false, false, false, false, false, false, false, false, false, false, false, false, false, false, false, false, false, false, false, false, false, false, false, false, false, false, false, false, false, false, false, false, false, false, false, false, false, false, false, false, false, false, false, false, false, false, false, false, false, false, false, false, false, false, false, false, false, false, false, false, false, false, false, false]) (by kernel_rfl) ?_
          refine genw hHeld (fun y hy => ?_)
          exact N8 s61 s65 y hy
      · skip
        go_simp
        have Q := Lib.hid (lit_at w_ 43 aK #[.int .i64 0, .int .u64 1, .int .u64 4, .int .i64 0, .int .u64 2, .int .u64 0, .int .i64 1, .int .u64 5, .int .u64 0] 3 rfl rfl (by decide) (by intro x hx; simp only [aK, List.mem_cons, List.not_mem_nil, or_false] at hx; rcases hx with rfl | rfl | rfl <;> (unfold OkX IntOk; decide)))
        have hb := boxb w_ (.cells #[.int .i64 0, .int .u64 1, .int .u64 4, .int .i64 0, .int .u64 2, .int .u64 0, .int .i64 1, .int .u64 5, .int .u64 0] 43)
        generalize hw : w_.alloc (.cells #[.int .i64 0, .int .u64 1, .int .u64 4, .int .i64 0, .int .u64 2, .int .u64 0, .int .i64 1, .int .u64 5, .int .u64 0] 43) = v6 at *
        clear hw
        try go_wp2_with fail
        refine hK.out _ _ ?_ (fun hNew => ?_)
        · exact ⟨cell_go hHeld.1 hb, cell_go hHeld.2.1 hb, cell_go hHeld.2.2.1 hb, cell_go hHeld.2.2.2.1 hb, cell_go hHeld.2.2.2.2.1 hb, cell_go hHeld.2.2.2.2.2.1 hb, cell_go hHeld.2.2.2.2.2.2.1 hb, cell_go hHeld.2.2.2.2.2.2.2.1 hb, cell_go hHeld.2.2.2.2.2.2.2.2.1 hb, cell_go hHeld.2.2.2.2.2.2.2.2.2.1 hb, Lib.hid ((Hid.out hHeld.2.2.2.2.2.2.2.2.2.2).trans (hb.mono (Hid.out hHeld.2.2.2.2.2.2.2.2.2.2).size))⟩
        clear hK K
        replace hHeld := hNew
        clear hNew
        ((try simp only [Act.put]); (try simp only [List.setIfInBounds_toArray]); (try simp only [List.set_cons_succ]); (try simp only [List.set_cons_zero]))
        refine wpAnyH_ready (rs := [2]) (by kernel_rfl) (by simp) ?_
        refine AllReadyH.cons (o := { dst := some 61, op := Op.call { callee := Callee.value (Operand.func 18), args := #[Operand.tmp 60], argTypes := #[27] }, type := 40, pos := "law.go:53", after := #[{ on := 1, ground := Ground.data }], guard := none }) rfl (fun K hK => ?_) AllReadyH.nil
        go_simp
        refine (log_k (LA.out.ro.below (Hid.out hHeld.2.2.2.2.2.2.2.2.2.2)) (by decide)).mono ?_
        rintro e v2 ⟨a2, c2, rfl, h5, hb⟩
        replace Q := Lib.hid (Q.out.below hb)
        have R := Lib.hid h5
        clear h5
        try go_wp2_with fail
        refine hK.out _ _ ?_ (fun hNew => ?_)
        · exact ⟨cell_go hHeld.1 hb, cell_go hHeld.2.1 hb, cell_go hHeld.2.2.1 hb, cell_go hHeld.2.2.2.1 hb, cell_go hHeld.2.2.2.2.1 hb, cell_go hHeld.2.2.2.2.2.1 hb, cell_go hHeld.2.2.2.2.2.2.1 hb, cell_go hHeld.2.2.2.2.2.2.2.1 hb, cell_go hHeld.2.2.2.2.2.2.2.2.1 hb, cell_go hHeld.2.2.2.2.2.2.2.2.2.1 hb, Lib.hid ((Hid.out hHeld.2.2.2.2.2.2.2.2.2.2).trans (hb.mono (Hid.out hHeld.2.2.2.2.2.2.2.2.2.2).size))⟩
        clear hK K
        replace hHeld := hNew
        clear hNew
        ((try simp only [Act.put]); (try simp only [List.setIfInBounds_toArray]); (try simp only [List.set_cons_succ]); (try simp only [List.set_cons_zero]))
        as_aux_lemma =>
          refine wpAnyH_ready (rs := [7]) (by kernel_rfl) (by simp) ?_
          refine AllReadyH.cons (o := { dst := some 66, op := Op.call { callee := Callee.value (Operand.func 17), args := #[Operand.tmp 61, Operand.tmp 65], argTypes := #[40, 40] }, type := 4, pos := "law.go:53", after := #[{ on := 2, ground := Ground.data }, { on := 6, ground := Ground.data }, { on := 2, ground := Ground.chain }], guard := none }) rfl (fun K hK => ?_) AllReadyH.nil
          go_simp
          refine (logs_any R.out Q.out (r := true) (by decide)).mono ?_
          rintro e v7 ⟨rfl, nn, hw⟩
          have hb := drew_b hw
          clear hw R Q
          try go_wp2_with fail
          refine hK.out _ _ ?_ (fun hNew => ?_)
          · exact ⟨cell_go hHeld.1 hb, cell_go hHeld.2.1 hb, cell_go hHeld.2.2.1 hb, cell_go hHeld.2.2.2.1 hb, cell_go hHeld.2.2.2.2.1 hb, cell_go hHeld.2.2.2.2.2.1 hb, cell_go hHeld.2.2.2.2.2.2.1 hb, cell_go hHeld.2.2.2.2.2.2.2.1 hb, cell_go hHeld.2.2.2.2.2.2.2.2.1 hb, cell_go hHeld.2.2.2.2.2.2.2.2.2.1 hb, Lib.hid ((Hid.out hHeld.2.2.2.2.2.2.2.2.2.2).trans (hb.mono (Hid.out hHeld.2.2.2.2.2.2.2.2.2.2).size))⟩
          clear hK K
          replace hHeld := hNew
          clear hNew
          ((try simp only [Act.put]); (try simp only [List.setIfInBounds_toArray]); (try simp only [List.set_cons_succ]); (try simp only [List.set_cons_zero]))
          refine gen1 61 (by kernel_rfl) (fun s61 => ?_)
          ((try simp only [Act.put]); (try simp only [List.setIfInBounds_toArray]); (try simp only [List.set_cons_succ]); (try simp only [List.set_cons_zero]))
          refine gen1 65 (by kernel_rfl) (fun s65 => ?_)
          ((try simp only [Act.put]); (try simp only [List.setIfInBounds_toArray]); (try simp only [List.set_cons_succ]); (try simp only [List.set_cons_zero]))
          refine listed_to (l' := #[true, true, true, true, true, true, true, true, false, false, false, false, false, false, false, false, false, false, false, false, false, false, false, false, false, false, false, false, false, false, false, false, false, false, false, false, false, false, false, false, false, false, false, false, false, false, false, false, false, false, false, false, false, false, false, false, false, false, false, false, false, false, false, false, false, false, false, false, false, false, false, false, false, false, false, false, false, false, false, false, false, false, false, false, false, false, false, false, false, false, false, false, false, false, false, false, false, false, false, false, false]) (by kernel_rfl) ?_
          refine genw hHeld (fun y hy => ?_)
          exact N8 s61 s65 y hy
  · focus
      refine wpAnyH_take (i := 8) (oi := { dst := some 67, op := Op.move (Operand.tmp 66), type := 4, pos := "law.go:53", after := #[{ on := 7, ground := Ground.data }, { on := 7, ground := Ground.chain }], guard := none }) (v := ?_) rfl (by kernel_rfl) (by kernel_rfl) (by kernel_rfl) (fun _ _ _ h => h) (Or.inl ⟨by rfl, ?_⟩) (by assumption) ?_
      rotate_left
      · (intro w hSw; (try dsimp only at hSw); go_simp; try with_reducible rfl)
      ((try simp only [Act.put]); (try simp only [List.setIfInBounds_toArray]); (try simp only [List.set_cons_succ]); (try simp only [List.set_cons_zero]))
      refine wpAnyH_take (i := 9) (oi := { dst := some 68, op := Op.fieldAddr 29 (Operand.tmp 3) 0, type := 0, pos := "law.go:53", after := #[{ on := 8, ground := Ground.guard }], guard := some (8, true) }) (v := ?_) rfl (by kernel_rfl) (by kernel_rfl) (by kernel_rfl) (fun _ _ _ h => h) (Or.inl ⟨by rfl, ?_⟩) (by assumption) ?_
      rotate_left
      · (intro w hSw; (try dsimp only at hSw); go_simp; try with_reducible rfl)
      ((try simp only [Act.put]); (try simp only [List.setIfInBounds_toArray]); (try simp only [List.set_cons_succ]); (try simp only [List.set_cons_zero]))
      refine wpAnyH_take (i := 10) (oi := { dst := some 69, op := Op.load 27 (Operand.tmp 68), type := 27, pos := "law.go:53", after := #[{ on := 9, ground := Ground.data }, { on := 8, ground := Ground.guard }], guard := some (8, true) }) (v := ?_) rfl (by kernel_rfl) (by kernel_rfl) (by kernel_rfl) (fun _ _ _ h => h) (Or.inl ⟨by rfl, ?_⟩) (by assumption) ?_
      rotate_left
      · (intro w hSw; (try dsimp only at hSw); go_simp; try with_reducible rfl)
      ((try simp only [Act.put]); (try simp only [List.setIfInBounds_toArray]); (try simp only [List.set_cons_succ]); (try simp only [List.set_cons_zero]))
      refine wpAnyH_take (i := 12) (oi := { dst := some 71, op := Op.build 43 #[(0, Operand.const (Value.int IntKind.i64 0)), (1, Operand.const (Value.int IntKind.u64 2))], type := 43, pos := "law.go:53", after := #[{ on := 8, ground := Ground.guard }], guard := some (8, true) }) (v := ?_) rfl (by kernel_rfl) (by kernel_rfl) (by kernel_rfl) (fun _ _ _ h => h) (Or.inl ⟨by rfl, ?_⟩) (by assumption) ?_
      rotate_left
      · (intro w hSw; (try dsimp only at hSw); go_simp; try with_reducible rfl)
      ((try simp only [Act.put]); (try simp only [List.setIfInBounds_toArray]); (try simp only [List.set_cons_succ]); (try simp only [List.set_cons_zero]))
      refine wpAnyH_take (i := 13) (oi := { dst := some 72, op := Op.build 43 #[(0, Operand.const (Value.int IntKind.i64 1)), (1, Operand.const (Value.int IntKind.u64 5))], type := 43, pos := "law.go:53", after := #[{ on := 8, ground := Ground.guard }], guard := some (8, true) }) (v := ?_) rfl (by kernel_rfl) (by kernel_rfl) (by kernel_rfl) (fun _ _ _ h => h) (Or.inl ⟨by rfl, ?_⟩) (by assumption) ?_
      rotate_left
      · (intro w hSw; (try dsimp only at hSw); go_simp; try with_reducible rfl)
      ((try simp only [Act.put]); (try simp only [List.setIfInBounds_toArray]); (try simp only [List.set_cons_succ]); (try simp only [List.set_cons_zero]))
      refine' neck2 (S := (fun w' => w'.cell? ⟨pG, 0, none⟩ = some (.slice aG 3 3) ∧ w'.cell? ⟨pA, 0, none⟩ = some (.slice aA 3 cA) ∧ w'.cell? ⟨pB, 0, none⟩ = some (.slice aB 2 cB) ∧ w'.cell? ⟨pC, 0, none⟩ = some (.slice aC 3 cC) ∧ w'.cell? ⟨pD, 0, none⟩ = some (.slice (some ⟨bD, oD, none⟩) 3 cD) ∧ w'.cell? ⟨pE, 0, none⟩ = some (.slice aE 3 cE) ∧ w'.cell? ⟨pF, 0, none⟩ = some (.slice aF 4 cF) ∧ w'.cell? ⟨pX, 0, none⟩ = some (.slice aX 2 2) ∧ w'.cell? ⟨pH, 0, none⟩ = some (.slice aH 3 cH) ∧ w'.cell? ⟨bD, oD + 1 * 3 + 2, none⟩ = some (.int .u64 4) ∧ Hid (Below V10.heap.size V10 w'))) (fun N16 => ?_) (fun s70 s73 y16 hHeld => ?_)
      rotate_left
      · focus
          refine wpAnyH_ready (rs := [11, 14]) (by kernel_rfl) (by simp) ?_
          refine AllReadyH.cons (o := { dst := some 70, op := Op.call { callee := Callee.value (Operand.func 18), args := #[Operand.tmp 69], argTypes := #[27] }, type := 40, pos := "law.go:53", after := #[{ on := 10, ground := Ground.data }, { on := 8, ground := Ground.chain }, { on := 8, ground := Ground.guard }], guard := some (8, true) }) rfl (fun K hK => ?_) (AllReadyH.cons (o := { dst := some 73, op := Op.buildSlice 40 2 #[(0, Operand.tmp 71), (1, Operand.tmp 72)], type := 40, pos := "law.go:53", after := #[{ on := 12, ground := Ground.data }, { on := 13, ground := Ground.data }, { on := 8, ground := Ground.guard }], guard := some (8, true) }) rfl (fun K hK => ?_) AllReadyH.nil)
          · skip
            go_simp
            refine (log_k (LB.out.ro.below (Hid.out hHeld.2.2.2.2.2.2.2.2.2.2)) (by decide)).mono ?_
            rintro e v11 ⟨a11, c11, rfl, h5, hb⟩
            have R := Lib.hid h5
            clear h5
            try go_wp2_with fail
            refine hK.out _ _ ?_ (fun hNew => ?_)
            · exact ⟨cell_go hHeld.1 hb, cell_go hHeld.2.1 hb, cell_go hHeld.2.2.1 hb, cell_go hHeld.2.2.2.1 hb, cell_go hHeld.2.2.2.2.1 hb, cell_go hHeld.2.2.2.2.2.1 hb, cell_go hHeld.2.2.2.2.2.2.1 hb, cell_go hHeld.2.2.2.2.2.2.2.1 hb, cell_go hHeld.2.2.2.2.2.2.2.2.1 hb, cell_go hHeld.2.2.2.2.2.2.2.2.2.1 hb, Lib.hid ((Hid.out hHeld.2.2.2.2.2.2.2.2.2.2).trans (hb.mono (Hid.out hHeld.2.2.2.2.2.2.2.2.2.2).size))⟩
            clear hK K
            replace hHeld := hNew
            clear hNew
            ((try simp only [Act.put]); (try simp only [List.setIfInBounds_toArray]); (try simp only [List.set_cons_succ]); (try simp only [List.set_cons_zero]))
            refine wpAnyH_ready (rs := [14]) (by kernel_rfl) (by simp) ?_
            refine AllReadyH.cons (o := { dst := some 73, op := Op.buildSlice 40 2 #[(0, Operand.tmp 71), (1, Operand.tmp 72)], type := 40, pos := "law.go:53", after := #[{ on := 12, ground := Ground.data }, { on := 13, ground := Ground.data }, { on := 8, ground := Ground.guard }], guard := some (8, true) }) rfl (fun K hK => ?_) AllReadyH.nil
            go_simp
            have Q := Lib.hid (lit_at v11 43 bK #[.int .i64 0, .int .u64 2, .int .u64 0, .int .i64 1, .int .u64 5, .int .u64 0] 2 rfl rfl (by decide) (by intro x hx; simp only [bK, List.mem_cons, List.not_mem_nil, or_false] at hx; rcases hx with rfl | rfl <;> (unfold OkX IntOk; decide)))
            replace R := Lib.hid (R.out.below (boxb v11 (.cells #[.int .i64 0, .int .u64 2, .int .u64 0, .int .i64 1, .int .u64 5, .int .u64 0] 43)))
            have hb := boxb v11 (.cells #[.int .i64 0, .int .u64 2, .int .u64 0, .int .i64 1, .int .u64 5, .int .u64 0] 43)
            generalize hw : v11.alloc (.cells #[.int .i64 0, .int .u64 2, .int .u64 0, .int .i64 1, .int .u64 5, .int .u64 0] 43) = v14 at *
            clear hw
            try go_wp2_with fail
            refine hK.out _ _ ?_ (fun hNew => ?_)
            · exact ⟨cell_go hHeld.1 hb, cell_go hHeld.2.1 hb, cell_go hHeld.2.2.1 hb, cell_go hHeld.2.2.2.1 hb, cell_go hHeld.2.2.2.2.1 hb, cell_go hHeld.2.2.2.2.2.1 hb, cell_go hHeld.2.2.2.2.2.2.1 hb, cell_go hHeld.2.2.2.2.2.2.2.1 hb, cell_go hHeld.2.2.2.2.2.2.2.2.1 hb, cell_go hHeld.2.2.2.2.2.2.2.2.2.1 hb, Lib.hid ((Hid.out hHeld.2.2.2.2.2.2.2.2.2.2).trans (hb.mono (Hid.out hHeld.2.2.2.2.2.2.2.2.2.2).size))⟩
            clear hK K
            replace hHeld := hNew
            clear hNew
            ((try simp only [Act.put]); (try simp only [List.setIfInBounds_toArray]); (try simp only [List.set_cons_succ]); (try simp only [List.set_cons_zero]))
            as_aux_lemma =>
              refine wpAnyH_ready (rs := [15]) (by kernel_rfl) (by simp) ?_
              refine AllReadyH.cons (o := { dst := some 74, op := Op.call { callee := Callee.value (Operand.func 17), args := #[Operand.tmp 70, Operand.tmp 73], argTypes := #[40, 40] }, type := 4, pos := "law.go:53", after := #[{ on := 11, ground := Ground.data }, { on := 14, ground := Ground.data }, { on := 11, ground := Ground.chain }, { on := 8, ground := Ground.guard }], guard := some (8, true) }) rfl (fun K hK => ?_) AllReadyH.nil
              go_simp
              refine (logs_any R.out Q.out (r := true) (by decide)).mono ?_
              rintro e v15 ⟨rfl, nn, hw⟩
              have hb := drew_b hw
              clear hw R Q
              try go_wp2_with fail
              refine hK.out _ _ ?_ (fun hNew => ?_)
              · exact ⟨cell_go hHeld.1 hb, cell_go hHeld.2.1 hb, cell_go hHeld.2.2.1 hb, cell_go hHeld.2.2.2.1 hb, cell_go hHeld.2.2.2.2.1 hb, cell_go hHeld.2.2.2.2.2.1 hb, cell_go hHeld.2.2.2.2.2.2.1 hb, cell_go hHeld.2.2.2.2.2.2.2.1 hb, cell_go hHeld.2.2.2.2.2.2.2.2.1 hb, cell_go hHeld.2.2.2.2.2.2.2.2.2.1 hb, Lib.hid ((Hid.out hHeld.2.2.2.2.2.2.2.2.2.2).trans (hb.mono (Hid.out hHeld.2.2.2.2.2.2.2.2.2.2).size))⟩
              clear hK K
              replace hHeld := hNew
              clear hNew
              ((try simp only [Act.put]); (try simp only [List.setIfInBounds_toArray]); (try simp only [List.set_cons_succ]); (try simp only [List.set_cons_zero]))
              refine gen1 70 (by kernel_rfl) (fun s70 => ?_)
              ((try simp only [Act.put]); (try simp only [List.setIfInBounds_toArray]); (try simp only [List.set_cons_succ]); (try simp only [List.set_cons_zero]))
              refine gen1 73 (by kernel_rfl) (fun s73 => ?_)
              ((try simp only [Act.put]); (try simp only [List.setIfInBounds_toArray]); (try simp only [List.set_cons_succ]); (try simp only [List.set_cons_zero]))
              refine listed_to (l' := #[true, true, true, true, true, true, true, true, true, true, true, true, true, true, true, true, false, false, false, false, false, false, false, false, false, false, false, false, false, false, false, false, false, false, false, false, false, false, false, false, false, false, false, false, false, false, false, false, false, false, false, false, false, false, false, false, false, false, false, false, false, false, false, false, false, false, false, false, false, false, false, false, false, false, false, false, false, false, false, false, false, false, false, false, false, false, false, false, false, false, false, false, false, false, false, false, false, false, false, false, false]) (by kernel_rfl) ?_
              refine genw hHeld (fun y hy => ?_)
              exact N16 s70 s73 y hy
          · skip
            go_simp
            have Q := Lib.hid (lit_at y8 43 bK #[.int .i64 0, .int .u64 2, .int .u64 0, .int .i64 1, .int .u64 5, .int .u64 0] 2 rfl rfl (by decide) (by intro x hx; simp only [bK, List.mem_cons, List.not_mem_nil, or_false] at hx; rcases hx with rfl | rfl <;> (unfold OkX IntOk; decide)))
            have hb := boxb y8 (.cells #[.int .i64 0, .int .u64 2, .int .u64 0, .int .i64 1, .int .u64 5, .int .u64 0] 43)
            generalize hw : y8.alloc (.cells #[.int .i64 0, .int .u64 2, .int .u64 0, .int .i64 1, .int .u64 5, .int .u64 0] 43) = v14 at *
            clear hw
            try go_wp2_with fail
            refine hK.out _ _ ?_ (fun hNew => ?_)
            · exact ⟨cell_go hHeld.1 hb, cell_go hHeld.2.1 hb, cell_go hHeld.2.2.1 hb, cell_go hHeld.2.2.2.1 hb, cell_go hHeld.2.2.2.2.1 hb, cell_go hHeld.2.2.2.2.2.1 hb, cell_go hHeld.2.2.2.2.2.2.1 hb, cell_go hHeld.2.2.2.2.2.2.2.1 hb, cell_go hHeld.2.2.2.2.2.2.2.2.1 hb, cell_go hHeld.2.2.2.2.2.2.2.2.2.1 hb, Lib.hid ((Hid.out hHeld.2.2.2.2.2.2.2.2.2.2).trans (hb.mono (Hid.out hHeld.2.2.2.2.2.2.2.2.2.2).size))⟩
            clear hK K
            replace hHeld := hNew
            clear hNew
            ((try simp only [Act.put]); (try simp only [List.setIfInBounds_toArray]); (try simp only [List.set_cons_succ]); (try simp only [List.set_cons_zero]))
            refine wpAnyH_ready (rs := [11]) (by kernel_rfl) (by simp) ?_
            refine AllReadyH.cons (o := { dst := some 70, op := Op.call { callee := Callee.value (Operand.func 18), args := #[Operand.tmp 69], argTypes := #[27] }, type := 40, pos := "law.go:53", after := #[{ on := 10, ground := Ground.data }, { on := 8, ground := Ground.chain }, { on := 8, ground := Ground.guard }], guard := some (8, true) }) rfl (fun K hK => ?_) AllReadyH.nil
            go_simp
            refine (log_k (LB.out.ro.below (Hid.out hHeld.2.2.2.2.2.2.2.2.2.2)) (by decide)).mono ?_
            rintro e v11 ⟨a11, c11, rfl, h5, hb⟩
            replace Q := Lib.hid (Q.out.below hb)
            have R := Lib.hid h5
            clear h5
            try go_wp2_with fail
            refine hK.out _ _ ?_ (fun hNew => ?_)
            · exact ⟨cell_go hHeld.1 hb, cell_go hHeld.2.1 hb, cell_go hHeld.2.2.1 hb, cell_go hHeld.2.2.2.1 hb, cell_go hHeld.2.2.2.2.1 hb, cell_go hHeld.2.2.2.2.2.1 hb, cell_go hHeld.2.2.2.2.2.2.1 hb, cell_go hHeld.2.2.2.2.2.2.2.1 hb, cell_go hHeld.2.2.2.2.2.2.2.2.1 hb, cell_go hHeld.2.2.2.2.2.2.2.2.2.1 hb, Lib.hid ((Hid.out hHeld.2.2.2.2.2.2.2.2.2.2).trans (hb.mono (Hid.out hHeld.2.2.2.2.2.2.2.2.2.2).size))⟩
            clear hK K
            replace hHeld := hNew
            clear hNew
            ((try simp only [Act.put]); (try simp only [List.setIfInBounds_toArray]); (try simp only [List.set_cons_succ]); (try simp only [List.set_cons_zero]))
            as_aux_lemma =>
              refine wpAnyH_ready (rs := [15]) (by kernel_rfl) (by simp) ?_
              refine AllReadyH.cons (o := { dst := some 74, op := Op.call { callee := Callee.value (Operand.func 17), args := #[Operand.tmp 70, Operand.tmp 73], argTypes := #[40, 40] }, type := 4, pos := "law.go:53", after := #[{ on := 11, ground := Ground.data }, { on := 14, ground := Ground.data }, { on := 11, ground := Ground.chain }, { on := 8, ground := Ground.guard }], guard := some (8, true) }) rfl (fun K hK => ?_) AllReadyH.nil
              go_simp
              refine (logs_any R.out Q.out (r := true) (by decide)).mono ?_
              rintro e v15 ⟨rfl, nn, hw⟩
              have hb := drew_b hw
              clear hw R Q
              try go_wp2_with fail
              refine hK.out _ _ ?_ (fun hNew => ?_)
              · exact ⟨cell_go hHeld.1 hb, cell_go hHeld.2.1 hb, cell_go hHeld.2.2.1 hb, cell_go hHeld.2.2.2.1 hb, cell_go hHeld.2.2.2.2.1 hb, cell_go hHeld.2.2.2.2.2.1 hb, cell_go hHeld.2.2.2.2.2.2.1 hb, cell_go hHeld.2.2.2.2.2.2.2.1 hb, cell_go hHeld.2.2.2.2.2.2.2.2.1 hb, cell_go hHeld.2.2.2.2.2.2.2.2.2.1 hb, Lib.hid ((Hid.out hHeld.2.2.2.2.2.2.2.2.2.2).trans (hb.mono (Hid.out hHeld.2.2.2.2.2.2.2.2.2.2).size))⟩
              clear hK K
              replace hHeld := hNew
              clear hNew
              ((try simp only [Act.put]); (try simp only [List.setIfInBounds_toArray]); (try simp only [List.set_cons_succ]); (try simp only [List.set_cons_zero]))
              refine gen1 70 (by kernel_rfl) (fun s70 => ?_)
              ((try simp only [Act.put]); (try simp only [List.setIfInBounds_toArray]); (try simp only [List.set_cons_succ]); (try simp only [List.set_cons_zero]))
              refine gen1 73 (by kernel_rfl) (fun s73 => ?_)
              ((try simp only [Act.put]); (try simp only [List.setIfInBounds_toArray]); (try simp only [List.set_cons_succ]); (try simp only [List.set_cons_zero]))
              refine listed_to (l' := #[true, true, true, true, true, true, true, true, true, true, true, true, true, true, true, true, false, false, false, false, false, false, false, false, false, false, false, false, false, false, false, false, false, false, false, false, false, false, false, false, false, false, false, false, false, false, false, false, false, false, false, false, false, false, false, false, false, false, false, false, false, false, false, false, false, false, false, false, false, false, false, false, false, false, false, false, false, false, false, false, false, false, false, false, false, false, false, false, false, false, false, false, false, false, false, false, false, false, false, false, false]) (by kernel_rfl) ?_
              refine genw hHeld (fun y hy => ?_)
              exact N16 s70 s73 y hy
      · focus
          refine wpAnyH_take (i := 16) (oi := { dst := some 75, op := Op.pick (Operand.tmp 67) (Operand.tmp 74) (Operand.const (Value.bool false)), type := 4, pos := "law.go:53", after := #[{ on := 8, ground := Ground.data }, { on := 15, ground := Ground.data }], guard := none }) (v := ?_) rfl (by kernel_rfl) (by kernel_rfl) (by kernel_rfl) (fun _ _ _ h => h) (Or.inl ⟨by rfl, ?_⟩) (by assumption) ?_
          rotate_left
          · (intro w hSw; (try dsimp only at hSw); go_simp; try with_reducible rfl)
          ((try simp only [Act.put]); (try simp only [List.setIfInBounds_toArray]); (try simp only [List.set_cons_succ]); (try simp only [List.set_cons_zero]))
          refine wpAnyH_take (i := 17) (oi := { dst := some 76, op := Op.move (Operand.tmp 75), type := 4, pos := "law.go:53", after := #[{ on := 16, ground := Ground.data }, { on := 15, ground := Ground.chain }], guard := none }) (v := ?_) rfl (by kernel_rfl) (by kernel_rfl) (by kernel_rfl) (fun _ _ _ h => h) (Or.inl ⟨by rfl, ?_⟩) (by assumption) ?_
          rotate_left
          · (intro w hSw; (try dsimp only at hSw); go_simp; try with_reducible rfl)
          ((try simp only [Act.put]); (try simp only [List.setIfInBounds_toArray]); (try simp only [List.set_cons_succ]); (try simp only [List.set_cons_zero]))
          refine wpAnyH_take (i := 18) (oi := { dst := some 77, op := Op.fieldAddr 29 (Operand.tmp 4) 0, type := 0, pos := "law.go:53", after := #[{ on := 17, ground := Ground.guard }], guard := some (17, true) }) (v := ?_) rfl (by kernel_rfl) (by kernel_rfl) (by kernel_rfl) (fun _ _ _ h => h) (Or.inl ⟨by rfl, ?_⟩) (by assumption) ?_
          rotate_left
          · (intro w hSw; (try dsimp only at hSw); go_simp; try with_reducible rfl)
          ((try simp only [Act.put]); (try simp only [List.setIfInBounds_toArray]); (try simp only [List.set_cons_succ]); (try simp only [List.set_cons_zero]))
          refine wpAnyH_take (i := 19) (oi := { dst := some 78, op := Op.load 27 (Operand.tmp 77), type := 27, pos := "law.go:53", after := #[{ on := 18, ground := Ground.data }, { on := 17, ground := Ground.guard }], guard := some (17, true) }) (v := ?_) rfl (by kernel_rfl) (by kernel_rfl) (by kernel_rfl) (fun _ _ _ h => h) (Or.inl ⟨by rfl, ?_⟩) (by assumption) ?_
          rotate_left
          · (intro w hSw; (try dsimp only at hSw); go_simp; try with_reducible rfl)
          ((try simp only [Act.put]); (try simp only [List.setIfInBounds_toArray]); (try simp only [List.set_cons_succ]); (try simp only [List.set_cons_zero]))
          refine wpAnyH_take (i := 21) (oi := { dst := some 80, op := Op.build 43 #[(0, Operand.const (Value.int IntKind.i64 0)), (1, Operand.const (Value.int IntKind.u64 1)), (2, Operand.const (Value.int IntKind.u64 4))], type := 43, pos := "law.go:53", after := #[{ on := 17, ground := Ground.guard }], guard := some (17, true) }) (v := ?_) rfl (by kernel_rfl) (by kernel_rfl) (by kernel_rfl) (fun _ _ _ h => h) (Or.inl ⟨by rfl, ?_⟩) (by assumption) ?_
          rotate_left
          · (intro w hSw; (try dsimp only at hSw); go_simp; try with_reducible rfl)
          ((try simp only [Act.put]); (try simp only [List.setIfInBounds_toArray]); (try simp only [List.set_cons_succ]); (try simp only [List.set_cons_zero]))
          refine wpAnyH_take (i := 22) (oi := { dst := some 81, op := Op.build 43 #[(0, Operand.const (Value.int IntKind.i64 0)), (1, Operand.const (Value.int IntKind.u64 2))], type := 43, pos := "law.go:53", after := #[{ on := 17, ground := Ground.guard }], guard := some (17, true) }) (v := ?_) rfl (by kernel_rfl) (by kernel_rfl) (by kernel_rfl) (fun _ _ _ h => h) (Or.inl ⟨by rfl, ?_⟩) (by assumption) ?_
          rotate_left
          · (intro w hSw; (try dsimp only at hSw); go_simp; try with_reducible rfl)
          ((try simp only [Act.put]); (try simp only [List.setIfInBounds_toArray]); (try simp only [List.set_cons_succ]); (try simp only [List.set_cons_zero]))
          refine wpAnyH_take (i := 23) (oi := { dst := some 82, op := Op.build 43 #[(0, Operand.const (Value.int IntKind.i64 1)), (1, Operand.const (Value.int IntKind.u64 5))], type := 43, pos := "law.go:53", after := #[{ on := 17, ground := Ground.guard }], guard := some (17, true) }) (v := ?_) rfl (by kernel_rfl) (by kernel_rfl) (by kernel_rfl) (fun _ _ _ h => h) (Or.inl ⟨by rfl, ?_⟩) (by assumption) ?_
          rotate_left
          · (intro w hSw; (try dsimp only at hSw); go_simp; try with_reducible rfl)
          ((try simp only [Act.put]); (try simp only [List.setIfInBounds_toArray]); (try simp only [List.set_cons_succ]); (try simp only [List.set_cons_zero]))
          refine' neck2 (S := (fun w' => w'.cell? ⟨pG, 0, none⟩ = some (.slice aG 3 3) ∧ w'.cell? ⟨pA, 0, none⟩ = some (.slice aA 3 cA) ∧ w'.cell? ⟨pB, 0, none⟩ = some (.slice aB 2 cB) ∧ w'.cell? ⟨pC, 0, none⟩ = some (.slice aC 3 cC) ∧ w'.cell? ⟨pD, 0, none⟩ = some (.slice (some ⟨bD, oD, none⟩) 3 cD) ∧ w'.cell? ⟨pE, 0, none⟩ = some (.slice aE 3 cE) ∧ w'.cell? ⟨pF, 0, none⟩ = some (.slice aF 4 cF) ∧ w'.cell? ⟨pX, 0, none⟩ = some (.slice aX 2 2) ∧ w'.cell? ⟨pH, 0, none⟩ = some (.slice aH 3 cH) ∧ w'.cell? ⟨bD, oD + 1 * 3 + 2, none⟩ = some (.int .u64 4) ∧ Hid (Below V10.heap.size V10 w'))) (fun N26 => ?_) (fun s79 s83 y26 hHeld => ?_)
          rotate_left
          · focus
              refine wpAnyH_ready (rs := [20, 24]) (by kernel_rfl) (by simp) ?_
              refine AllReadyH.cons (o := { dst := some 79, op := Op.call { callee := Callee.value (Operand.func 18), args := #[Operand.tmp 78], argTypes := #[27] }, type := 40, pos := "law.go:53", after := #[{ on := 19, ground := Ground.data }, { on := 17, ground := Ground.chain }, { on := 17, ground := Ground.guard }], guard := some (17, true) }) rfl (fun K hK => ?_) (AllReadyH.cons (o := { dst := some 83, op := Op.buildSlice 40 3 #[(0, Operand.tmp 80), (1, Operand.tmp 81), (2, Operand.tmp 82)], type := 40, pos := "law.go:53", after := #[{ on := 21, ground := Ground.data }, { on := 22, ground := Ground.data }, { on := 23, ground := Ground.data }, { on := 17, ground := Ground.guard }], guard := some (17, true) }) rfl (fun K hK => ?_) AllReadyH.nil)
              · skip
                go_simp
                refine (log_k (LC.out.ro.below (Hid.out hHeld.2.2.2.2.2.2.2.2.2.2)) (by decide)).mono ?_
                rintro e v20 ⟨a20, c20, rfl, h5, hb⟩
                have R := Lib.hid h5
                clear h5
                try go_wp2_with fail
                refine hK.out _ _ ?_ (fun hNew => ?_)
                · exact ⟨cell_go hHeld.1 hb, cell_go hHeld.2.1 hb, cell_go hHeld.2.2.1 hb, cell_go hHeld.2.2.2.1 hb, cell_go hHeld.2.2.2.2.1 hb, cell_go hHeld.2.2.2.2.2.1 hb, cell_go hHeld.2.2.2.2.2.2.1 hb, cell_go hHeld.2.2.2.2.2.2.2.1 hb, cell_go hHeld.2.2.2.2.2.2.2.2.1 hb, cell_go hHeld.2.2.2.2.2.2.2.2.2.1 hb, Lib.hid ((Hid.out hHeld.2.2.2.2.2.2.2.2.2.2).trans (hb.mono (Hid.out hHeld.2.2.2.2.2.2.2.2.2.2).size))⟩
                clear hK K
                replace hHeld := hNew
                clear hNew
                ((try simp only [Act.put]); (try simp only [List.setIfInBounds_toArray]); (try simp only [List.set_cons_succ]); (try simp only [List.set_cons_zero]))
                refine wpAnyH_ready (rs := [24]) (by kernel_rfl) (by simp) ?_
                refine AllReadyH.cons (o := { dst := some 83, op := Op.buildSlice 40 3 #[(0, Operand.tmp 80), (1, Operand.tmp 81), (2, Operand.tmp 82)], type := 40, pos := "law.go:53", after := #[{ on := 21, ground := Ground.data }, { on := 22, ground := Ground.data }, { on := 23, ground := Ground.data }, { on := 17, ground := Ground.guard }], guard := some (17, true) }) rfl (fun K hK => ?_) AllReadyH.nil
                go_simp
                have Q := Lib.hid (lit_at v20 43 aK #[.int .i64 0, .int .u64 1, .int .u64 4, .int .i64 0, .int .u64 2, .int .u64 0, .int .i64 1, .int .u64 5, .int .u64 0] 3 rfl rfl (by decide) (by intro x hx; simp only [aK, List.mem_cons, List.not_mem_nil, or_false] at hx; rcases hx with rfl | rfl | rfl <;> (unfold OkX IntOk; decide)))
                replace R := Lib.hid (R.out.below (boxb v20 (.cells #[.int .i64 0, .int .u64 1, .int .u64 4, .int .i64 0, .int .u64 2, .int .u64 0, .int .i64 1, .int .u64 5, .int .u64 0] 43)))
                have hb := boxb v20 (.cells #[.int .i64 0, .int .u64 1, .int .u64 4, .int .i64 0, .int .u64 2, .int .u64 0, .int .i64 1, .int .u64 5, .int .u64 0] 43)
                generalize hw : v20.alloc (.cells #[.int .i64 0, .int .u64 1, .int .u64 4, .int .i64 0, .int .u64 2, .int .u64 0, .int .i64 1, .int .u64 5, .int .u64 0] 43) = v24 at *
                clear hw
                try go_wp2_with fail
                refine hK.out _ _ ?_ (fun hNew => ?_)
                · exact ⟨cell_go hHeld.1 hb, cell_go hHeld.2.1 hb, cell_go hHeld.2.2.1 hb, cell_go hHeld.2.2.2.1 hb, cell_go hHeld.2.2.2.2.1 hb, cell_go hHeld.2.2.2.2.2.1 hb, cell_go hHeld.2.2.2.2.2.2.1 hb, cell_go hHeld.2.2.2.2.2.2.2.1 hb, cell_go hHeld.2.2.2.2.2.2.2.2.1 hb, cell_go hHeld.2.2.2.2.2.2.2.2.2.1 hb, Lib.hid ((Hid.out hHeld.2.2.2.2.2.2.2.2.2.2).trans (hb.mono (Hid.out hHeld.2.2.2.2.2.2.2.2.2.2).size))⟩
                clear hK K
                replace hHeld := hNew
                clear hNew
                ((try simp only [Act.put]); (try simp only [List.setIfInBounds_toArray]); (try simp only [List.set_cons_succ]); (try simp only [List.set_cons_zero]))
                as_aux_lemma =>
                  refine wpAnyH_ready (rs := [25]) (by kernel_rfl) (by simp) ?_
                  refine AllReadyH.cons (o := { dst := some 84, op := Op.call { callee := Callee.value (Operand.func 17), args := #[Operand.tmp 79, Operand.tmp 83], argTypes := #[40, 40] }, type := 4, pos := "law.go:53", after := #[{ on := 20, ground := Ground.data }, { on := 24, ground := Ground.data }, { on := 20, ground := Ground.chain }, { on := 17, ground := Ground.guard }], guard := some (17, true) }) rfl (fun K hK => ?_) AllReadyH.nil
                  go_simp
                  refine (logs_any R.out Q.out (r := true) (by decide)).mono ?_
                  rintro e v25 ⟨rfl, nn, hw⟩
                  have hb := drew_b hw
                  clear hw R Q
                  try go_wp2_with fail
                  refine hK.out _ _ ?_ (fun hNew => ?_)
                  · exact ⟨cell_go hHeld.1 hb, cell_go hHeld.2.1 hb, cell_go hHeld.2.2.1 hb, cell_go hHeld.2.2.2.1 hb, cell_go hHeld.2.2.2.2.1 hb, cell_go hHeld.2.2.2.2.2.1 hb, cell_go hHeld.2.2.2.2.2.2.1 hb, cell_go hHeld.2.2.2.2.2.2.2.1 hb, cell_go hHeld.2.2.2.2.2.2.2.2.1 hb, cell_go hHeld.2.2.2.2.2.2.2.2.2.1 hb, Lib.hid ((Hid.out hHeld.2.2.2.2.2.2.2.2.2.2).trans (hb.mono (Hid.out hHeld.2.2.2.2.2.2.2.2.2.2).size))⟩
                  clear hK K
                  replace hHeld := hNew
                  clear hNew
                  ((try simp only [Act.put]); (try simp only [List.setIfInBounds_toArray]); (try simp only [List.set_cons_succ]); (try simp only [List.set_cons_zero]))
                  refine gen1 79 (by kernel_rfl) (fun s79 => ?_)
                  ((try simp only [Act.put]); (try simp only [List.setIfInBounds_toArray]); (try simp only [List.set_cons_succ]); (try simp only [List.set_cons_zero]))
                  refine gen1 83 (by kernel_rfl) (fun s83 => ?_)
                  ((try simp only [Act.put]); (try simp only [List.setIfInBounds_toArray]); (try simp only [List.set_cons_succ]); (try simp only [List.set_cons_zero]))
                  refine listed_to (l' := #[true, true, true, true, true, true, true, true, true, true, true, true, true, true, true, true, true, true, true, true, true, true, true, true, true, true, false, false, false, false, false, false, false, false, false, false, false, false, false, false, false, false, false, false, false, false, false, false, false, false, false, false, false, false, false, false, false, false, false, false, false, false, false, false, false, false, false, false, false, false, false, false, false, false, false, false, false, false, false, false, false, false, false, false, false, false, false, false, false, false, false, false, false, false, false, false, false, false, false, false, false]) (by kernel_rfl) ?_
                  refine genw hHeld (fun y hy => ?_)
                  exact N26 s79 s83 y hy
              · skip
                go_simp
                have Q := Lib.hid (lit_at y16 43 aK #[.int .i64 0, .int .u64 1, .int .u64 4, .int .i64 0, .int .u64 2, .int .u64 0, .int .i64 1, .int .u64 5, .int .u64 0] 3 rfl rfl (by decide) (by intro x hx; simp only [aK, List.mem_cons, List.not_mem_nil, or_false] at hx; rcases hx with rfl | rfl | rfl <;> (unfold OkX IntOk; decide)))
                have hb := boxb y16 (.cells #[.int .i64 0, .int .u64 1, .int .u64 4, .int .i64 0, .int .u64 2, .int .u64 0, .int .i64 1, .int .u64 5, .int .u64 0] 43)
                generalize hw : y16.alloc (.cells #[.int .i64 0, .int .u64 1, .int .u64 4, .int .i64 0, .int .u64 2, .int .u64 0, .int .i64 1, .int .u64 5, .int .u64 0] 43) = v24 at *
                clear hw
                try go_wp2_with fail
                refine hK.out _ _ ?_ (fun hNew => ?_)
                · exact ⟨cell_go hHeld.1 hb, cell_go hHeld.2.1 hb, cell_go hHeld.2.2.1 hb, cell_go hHeld.2.2.2.1 hb, cell_go hHeld.2.2.2.2.1 hb, cell_go hHeld.2.2.2.2.2.1 hb, cell_go hHeld.2.2.2.2.2.2.1 hb, cell_go hHeld.2.2.2.2.2.2.2.1 hb, cell_go hHeld.2.2.2.2.2.2.2.2.1 hb, cell_go hHeld.2.2.2.2.2.2.2.2.2.1 hb, Lib.hid ((Hid.out hHeld.2.2.2.2.2.2.2.2.2.2).trans (hb.mono (Hid.out hHeld.2.2.2.2.2.2.2.2.2.2).size))⟩
                clear hK K
                replace hHeld := hNew
                clear hNew
                ((try simp only [Act.put]); (try simp only [List.setIfInBounds_toArray]); (try simp only [List.set_cons_succ]); (try simp only [List.set_cons_zero]))
                refine wpAnyH_ready (rs := [20]) (by kernel_rfl) (by simp) ?_
                refine AllReadyH.cons (o := { dst := some 79, op := Op.call { callee := Callee.value (Operand.func 18), args := #[Operand.tmp 78], argTypes := #[27] }, type := 40, pos := "law.go:53", after := #[{ on := 19, ground := Ground.data }, { on := 17, ground := Ground.chain }, { on := 17, ground := Ground.guard }], guard := some (17, true) }) rfl (fun K hK => ?_) AllReadyH.nil
                go_simp
                refine (log_k (LC.out.ro.below (Hid.out hHeld.2.2.2.2.2.2.2.2.2.2)) (by decide)).mono ?_
                rintro e v20 ⟨a20, c20, rfl, h5, hb⟩
                replace Q := Lib.hid (Q.out.below hb)
                have R := Lib.hid h5
                clear h5
                try go_wp2_with fail
                refine hK.out _ _ ?_ (fun hNew => ?_)
                · exact ⟨cell_go hHeld.1 hb, cell_go hHeld.2.1 hb, cell_go hHeld.2.2.1 hb, cell_go hHeld.2.2.2.1 hb, cell_go hHeld.2.2.2.2.1 hb, cell_go hHeld.2.2.2.2.2.1 hb, cell_go hHeld.2.2.2.2.2.2.1 hb, cell_go hHeld.2.2.2.2.2.2.2.1 hb, cell_go hHeld.2.2.2.2.2.2.2.2.1 hb, cell_go hHeld.2.2.2.2.2.2.2.2.2.1 hb, Lib.hid ((Hid.out hHeld.2.2.2.2.2.2.2.2.2.2).trans (hb.mono (Hid.out hHeld.2.2.2.2.2.2.2.2.2.2).size))⟩
                clear hK K
                replace hHeld := hNew
                clear hNew
                ((try simp only [Act.put]); (try simp only [List.setIfInBounds_toArray]); (try simp only [List.set_cons_succ]); (try simp only [List.set_cons_zero]))
                as_aux_lemma =>
                  refine wpAnyH_ready (rs := [25]) (by kernel_rfl) (by simp) ?_
                  refine AllReadyH.cons (o := { dst := some 84, op := Op.call { callee := Callee.value (Operand.func 17), args := #[Operand.tmp 79, Operand.tmp 83], argTypes := #[40, 40] }, type := 4, pos := "law.go:53", after := #[{ on := 20, ground := Ground.data }, { on := 24, ground := Ground.data }, { on := 20, ground := Ground.chain }, { on := 17, ground := Ground.guard }], guard := some (17, true) }) rfl (fun K hK => ?_) AllReadyH.nil
                  go_simp
                  refine (logs_any R.out Q.out (r := true) (by decide)).mono ?_
                  rintro e v25 ⟨rfl, nn, hw⟩
                  have hb := drew_b hw
                  clear hw R Q
                  try go_wp2_with fail
                  refine hK.out _ _ ?_ (fun hNew => ?_)
                  · exact ⟨cell_go hHeld.1 hb, cell_go hHeld.2.1 hb, cell_go hHeld.2.2.1 hb, cell_go hHeld.2.2.2.1 hb, cell_go hHeld.2.2.2.2.1 hb, cell_go hHeld.2.2.2.2.2.1 hb, cell_go hHeld.2.2.2.2.2.2.1 hb, cell_go hHeld.2.2.2.2.2.2.2.1 hb, cell_go hHeld.2.2.2.2.2.2.2.2.1 hb, cell_go hHeld.2.2.2.2.2.2.2.2.2.1 hb, Lib.hid ((Hid.out hHeld.2.2.2.2.2.2.2.2.2.2).trans (hb.mono (Hid.out hHeld.2.2.2.2.2.2.2.2.2.2).size))⟩
                  clear hK K
                  replace hHeld := hNew
                  clear hNew
                  ((try simp only [Act.put]); (try simp only [List.setIfInBounds_toArray]); (try simp only [List.set_cons_succ]); (try simp only [List.set_cons_zero]))
                  refine gen1 79 (by kernel_rfl) (fun s79 => ?_)
                  ((try simp only [Act.put]); (try simp only [List.setIfInBounds_toArray]); (try simp only [List.set_cons_succ]); (try simp only [List.set_cons_zero]))
                  refine gen1 83 (by kernel_rfl) (fun s83 => ?_)
                  ((try simp only [Act.put]); (try simp only [List.setIfInBounds_toArray]); (try simp only [List.set_cons_succ]); (try simp only [List.set_cons_zero]))
                  refine listed_to (l' := #[true, true, true, true, true, true, true, true, true, true, true, true, true, true, true, true, true, true, true, true, true, true, true, true, true, true, false, false, false, false, false, false, false, false, false, false, false, false, false, false, false, false, false, false, false, false, false, false, false, false, false, false, false, false, false, false, false, false, false, false, false, false, false, false, false, false, false, false, false, false, false, false, false, false, false, false, false, false, false, false, false, false, false, false, false, false, false, false, false, false, false, false, false, false, false, false, false, false, false, false, false]) (by kernel_rfl) ?_
                  refine genw hHeld (fun y hy => ?_)
                  exact N26 s79 s83 y hy
          · focus
              refine wpAnyH_take (i := 26) (oi := { dst := some 85, op := Op.pick (Operand.tmp 76) (Operand.tmp 84) (Operand.const (Value.bool false)), type := 4, pos := "law.go:53", after := #[{ on := 17, ground := Ground.data }, { on := 25, ground := Ground.data }], guard := none }) (v := ?_) rfl (by kernel_rfl) (by kernel_rfl) (by kernel_rfl) (fun _ _ _ h => h) (Or.inl ⟨by rfl, ?_⟩) (by assumption) ?_
              rotate_left
              · (intro w hSw; (try dsimp only at hSw); go_simp; try with_reducible rfl)
              ((try simp only [Act.put]); (try simp only [List.setIfInBounds_toArray]); (try simp only [List.set_cons_succ]); (try simp only [List.set_cons_zero]))
              refine wpAnyH_take (i := 27) (oi := { dst := some 86, op := Op.move (Operand.tmp 85), type := 4, pos := "law.go:53", after := #[{ on := 26, ground := Ground.data }, { on := 25, ground := Ground.chain }], guard := none }) (v := ?_) rfl (by kernel_rfl) (by kernel_rfl) (by kernel_rfl) (fun _ _ _ h => h) (Or.inl ⟨by rfl, ?_⟩) (by assumption) ?_
              rotate_left
              · (intro w hSw; (try dsimp only at hSw); go_simp; try with_reducible rfl)
              ((try simp only [Act.put]); (try simp only [List.setIfInBounds_toArray]); (try simp only [List.set_cons_succ]); (try simp only [List.set_cons_zero]))
              refine wpAnyH_take (i := 28) (oi := { dst := some 87, op := Op.fieldAddr 29 (Operand.tmp 5) 0, type := 0, pos := "law.go:53", after := #[{ on := 27, ground := Ground.guard }], guard := some (27, true) }) (v := ?_) rfl (by kernel_rfl) (by kernel_rfl) (by kernel_rfl) (fun _ _ _ h => h) (Or.inl ⟨by rfl, ?_⟩) (by assumption) ?_
              rotate_left
              · (intro w hSw; (try dsimp only at hSw); go_simp; try with_reducible rfl)
              ((try simp only [Act.put]); (try simp only [List.setIfInBounds_toArray]); (try simp only [List.set_cons_succ]); (try simp only [List.set_cons_zero]))
              refine wpAnyH_take (i := 29) (oi := { dst := some 88, op := Op.load 27 (Operand.tmp 87), type := 27, pos := "law.go:53", after := #[{ on := 28, ground := Ground.data }, { on := 27, ground := Ground.guard }], guard := some (27, true) }) (v := ?_) rfl (by kernel_rfl) (by kernel_rfl) (by kernel_rfl) (fun _ _ _ h => h) (Or.inl ⟨by rfl, ?_⟩) (by assumption) ?_
              rotate_left
              · (intro w hSw; (try dsimp only at hSw); go_simp; try with_reducible rfl)
              ((try simp only [Act.put]); (try simp only [List.setIfInBounds_toArray]); (try simp only [List.set_cons_succ]); (try simp only [List.set_cons_zero]))
              refine wpAnyH_take (i := 30) (oi := { dst := some 89, op := Op.call { callee := Callee.builtin Builtin.len, args := #[Operand.tmp 88], argTypes := #[27] }, type := 3, pos := "law.go:53", after := #[{ on := 29, ground := Ground.data }, { on := 27, ground := Ground.guard }], guard := some (27, true) }) (v := ?_) rfl (by kernel_rfl) (by kernel_rfl) (by kernel_rfl) (fun _ _ _ h => h) (Or.inl ⟨by rfl, ?_⟩) (by assumption) ?_
              rotate_left
              · (intro w hSw; (try dsimp only at hSw); go_simp; try with_reducible rfl)
              ((try simp only [Act.put]); (try simp only [List.setIfInBounds_toArray]); (try simp only [List.set_cons_succ]); (try simp only [List.set_cons_zero]))
              refine wpAnyH_take (i := 31) (oi := { dst := some 90, op := Op.binOp BinOp.eql 3 (Operand.tmp 89) (Operand.const (Value.int IntKind.i64 3)) 3, type := 4, pos := "law.go:53", after := #[{ on := 30, ground := Ground.data }, { on := 27, ground := Ground.guard }], guard := some (27, true) }) (v := ?_) rfl (by kernel_rfl) (by kernel_rfl) (by kernel_rfl) (fun _ _ _ h => h) (Or.inl ⟨by rfl, ?_⟩) (by assumption) ?_
              rotate_left
              · (intro w hSw; (try dsimp only at hSw); go_simp; try with_reducible rfl)
              ((try simp only [Act.put]); (try simp only [List.setIfInBounds_toArray]); (try simp only [List.set_cons_succ]); (try simp only [List.set_cons_zero]))
              refine wpAnyH_take (i := 32) (oi := { dst := some 91, op := Op.pick (Operand.tmp 86) (Operand.tmp 90) (Operand.const (Value.bool false)), type := 4, pos := "law.go:53", after := #[{ on := 27, ground := Ground.data }, { on := 31, ground := Ground.data }], guard := none }) (v := ?_) rfl (by kernel_rfl) (by kernel_rfl) (by kernel_rfl) (fun _ _ _ h => h) (Or.inl ⟨by rfl, ?_⟩) (by assumption) ?_
              rotate_left
              · (intro w hSw; (try dsimp only at hSw); go_simp; try with_reducible rfl)
              ((try simp only [Act.put]); (try simp only [List.setIfInBounds_toArray]); (try simp only [List.set_cons_succ]); (try simp only [List.set_cons_zero]))
              refine wpAnyH_take (i := 33) (oi := { dst := some 92, op := Op.move (Operand.tmp 91), type := 4, pos := "law.go:53", after := #[{ on := 32, ground := Ground.data }, { on := 27, ground := Ground.chain }], guard := none }) (v := ?_) rfl (by kernel_rfl) (by kernel_rfl) (by kernel_rfl) (fun _ _ _ h => h) (Or.inl ⟨by rfl, ?_⟩) (by assumption) ?_
              rotate_left
              · (intro w hSw; (try dsimp only at hSw); go_simp; try with_reducible rfl)
              ((try simp only [Act.put]); (try simp only [List.setIfInBounds_toArray]); (try simp only [List.set_cons_succ]); (try simp only [List.set_cons_zero]))
              refine wpAnyH_take (i := 34) (oi := { dst := some 93, op := Op.fieldAddr 29 (Operand.tmp 5) 0, type := 0, pos := "law.go:53", after := #[{ on := 33, ground := Ground.guard }], guard := some (33, true) }) (v := ?_) rfl (by kernel_rfl) (by kernel_rfl) (by kernel_rfl) (fun _ _ _ h => h) (Or.inl ⟨by rfl, ?_⟩) (by assumption) ?_
              rotate_left
              · (intro w hSw; (try dsimp only at hSw); go_simp; try with_reducible rfl)
              ((try simp only [Act.put]); (try simp only [List.setIfInBounds_toArray]); (try simp only [List.set_cons_succ]); (try simp only [List.set_cons_zero]))
              refine wpAnyH_take (i := 35) (oi := { dst := some 94, op := Op.load 27 (Operand.tmp 93), type := 27, pos := "law.go:53", after := #[{ on := 34, ground := Ground.data }, { on := 33, ground := Ground.guard }], guard := some (33, true) }) (v := ?_) rfl (by kernel_rfl) (by kernel_rfl) (by kernel_rfl) (fun _ _ _ h => h) (Or.inl ⟨by rfl, ?_⟩) (by assumption) ?_
              rotate_left
              · (intro w hSw; (try dsimp only at hSw); go_simp; try with_reducible rfl)
              ((try simp only [Act.put]); (try simp only [List.setIfInBounds_toArray]); (try simp only [List.set_cons_succ]); (try simp only [List.set_cons_zero]))
              refine wpAnyH_take (i := 36) (oi := { dst := some 95, op := Op.indexAddr 27 (Operand.tmp 94) (Operand.const (Value.int IntKind.i64 1)), type := 0, pos := "law.go:53", after := #[{ on := 35, ground := Ground.data }, { on := 33, ground := Ground.guard }], guard := some (33, true) }) (v := ?_) rfl (by kernel_rfl) (by kernel_rfl) (by kernel_rfl) (fun _ _ _ h => h) (Or.inl ⟨by rfl, ?_⟩) (by assumption) ?_
              rotate_left
              · (intro w hSw; (try dsimp only at hSw); go_simp; try with_reducible rfl)
              ((try simp only [Act.put]); (try simp only [List.setIfInBounds_toArray]); (try simp only [List.set_cons_succ]); (try simp only [List.set_cons_zero]))
              refine wpAnyH_take (i := 37) (oi := { dst := some 96, op := Op.fieldAddr 26 (Operand.tmp 95) 2, type := 0, pos := "law.go:53", after := #[{ on := 36, ground := Ground.data }, { on := 33, ground := Ground.guard }], guard := some (33, true) }) (v := ?_) rfl (by kernel_rfl) (by kernel_rfl) (by kernel_rfl) (fun _ _ _ h => h) (Or.inl ⟨by rfl, ?_⟩) (by assumption) ?_
              rotate_left
              · (intro w hSw; (try dsimp only at hSw); go_simp; try with_reducible rfl)
              ((try simp only [Act.put]); (try simp only [List.setIfInBounds_toArray]); (try simp only [List.set_cons_succ]); (try simp only [List.set_cons_zero]))
              refine wpAnyH_take (i := 38) (oi := { dst := some 97, op := Op.load 24 (Operand.tmp 96), type := 24, pos := "law.go:53", after := #[{ on := 37, ground := Ground.data }, { on := 33, ground := Ground.guard }], guard := some (33, true) }) (v := ?_) rfl (by kernel_rfl) (by kernel_rfl) (by kernel_rfl) (fun _ _ _ h => h) (Or.inl ⟨by rfl, ?_⟩) (by assumption) ?_
              rotate_left
              · (intro w hSw; (try dsimp only at hSw); go_simp; try with_reducible rfl)
              ((try simp only [Act.put]); (try simp only [List.setIfInBounds_toArray]); (try simp only [List.set_cons_succ]); (try simp only [List.set_cons_zero]))
              refine wpAnyH_take (i := 39) (oi := { dst := some 98, op := Op.binOp BinOp.eql 24 (Operand.tmp 97) (Operand.const (Value.int IntKind.u64 4)) 24, type := 4, pos := "law.go:53", after := #[{ on := 38, ground := Ground.data }, { on := 33, ground := Ground.guard }], guard := some (33, true) }) (v := ?_) rfl (by kernel_rfl) (by kernel_rfl) (by kernel_rfl) (fun _ _ _ h => h) (Or.inl ⟨by rfl, ?_⟩) (by assumption) ?_
              rotate_left
              · (intro w hSw; (try dsimp only at hSw); go_simp; try with_reducible rfl)
              ((try simp only [Act.put]); (try simp only [List.setIfInBounds_toArray]); (try simp only [List.set_cons_succ]); (try simp only [List.set_cons_zero]))
              refine wpAnyH_take (i := 40) (oi := { dst := some 99, op := Op.pick (Operand.tmp 92) (Operand.tmp 98) (Operand.const (Value.bool false)), type := 4, pos := "law.go:53", after := #[{ on := 33, ground := Ground.data }, { on := 39, ground := Ground.data }], guard := none }) (v := ?_) rfl (by kernel_rfl) (by kernel_rfl) (by kernel_rfl) (fun _ _ _ h => h) (Or.inl ⟨by rfl, ?_⟩) (by assumption) ?_
              rotate_left
              · (intro w hSw; (try dsimp only at hSw); go_simp; try with_reducible rfl)
              ((try simp only [Act.put]); (try simp only [List.setIfInBounds_toArray]); (try simp only [List.set_cons_succ]); (try simp only [List.set_cons_zero]))
              refine wpAnyH_take (i := 41) (oi := { dst := some 100, op := Op.move (Operand.tmp 99), type := 4, pos := "law.go:53", after := #[{ on := 40, ground := Ground.data }, { on := 33, ground := Ground.chain }], guard := none }) (v := ?_) rfl (by kernel_rfl) (by kernel_rfl) (by kernel_rfl) (fun _ _ _ h => h) (Or.inl ⟨by rfl, ?_⟩) (by assumption) ?_
              rotate_left
              · (intro w hSw; (try dsimp only at hSw); go_simp; try with_reducible rfl)
              ((try simp only [Act.put]); (try simp only [List.setIfInBounds_toArray]); (try simp only [List.set_cons_succ]); (try simp only [List.set_cons_zero]))
              refine wpAnyH_take (i := 42) (oi := { dst := some 101, op := Op.fieldAddr 29 (Operand.tmp 6) 0, type := 0, pos := "law.go:53", after := #[{ on := 41, ground := Ground.guard }], guard := some (41, true) }) (v := ?_) rfl (by kernel_rfl) (by kernel_rfl) (by kernel_rfl) (fun _ _ _ h => h) (Or.inl ⟨by rfl, ?_⟩) (by assumption) ?_
              rotate_left
              · (intro w hSw; (try dsimp only at hSw); go_simp; try with_reducible rfl)
              ((try simp only [Act.put]); (try simp only [List.setIfInBounds_toArray]); (try simp only [List.set_cons_succ]); (try simp only [List.set_cons_zero]))
              refine wpAnyH_take (i := 43) (oi := { dst := some 102, op := Op.load 27 (Operand.tmp 101), type := 27, pos := "law.go:53", after := #[{ on := 42, ground := Ground.data }, { on := 41, ground := Ground.guard }], guard := some (41, true) }) (v := ?_) rfl (by kernel_rfl) (by kernel_rfl) (by kernel_rfl) (fun _ _ _ h => h) (Or.inl ⟨by rfl, ?_⟩) (by assumption) ?_
              rotate_left
              · (intro w hSw; (try dsimp only at hSw); go_simp; try with_reducible rfl)
              ((try simp only [Act.put]); (try simp only [List.setIfInBounds_toArray]); (try simp only [List.set_cons_succ]); (try simp only [List.set_cons_zero]))
              refine wpAnyH_take (i := 44) (oi := { dst := some 103, op := Op.call { callee := Callee.builtin Builtin.len, args := #[Operand.tmp 102], argTypes := #[27] }, type := 3, pos := "law.go:53", after := #[{ on := 43, ground := Ground.data }, { on := 41, ground := Ground.guard }], guard := some (41, true) }) (v := ?_) rfl (by kernel_rfl) (by kernel_rfl) (by kernel_rfl) (fun _ _ _ h => h) (Or.inl ⟨by rfl, ?_⟩) (by assumption) ?_
              rotate_left
              · (intro w hSw; (try dsimp only at hSw); go_simp; try with_reducible rfl)
              ((try simp only [Act.put]); (try simp only [List.setIfInBounds_toArray]); (try simp only [List.set_cons_succ]); (try simp only [List.set_cons_zero]))
              refine wpAnyH_take (i := 45) (oi := { dst := some 104, op := Op.binOp BinOp.eql 3 (Operand.tmp 103) (Operand.const (Value.int IntKind.i64 3)) 3, type := 4, pos := "law.go:53", after := #[{ on := 44, ground := Ground.data }, { on := 41, ground := Ground.guard }], guard := some (41, true) }) (v := ?_) rfl (by kernel_rfl) (by kernel_rfl) (by kernel_rfl) (fun _ _ _ h => h) (Or.inl ⟨by rfl, ?_⟩) (by assumption) ?_
              rotate_left
              · (intro w hSw; (try dsimp only at hSw); go_simp; try with_reducible rfl)
              ((try simp only [Act.put]); (try simp only [List.setIfInBounds_toArray]); (try simp only [List.set_cons_succ]); (try simp only [List.set_cons_zero]))
              refine wpAnyH_take (i := 46) (oi := { dst := some 105, op := Op.pick (Operand.tmp 100) (Operand.tmp 104) (Operand.const (Value.bool false)), type := 4, pos := "law.go:53", after := #[{ on := 41, ground := Ground.data }, { on := 45, ground := Ground.data }], guard := none }) (v := ?_) rfl (by kernel_rfl) (by kernel_rfl) (by kernel_rfl) (fun _ _ _ h => h) (Or.inl ⟨by rfl, ?_⟩) (by assumption) ?_
              rotate_left
              · (intro w hSw; (try dsimp only at hSw); go_simp; try with_reducible rfl)
              ((try simp only [Act.put]); (try simp only [List.setIfInBounds_toArray]); (try simp only [List.set_cons_succ]); (try simp only [List.set_cons_zero]))
              refine wpAnyH_take (i := 47) (oi := { dst := some 106, op := Op.move (Operand.tmp 105), type := 4, pos := "law.go:53", after := #[{ on := 46, ground := Ground.data }, { on := 41, ground := Ground.chain }], guard := none }) (v := ?_) rfl (by kernel_rfl) (by kernel_rfl) (by kernel_rfl) (fun _ _ _ h => h) (Or.inl ⟨by rfl, ?_⟩) (by assumption) ?_
              rotate_left
              · (intro w hSw; (try dsimp only at hSw); go_simp; try with_reducible rfl)
              ((try simp only [Act.put]); (try simp only [List.setIfInBounds_toArray]); (try simp only [List.set_cons_succ]); (try simp only [List.set_cons_zero]))
              refine wpAnyH_take (i := 48) (oi := { dst := some 107, op := Op.fieldAddr 29 (Operand.tmp 7) 0, type := 0, pos := "law.go:53", after := #[{ on := 47, ground := Ground.guard }], guard := some (47, true) }) (v := ?_) rfl (by kernel_rfl) (by kernel_rfl) (by kernel_rfl) (fun _ _ _ h => h) (Or.inl ⟨by rfl, ?_⟩) (by assumption) ?_
              rotate_left
              · (intro w hSw; (try dsimp only at hSw); go_simp; try with_reducible rfl)
              ((try simp only [Act.put]); (try simp only [List.setIfInBounds_toArray]); (try simp only [List.set_cons_succ]); (try simp only [List.set_cons_zero]))
              refine wpAnyH_take (i := 49) (oi := { dst := some 108, op := Op.load 27 (Operand.tmp 107), type := 27, pos := "law.go:53", after := #[{ on := 48, ground := Ground.data }, { on := 47, ground := Ground.guard }], guard := some (47, true) }) (v := ?_) rfl (by kernel_rfl) (by kernel_rfl) (by kernel_rfl) (fun _ _ _ h => h) (Or.inl ⟨by rfl, ?_⟩) (by assumption) ?_
              rotate_left
              · (intro w hSw; (try dsimp only at hSw); go_simp; try with_reducible rfl)
              ((try simp only [Act.put]); (try simp only [List.setIfInBounds_toArray]); (try simp only [List.set_cons_succ]); (try simp only [List.set_cons_zero]))
              refine wpAnyH_take (i := 51) (oi := { dst := some 110, op := Op.build 43 #[(0, Operand.const (Value.int IntKind.i64 0)), (1, Operand.const (Value.int IntKind.u64 1)), (2, Operand.const (Value.int IntKind.u64 4))], type := 43, pos := "law.go:53", after := #[{ on := 47, ground := Ground.guard }], guard := some (47, true) }) (v := ?_) rfl (by kernel_rfl) (by kernel_rfl) (by kernel_rfl) (fun _ _ _ h => h) (Or.inl ⟨by rfl, ?_⟩) (by assumption) ?_
              rotate_left
              · (intro w hSw; (try dsimp only at hSw); go_simp; try with_reducible rfl)
              ((try simp only [Act.put]); (try simp only [List.setIfInBounds_toArray]); (try simp only [List.set_cons_succ]); (try simp only [List.set_cons_zero]))
              refine wpAnyH_take (i := 52) (oi := { dst := some 111, op := Op.build 43 #[(0, Operand.const (Value.int IntKind.i64 0)), (1, Operand.const (Value.int IntKind.u64 3)), (2, Operand.const (Value.int IntKind.u64 1))], type := 43, pos := "law.go:53", after := #[{ on := 47, ground := Ground.guard }], guard := some (47, true) }) (v := ?_) rfl (by kernel_rfl) (by kernel_rfl) (by kernel_rfl) (fun _ _ _ h => h) (Or.inl ⟨by rfl, ?_⟩) (by assumption) ?_
              rotate_left
              · (intro w hSw; (try dsimp only at hSw); go_simp; try with_reducible rfl)
              ((try simp only [Act.put]); (try simp only [List.setIfInBounds_toArray]); (try simp only [List.set_cons_succ]); (try simp only [List.set_cons_zero]))
              refine wpAnyH_take (i := 53) (oi := { dst := some 112, op := Op.build 43 #[(0, Operand.const (Value.int IntKind.i64 1)), (1, Operand.const (Value.int IntKind.u64 5))], type := 43, pos := "law.go:53", after := #[{ on := 47, ground := Ground.guard }], guard := some (47, true) }) (v := ?_) rfl (by kernel_rfl) (by kernel_rfl) (by kernel_rfl) (fun _ _ _ h => h) (Or.inl ⟨by rfl, ?_⟩) (by assumption) ?_
              rotate_left
              · (intro w hSw; (try dsimp only at hSw); go_simp; try with_reducible rfl)
              ((try simp only [Act.put]); (try simp only [List.setIfInBounds_toArray]); (try simp only [List.set_cons_succ]); (try simp only [List.set_cons_zero]))
              refine wpAnyH_take (i := 54) (oi := { dst := some 113, op := Op.build 43 #[(0, Operand.const (Value.int IntKind.i64 2)), (1, Operand.const (Value.int IntKind.u64 1)), (2, Operand.const (Value.int IntKind.u64 1))], type := 43, pos := "law.go:53", after := #[{ on := 47, ground := Ground.guard }], guard := some (47, true) }) (v := ?_) rfl (by kernel_rfl) (by kernel_rfl) (by kernel_rfl) (fun _ _ _ h => h) (Or.inl ⟨by rfl, ?_⟩) (by assumption) ?_
              rotate_left
              · (intro w hSw; (try dsimp only at hSw); go_simp; try with_reducible rfl)
              ((try simp only [Act.put]); (try simp only [List.setIfInBounds_toArray]); (try simp only [List.set_cons_succ]); (try simp only [List.set_cons_zero]))
              refine' neck2 (S := (fun w' => w'.cell? ⟨pG, 0, none⟩ = some (.slice aG 3 3) ∧ w'.cell? ⟨pA, 0, none⟩ = some (.slice aA 3 cA) ∧ w'.cell? ⟨pB, 0, none⟩ = some (.slice aB 2 cB) ∧ w'.cell? ⟨pC, 0, none⟩ = some (.slice aC 3 cC) ∧ w'.cell? ⟨pD, 0, none⟩ = some (.slice (some ⟨bD, oD, none⟩) 3 cD) ∧ w'.cell? ⟨pE, 0, none⟩ = some (.slice aE 3 cE) ∧ w'.cell? ⟨pF, 0, none⟩ = some (.slice aF 4 cF) ∧ w'.cell? ⟨pX, 0, none⟩ = some (.slice aX 2 2) ∧ w'.cell? ⟨pH, 0, none⟩ = some (.slice aH 3 cH) ∧ w'.cell? ⟨bD, oD + 1 * 3 + 2, none⟩ = some (.int .u64 4) ∧ Hid (Below V10.heap.size V10 w'))) (fun N57 => ?_) (fun s109 s114 y57 hHeld => ?_)
              rotate_left
              · focus
                  refine wpAnyH_ready (rs := [50, 55]) (by kernel_rfl) (by simp) ?_
                  refine AllReadyH.cons (o := { dst := some 109, op := Op.call { callee := Callee.value (Operand.func 18), args := #[Operand.tmp 108], argTypes := #[27] }, type := 40, pos := "law.go:53", after := #[{ on := 49, ground := Ground.data }, { on := 47, ground := Ground.chain }, { on := 47, ground := Ground.guard }], guard := some (47, true) }) rfl (fun K hK => ?_) (AllReadyH.cons (o := { dst := some 114, op := Op.buildSlice 40 4 #[(0, Operand.tmp 110), (1, Operand.tmp 111), (2, Operand.tmp 112), (3, Operand.tmp 113)], type := 40, pos := "law.go:53", after := #[{ on := 51, ground := Ground.data }, { on := 52, ground := Ground.data }, { on := 53, ground := Ground.data }, { on := 54, ground := Ground.data }, { on := 47, ground := Ground.guard }], guard := some (47, true) }) rfl (fun K hK => ?_) AllReadyH.nil)
                  · skip
                    go_simp
                    refine (log_k (LF.out.ro.below (Hid.out hHeld.2.2.2.2.2.2.2.2.2.2)) (by decide)).mono ?_
                    rintro e v50 ⟨a50, c50, rfl, h5, hb⟩
                    have R := Lib.hid h5
                    clear h5
                    try go_wp2_with fail
                    refine hK.out _ _ ?_ (fun hNew => ?_)
                    · exact ⟨cell_go hHeld.1 hb, cell_go hHeld.2.1 hb, cell_go hHeld.2.2.1 hb, cell_go hHeld.2.2.2.1 hb, cell_go hHeld.2.2.2.2.1 hb, cell_go hHeld.2.2.2.2.2.1 hb, cell_go hHeld.2.2.2.2.2.2.1 hb, cell_go hHeld.2.2.2.2.2.2.2.1 hb, cell_go hHeld.2.2.2.2.2.2.2.2.1 hb, cell_go hHeld.2.2.2.2.2.2.2.2.2.1 hb, Lib.hid ((Hid.out hHeld.2.2.2.2.2.2.2.2.2.2).trans (hb.mono (Hid.out hHeld.2.2.2.2.2.2.2.2.2.2).size))⟩
                    clear hK K
                    replace hHeld := hNew
                    clear hNew
                    ((try simp only [Act.put]); (try simp only [List.setIfInBounds_toArray]); (try simp only [List.set_cons_succ]); (try simp only [List.set_cons_zero]))
                    refine wpAnyH_ready (rs := [55]) (by kernel_rfl) (by simp) ?_
                    refine AllReadyH.cons (o := { dst := some 114, op := Op.buildSlice 40 4 #[(0, Operand.tmp 110), (1, Operand.tmp 111), (2, Operand.tmp 112), (3, Operand.tmp 113)], type := 40, pos := "law.go:53", after := #[{ on := 51, ground := Ground.data }, { on := 52, ground := Ground.data }, { on := 53, ground := Ground.data }, { on := 54, ground := Ground.data }, { on := 47, ground := Ground.guard }], guard := some (47, true) }) rfl (fun K hK => ?_) AllReadyH.nil
                    go_simp
                    have Q := Lib.hid (lit_at v50 43 fK #[.int .i64 0, .int .u64 1, .int .u64 4, .int .i64 0, .int .u64 3, .int .u64 1, .int .i64 1, .int .u64 5, .int .u64 0, .int .i64 2, .int .u64 1, .int .u64 1] 4 rfl rfl (by decide) (by intro x hx; simp only [fK, List.mem_cons, List.not_mem_nil, or_false] at hx; rcases hx with rfl | rfl | rfl | rfl <;> (unfold OkX IntOk; decide)))
                    replace R := Lib.hid (R.out.below (boxb v50 (.cells #[.int .i64 0, .int .u64 1, .int .u64 4, .int .i64 0, .int .u64 3, .int .u64 1, .int .i64 1, .int .u64 5, .int .u64 0, .int .i64 2, .int .u64 1, .int .u64 1] 43)))
                    have hb := boxb v50 (.cells #[.int .i64 0, .int .u64 1, .int .u64 4, .int .i64 0, .int .u64 3, .int .u64 1, .int .i64 1, .int .u64 5, .int .u64 0, .int .i64 2, .int .u64 1, .int .u64 1] 43)
                    generalize hw : v50.alloc (.cells #[.int .i64 0, .int .u64 1, .int .u64 4, .int .i64 0, .int .u64 3, .int .u64 1, .int .i64 1, .int .u64 5, .int .u64 0, .int .i64 2, .int .u64 1, .int .u64 1] 43) = v55 at *
                    clear hw
                    try go_wp2_with fail
                    refine hK.out _ _ ?_ (fun hNew => ?_)
                    · exact ⟨cell_go hHeld.1 hb, cell_go hHeld.2.1 hb, cell_go hHeld.2.2.1 hb, cell_go hHeld.2.2.2.1 hb, cell_go hHeld.2.2.2.2.1 hb, cell_go hHeld.2.2.2.2.2.1 hb, cell_go hHeld.2.2.2.2.2.2.1 hb, cell_go hHeld.2.2.2.2.2.2.2.1 hb, cell_go hHeld.2.2.2.2.2.2.2.2.1 hb, cell_go hHeld.2.2.2.2.2.2.2.2.2.1 hb, Lib.hid ((Hid.out hHeld.2.2.2.2.2.2.2.2.2.2).trans (hb.mono (Hid.out hHeld.2.2.2.2.2.2.2.2.2.2).size))⟩
                    clear hK K
                    replace hHeld := hNew
                    clear hNew
                    ((try simp only [Act.put]); (try simp only [List.setIfInBounds_toArray]); (try simp only [List.set_cons_succ]); (try simp only [List.set_cons_zero]))
                    as_aux_lemma =>
                      refine wpAnyH_ready (rs := [56]) (by kernel_rfl) (by simp) ?_
                      refine AllReadyH.cons (o := { dst := some 115, op := Op.call { callee := Callee.value (Operand.func 17), args := #[Operand.tmp 109, Operand.tmp 114], argTypes := #[40, 40] }, type := 4, pos := "law.go:53", after := #[{ on := 50, ground := Ground.data }, { on := 55, ground := Ground.data }, { on := 50, ground := Ground.chain }, { on := 47, ground := Ground.guard }], guard := some (47, true) }) rfl (fun K hK => ?_) AllReadyH.nil
                      go_simp
                      refine (logs_any R.out Q.out (r := true) (by decide)).mono ?_
                      rintro e v56 ⟨rfl, nn, hw⟩
                      have hb := drew_b hw
                      clear hw R Q
                      try go_wp2_with fail
                      refine hK.out _ _ ?_ (fun hNew => ?_)
                      · exact ⟨cell_go hHeld.1 hb, cell_go hHeld.2.1 hb, cell_go hHeld.2.2.1 hb, cell_go hHeld.2.2.2.1 hb, cell_go hHeld.2.2.2.2.1 hb, cell_go hHeld.2.2.2.2.2.1 hb, cell_go hHeld.2.2.2.2.2.2.1 hb, cell_go hHeld.2.2.2.2.2.2.2.1 hb, cell_go hHeld.2.2.2.2.2.2.2.2.1 hb, cell_go hHeld.2.2.2.2.2.2.2.2.2.1 hb, Lib.hid ((Hid.out hHeld.2.2.2.2.2.2.2.2.2.2).trans (hb.mono (Hid.out hHeld.2.2.2.2.2.2.2.2.2.2).size))⟩
                      clear hK K
                      replace hHeld := hNew
                      clear hNew
                      ((try simp only [Act.put]); (try simp only [List.setIfInBounds_toArray]); (try simp only [List.set_cons_succ]); (try simp only [List.set_cons_zero]))
                      refine gen1 109 (by kernel_rfl) (fun s109 => ?_)
                      ((try simp only [Act.put]); (try simp only [List.setIfInBounds_toArray]); (try simp only [List.set_cons_succ]); (try simp only [List.set_cons_zero]))
                      refine gen1 114 (by kernel_rfl) (fun s114 => ?_)
                      ((try simp only [Act.put]); (try simp only [List.setIfInBounds_toArray]); (try simp only [List.set_cons_succ]); (try simp only [List.set_cons_zero]))
                      refine listed_to (l' := #[true, true, true, true, true, true, true, true, true, true, true, true, true, true, true, true, true, true, true, true, true, true, true, true, true, true, true, true, true, true, true, true, true, true, true, true, true, true, true, true, true, true, true, true, true, true, true, true, true, true, true, true, true, true, true, true, true, false, false, false, false, false, false, false, false, false, false, false, false, false, false, false, false, false, false, false, false, false, false, false, false, false, false, false, false, false, false, false, false, false, false, false, false, false, false, false, false, false, false, false, false]) (by kernel_rfl) ?_
                      refine genw hHeld (fun y hy => ?_)
                      exact N57 s109 s114 y hy
                  · skip
                    go_simp
                    have Q := Lib.hid (lit_at y26 43 fK #[.int .i64 0, .int .u64 1, .int .u64 4, .int .i64 0, .int .u64 3, .int .u64 1, .int .i64 1, .int .u64 5, .int .u64 0, .int .i64 2, .int .u64 1, .int .u64 1] 4 rfl rfl (by decide) (by intro x hx; simp only [fK, List.mem_cons, List.not_mem_nil, or_false] at hx; rcases hx with rfl | rfl | rfl | rfl <;> (unfold OkX IntOk; decide)))
                    have hb := boxb y26 (.cells #[.int .i64 0, .int .u64 1, .int .u64 4, .int .i64 0, .int .u64 3, .int .u64 1, .int .i64 1, .int .u64 5, .int .u64 0, .int .i64 2, .int .u64 1, .int .u64 1] 43)
                    generalize hw : y26.alloc (.cells #[.int .i64 0, .int .u64 1, .int .u64 4, .int .i64 0, .int .u64 3, .int .u64 1, .int .i64 1, .int .u64 5, .int .u64 0, .int .i64 2, .int .u64 1, .int .u64 1] 43) = v55 at *
                    clear hw
                    try go_wp2_with fail
                    refine hK.out _ _ ?_ (fun hNew => ?_)
                    · exact ⟨cell_go hHeld.1 hb, cell_go hHeld.2.1 hb, cell_go hHeld.2.2.1 hb, cell_go hHeld.2.2.2.1 hb, cell_go hHeld.2.2.2.2.1 hb, cell_go hHeld.2.2.2.2.2.1 hb, cell_go hHeld.2.2.2.2.2.2.1 hb, cell_go hHeld.2.2.2.2.2.2.2.1 hb, cell_go hHeld.2.2.2.2.2.2.2.2.1 hb, cell_go hHeld.2.2.2.2.2.2.2.2.2.1 hb, Lib.hid ((Hid.out hHeld.2.2.2.2.2.2.2.2.2.2).trans (hb.mono (Hid.out hHeld.2.2.2.2.2.2.2.2.2.2).size))⟩
                    clear hK K
                    replace hHeld := hNew
                    clear hNew
                    ((try simp only [Act.put]); (try simp only [List.setIfInBounds_toArray]); (try simp only [List.set_cons_succ]); (try simp only [List.set_cons_zero]))
                    refine wpAnyH_ready (rs := [50]) (by kernel_rfl) (by simp) ?_
                    refine AllReadyH.cons (o := { dst := some 109, op := Op.call { callee := Callee.value (Operand.func 18), args := #[Operand.tmp 108], argTypes := #[27] }, type := 40, pos := "law.go:53", after := #[{ on := 49, ground := Ground.data }, { on := 47, ground := Ground.chain }, { on := 47, ground := Ground.guard }], guard := some (47, true) }) rfl (fun K hK => ?_) AllReadyH.nil
                    go_simp
                    refine (log_k (LF.out.ro.below (Hid.out hHeld.2.2.2.2.2.2.2.2.2.2)) (by decide)).mono ?_
                    rintro e v50 ⟨a50, c50, rfl, h5, hb⟩
                    replace Q := Lib.hid (Q.out.below hb)
                    have R := Lib.hid h5
                    clear h5
                    try go_wp2_with fail
                    refine hK.out _ _ ?_ (fun hNew => ?_)
                    · exact ⟨cell_go hHeld.1 hb, cell_go hHeld.2.1 hb, cell_go hHeld.2.2.1 hb, cell_go hHeld.2.2.2.1 hb, cell_go hHeld.2.2.2.2.1 hb, cell_go hHeld.2.2.2.2.2.1 hb, cell_go hHeld.2.2.2.2.2.2.1 hb, cell_go hHeld.2.2.2.2.2.2.2.1 hb, cell_go hHeld.2.2.2.2.2.2.2.2.1 hb, cell_go hHeld.2.2.2.2.2.2.2.2.2.1 hb, Lib.hid ((Hid.out hHeld.2.2.2.2.2.2.2.2.2.2).trans (hb.mono (Hid.out hHeld.2.2.2.2.2.2.2.2.2.2).size))⟩
                    clear hK K
                    replace hHeld := hNew
                    clear hNew
                    ((try simp only [Act.put]); (try simp only [List.setIfInBounds_toArray]); (try simp only [List.set_cons_succ]); (try simp only [List.set_cons_zero]))
                    as_aux_lemma =>
                      refine wpAnyH_ready (rs := [56]) (by kernel_rfl) (by simp) ?_
                      refine AllReadyH.cons (o := { dst := some 115, op := Op.call { callee := Callee.value (Operand.func 17), args := #[Operand.tmp 109, Operand.tmp 114], argTypes := #[40, 40] }, type := 4, pos := "law.go:53", after := #[{ on := 50, ground := Ground.data }, { on := 55, ground := Ground.data }, { on := 50, ground := Ground.chain }, { on := 47, ground := Ground.guard }], guard := some (47, true) }) rfl (fun K hK => ?_) AllReadyH.nil
                      go_simp
                      refine (logs_any R.out Q.out (r := true) (by decide)).mono ?_
                      rintro e v56 ⟨rfl, nn, hw⟩
                      have hb := drew_b hw
                      clear hw R Q
                      try go_wp2_with fail
                      refine hK.out _ _ ?_ (fun hNew => ?_)
                      · exact ⟨cell_go hHeld.1 hb, cell_go hHeld.2.1 hb, cell_go hHeld.2.2.1 hb, cell_go hHeld.2.2.2.1 hb, cell_go hHeld.2.2.2.2.1 hb, cell_go hHeld.2.2.2.2.2.1 hb, cell_go hHeld.2.2.2.2.2.2.1 hb, cell_go hHeld.2.2.2.2.2.2.2.1 hb, cell_go hHeld.2.2.2.2.2.2.2.2.1 hb, cell_go hHeld.2.2.2.2.2.2.2.2.2.1 hb, Lib.hid ((Hid.out hHeld.2.2.2.2.2.2.2.2.2.2).trans (hb.mono (Hid.out hHeld.2.2.2.2.2.2.2.2.2.2).size))⟩
                      clear hK K
                      replace hHeld := hNew
                      clear hNew
                      ((try simp only [Act.put]); (try simp only [List.setIfInBounds_toArray]); (try simp only [List.set_cons_succ]); (try simp only [List.set_cons_zero]))
                      refine gen1 109 (by kernel_rfl) (fun s109 => ?_)
                      ((try simp only [Act.put]); (try simp only [List.setIfInBounds_toArray]); (try simp only [List.set_cons_succ]); (try simp only [List.set_cons_zero]))
                      refine gen1 114 (by kernel_rfl) (fun s114 => ?_)
                      ((try simp only [Act.put]); (try simp only [List.setIfInBounds_toArray]); (try simp only [List.set_cons_succ]); (try simp only [List.set_cons_zero]))
                      refine listed_to (l' := #[true, true, true, true, true, true, true, true, true, true, true, true, true, true, true, true, true, true, true, true, true, true, true, true, true, true, true, true, true, true, true, true, true, true, true, true, true, true, true, true, true, true, true, true, true, true, true, true, true, true, true, true, true, true, true, true, true, false, false, false, false, false, false, false, false, false, false, false, false, false, false, false, false, false, false, false, false, false, false, false, false, false, false, false, false, false, false, false, false, false, false, false, false, false, false, false, false, false, false, false, false]) (by kernel_rfl) ?_
                      refine genw hHeld (fun y hy => ?_)
                      exact N57 s109 s114 y hy
              · as_aux_lemma =>
                  refine wpAnyH_take (i := 57) (oi := { dst := some 116, op := Op.pick (Operand.tmp 106) (Operand.tmp 115) (Operand.const (Value.bool false)), type := 4, pos := "law.go:53", after := #[{ on := 47, ground := Ground.data }, { on := 56, ground := Ground.data }], guard := none }) (v := ?_) rfl (by kernel_rfl) (by kernel_rfl) (by kernel_rfl) (fun _ _ _ h => h) (Or.inl ⟨by rfl, ?_⟩) (by assumption) ?_
                  rotate_left
                  · (intro w hSw; (try dsimp only at hSw); go_simp; try with_reducible rfl)
                  ((try simp only [Act.put]); (try simp only [List.setIfInBounds_toArray]); (try simp only [List.set_cons_succ]); (try simp only [List.set_cons_zero]))
                  refine wpAnyH_take (i := 58) (oi := { dst := some 117, op := Op.move (Operand.tmp 116), type := 4, pos := "law.go:53", after := #[{ on := 57, ground := Ground.data }, { on := 56, ground := Ground.chain }], guard := none }) (v := ?_) rfl (by kernel_rfl) (by kernel_rfl) (by kernel_rfl) (fun _ _ _ h => h) (Or.inl ⟨by rfl, ?_⟩) (by assumption) ?_
                  rotate_left
                  · (intro w hSw; (try dsimp only at hSw); go_simp; try with_reducible rfl)
                  ((try simp only [Act.put]); (try simp only [List.setIfInBounds_toArray]); (try simp only [List.set_cons_succ]); (try simp only [List.set_cons_zero]))
                  refine wpAnyH_take (i := 59) (oi := { dst := some 118, op := Op.load 29 (Operand.tmp 8), type := 29, pos := "law.go:53", after := #[{ on := 58, ground := Ground.guard }], guard := some (58, true) }) (v := ?_) rfl (by kernel_rfl) (by kernel_rfl) (by kernel_rfl) (fun _ _ _ h => h) (Or.inl ⟨by rfl, ?_⟩) (by assumption) ?_
                  rotate_left
                  · (intro w hSw; (try dsimp only at hSw); go_simp; try with_reducible rfl)
                  ((try simp only [Act.put]); (try simp only [List.setIfInBounds_toArray]); (try simp only [List.set_cons_succ]); (try simp only [List.set_cons_zero]))
                  refine wpAnyH_ready (rs := [60]) (by kernel_rfl) (by simp) ?_
                  refine AllReadyH.cons (o := { dst := some 119, op := Op.call { callee := Callee.value (Operand.func 19), args := #[Operand.tmp 118], argTypes := #[29] }, type := 4, pos := "law.go:53", after := #[{ on := 59, ground := Ground.data }, { on := 58, ground := Ground.chain }, { on := 58, ground := Ground.guard }], guard := some (58, true) }) rfl (fun K hK => ?_) AllReadyH.nil
                  go_simp
                  refine (tgood_any (LX.out.ro.below (Hid.out hHeld.2.2.2.2.2.2.2.2.2.2)) k_bad).mono ?_
                  rintro e v60 ⟨rfl, hb⟩
                  try go_wp2_with fail
                  refine hK.out _ _ ?_ (fun hNew => ?_)
                  · exact ⟨cell_go hHeld.1 hb, cell_go hHeld.2.1 hb, cell_go hHeld.2.2.1 hb, cell_go hHeld.2.2.2.1 hb, cell_go hHeld.2.2.2.2.1 hb, cell_go hHeld.2.2.2.2.2.1 hb, cell_go hHeld.2.2.2.2.2.2.1 hb, cell_go hHeld.2.2.2.2.2.2.2.1 hb, cell_go hHeld.2.2.2.2.2.2.2.2.1 hb, cell_go hHeld.2.2.2.2.2.2.2.2.2.1 hb, Lib.hid ((Hid.out hHeld.2.2.2.2.2.2.2.2.2.2).trans (hb.mono (Hid.out hHeld.2.2.2.2.2.2.2.2.2.2).size))⟩
                  clear hK K
                  replace hHeld := hNew
                  clear hNew
                  ((try simp only [Act.put]); (try simp only [List.setIfInBounds_toArray]); (try simp only [List.set_cons_succ]); (try simp only [List.set_cons_zero]))
                  refine wpAnyH_take (i := 61) (oi := { dst := some 120, op := Op.unOp UnOp.not 4 (Operand.tmp 119), type := 4, pos := "law.go:53", after := #[{ on := 60, ground := Ground.data }, { on := 58, ground := Ground.guard }], guard := some (58, true) }) (v := ?_) rfl (by kernel_rfl) (by kernel_rfl) (by kernel_rfl) (fun _ _ _ h => h) (Or.inl ⟨by rfl, ?_⟩) (by assumption) ?_
                  rotate_left
                  · (intro w hSw; (try dsimp only at hSw); go_simp; try with_reducible rfl)
                  ((try simp only [Act.put]); (try simp only [List.setIfInBounds_toArray]); (try simp only [List.set_cons_succ]); (try simp only [List.set_cons_zero]))
                  refine wpAnyH_take (i := 62) (oi := { dst := some 121, op := Op.pick (Operand.tmp 117) (Operand.tmp 120) (Operand.const (Value.bool false)), type := 4, pos := "law.go:53", after := #[{ on := 58, ground := Ground.data }, { on := 61, ground := Ground.data }], guard := none }) (v := ?_) rfl (by kernel_rfl) (by kernel_rfl) (by kernel_rfl) (fun _ _ _ h => h) (Or.inl ⟨by rfl, ?_⟩) (by assumption) ?_
                  rotate_left
                  · (intro w hSw; (try dsimp only at hSw); go_simp; try with_reducible rfl)
                  ((try simp only [Act.put]); (try simp only [List.setIfInBounds_toArray]); (try simp only [List.set_cons_succ]); (try simp only [List.set_cons_zero]))
                  refine wpAnyH_take (i := 63) (oi := { dst := some 122, op := Op.move (Operand.tmp 121), type := 4, pos := "law.go:53", after := #[{ on := 62, ground := Ground.data }, { on := 60, ground := Ground.chain }], guard := none }) (v := ?_) rfl (by kernel_rfl) (by kernel_rfl) (by kernel_rfl) (fun _ _ _ h => h) (Or.inl ⟨by rfl, ?_⟩) (by assumption) ?_
                  rotate_left
                  · (intro w hSw; (try dsimp only at hSw); go_simp; try with_reducible rfl)
                  ((try simp only [Act.put]); (try simp only [List.setIfInBounds_toArray]); (try simp only [List.set_cons_succ]); (try simp only [List.set_cons_zero]))
                  refine wpAnyH_take (i := 64) (oi := { dst := some 123, op := Op.load 29 (Operand.tmp 8), type := 29, pos := "law.go:53", after := #[{ on := 63, ground := Ground.guard }], guard := some (63, true) }) (v := ?_) rfl (by kernel_rfl) (by kernel_rfl) (by kernel_rfl) (fun _ _ _ h => h) (Or.inl ⟨by rfl, ?_⟩) (by assumption) ?_
                  rotate_left
                  · (intro w hSw; (try dsimp only at hSw); go_simp; try with_reducible rfl)
                  ((try simp only [Act.put]); (try simp only [List.setIfInBounds_toArray]); (try simp only [List.set_cons_succ]); (try simp only [List.set_cons_zero]))
                  refine wpAnyH_ready (rs := [65]) (by kernel_rfl) (by simp) ?_
                  refine AllReadyH.cons (o := { dst := some 124, op := Op.call { callee := Callee.value (Operand.func 16), args := #[Operand.tmp 123], argTypes := #[29] }, type := 37, pos := "law.go:53", after := #[{ on := 64, ground := Ground.data }, { on := 63, ground := Ground.chain }, { on := 63, ground := Ground.guard }], guard := some (63, true) }) rfl (fun K hK => ?_) AllReadyH.nil
                  go_simp
                  refine (put_k (k := 0) (LX.out.ro.below (Hid.out hHeld.2.2.2.2.2.2.2.2.2.2)) (by decide) k_putbad rfl).mono ?_
                  rintro e v65 ⟨a65, c65, rfl, -, hb⟩
                  try go_wp2_with fail
                  refine hK.out _ _ ?_ (fun hNew => ?_)
                  · exact ⟨cell_go hHeld.1 hb, cell_go hHeld.2.1 hb, cell_go hHeld.2.2.1 hb, cell_go hHeld.2.2.2.1 hb, cell_go hHeld.2.2.2.2.1 hb, cell_go hHeld.2.2.2.2.2.1 hb, cell_go hHeld.2.2.2.2.2.2.1 hb, cell_go hHeld.2.2.2.2.2.2.2.1 hb, cell_go hHeld.2.2.2.2.2.2.2.2.1 hb, cell_go hHeld.2.2.2.2.2.2.2.2.2.1 hb, Lib.hid ((Hid.out hHeld.2.2.2.2.2.2.2.2.2.2).trans (hb.mono (Hid.out hHeld.2.2.2.2.2.2.2.2.2.2).size))⟩
                  clear hK K
                  replace hHeld := hNew
                  clear hNew
                  ((try simp only [Act.put]); (try simp only [List.setIfInBounds_toArray]); (try simp only [List.set_cons_succ]); (try simp only [List.set_cons_zero]))
                  refine wpAnyH_take (i := 66) (oi := { dst := some 125, op := Op.call { callee := Callee.builtin Builtin.len, args := #[Operand.tmp 124], argTypes := #[37] }, type := 3, pos := "law.go:53", after := #[{ on := 65, ground := Ground.data }, { on := 63, ground := Ground.guard }], guard := some (63, true) }) (v := ?_) rfl (by kernel_rfl) (by kernel_rfl) (by kernel_rfl) (fun _ _ _ h => h) (Or.inl ⟨by rfl, ?_⟩) (by assumption) ?_
                  rotate_left
                  · (intro w hSw; (try dsimp only at hSw); go_simp; try with_reducible rfl)
                  ((try simp only [Act.put]); (try simp only [List.setIfInBounds_toArray]); (try simp only [List.set_cons_succ]); (try simp only [List.set_cons_zero]))
                  refine wpAnyH_take (i := 67) (oi := { dst := some 126, op := Op.binOp BinOp.eql 3 (Operand.tmp 125) (Operand.const (Value.int IntKind.i64 0)) 3, type := 4, pos := "law.go:53", after := #[{ on := 66, ground := Ground.data }, { on := 63, ground := Ground.guard }], guard := some (63, true) }) (v := ?_) rfl (by kernel_rfl) (by kernel_rfl) (by kernel_rfl) (fun _ _ _ h => h) (Or.inl ⟨by rfl, ?_⟩) (by assumption) ?_
                  rotate_left
                  · (intro w hSw; (try dsimp only at hSw); go_simp; try with_reducible rfl)
                  ((try simp only [Act.put]); (try simp only [List.setIfInBounds_toArray]); (try simp only [List.set_cons_succ]); (try simp only [List.set_cons_zero]))
                  refine wpAnyH_take (i := 68) (oi := { dst := some 127, op := Op.pick (Operand.tmp 122) (Operand.tmp 126) (Operand.const (Value.bool false)), type := 4, pos := "law.go:53", after := #[{ on := 63, ground := Ground.data }, { on := 67, ground := Ground.data }], guard := none }) (v := ?_) rfl (by kernel_rfl) (by kernel_rfl) (by kernel_rfl) (fun _ _ _ h => h) (Or.inl ⟨by rfl, ?_⟩) (by assumption) ?_
                  rotate_left
                  · (intro w hSw; (try dsimp only at hSw); go_simp; try with_reducible rfl)
                  ((try simp only [Act.put]); (try simp only [List.setIfInBounds_toArray]); (try simp only [List.set_cons_succ]); (try simp only [List.set_cons_zero]))
                  refine wpAnyH_take (i := 69) (oi := { dst := some 128, op := Op.move (Operand.tmp 127), type := 4, pos := "law.go:53", after := #[{ on := 68, ground := Ground.data }, { on := 65, ground := Ground.chain }], guard := none }) (v := ?_) rfl (by kernel_rfl) (by kernel_rfl) (by kernel_rfl) (fun _ _ _ h => h) (Or.inl ⟨by rfl, ?_⟩) (by assumption) ?_
                  rotate_left
                  · (intro w hSw; (try dsimp only at hSw); go_simp; try with_reducible rfl)
                  ((try simp only [Act.put]); (try simp only [List.setIfInBounds_toArray]); (try simp only [List.set_cons_succ]); (try simp only [List.set_cons_zero]))
                  refine wpAnyH_take (i := 70) (oi := { dst := some 129, op := Op.load 29 (Operand.tmp 8), type := 29, pos := "law.go:53", after := #[{ on := 69, ground := Ground.guard }], guard := some (69, true) }) (v := ?_) rfl (by kernel_rfl) (by kernel_rfl) (by kernel_rfl) (fun _ _ _ h => h) (Or.inl ⟨by rfl, ?_⟩) (by assumption) ?_
                  rotate_left
                  · (intro w hSw; (try dsimp only at hSw); go_simp; try with_reducible rfl)
                  ((try simp only [Act.put]); (try simp only [List.setIfInBounds_toArray]); (try simp only [List.set_cons_succ]); (try simp only [List.set_cons_zero]))
                  refine wpAnyH_ready (rs := [71]) (by kernel_rfl) (by simp) ?_
                  refine AllReadyH.cons (o := { dst := some 130, op := Op.call { callee := Callee.value (Operand.func 11), args := #[Operand.tmp 129], argTypes := #[29] }, type := 29, pos := "law.go:53", after := #[{ on := 70, ground := Ground.data }, { on := 69, ground := Ground.chain }, { on := 69, ground := Ground.guard }], guard := some (69, true) }) rfl (fun K hK => ?_) AllReadyH.nil
                  go_simp
                  refine (purge_k (k := 2) (LX.out.ro.below (Hid.out hHeld.2.2.2.2.2.2.2.2.2.2)) (by decide) k_pbad rfl).mono ?_
                  rintro e v71 ⟨a71, c71, rfl, -, hb⟩
                  try go_wp2_with fail
                  refine hK.out _ _ ?_ (fun hNew => ?_)
                  · exact ⟨cell_go hHeld.1 hb, cell_go hHeld.2.1 hb, cell_go hHeld.2.2.1 hb, cell_go hHeld.2.2.2.1 hb, cell_go hHeld.2.2.2.2.1 hb, cell_go hHeld.2.2.2.2.2.1 hb, cell_go hHeld.2.2.2.2.2.2.1 hb, cell_go hHeld.2.2.2.2.2.2.2.1 hb, cell_go hHeld.2.2.2.2.2.2.2.2.1 hb, cell_go hHeld.2.2.2.2.2.2.2.2.2.1 hb, Lib.hid ((Hid.out hHeld.2.2.2.2.2.2.2.2.2.2).trans (hb.mono (Hid.out hHeld.2.2.2.2.2.2.2.2.2.2).size))⟩
                  clear hK K
                  replace hHeld := hNew
                  clear hNew
                  ((try simp only [Act.put]); (try simp only [List.setIfInBounds_toArray]); (try simp only [List.set_cons_succ]); (try simp only [List.set_cons_zero]))
                  refine wpAnyH_take (i := 72) (oi := { dst := some 131, op := Op.field 29 (Operand.tmp 130) 0, type := 27, pos := "law.go:53", after := #[{ on := 71, ground := Ground.data }, { on := 69, ground := Ground.guard }], guard := some (69, true) }) (v := ?_) rfl (by kernel_rfl) (by kernel_rfl) (by kernel_rfl) (fun _ _ _ h => h) (Or.inl ⟨by rfl, ?_⟩) (by assumption) ?_
                  rotate_left
                  · (intro w hSw; (try dsimp only at hSw); go_simp; try with_reducible rfl)
                  ((try simp only [Act.put]); (try simp only [List.setIfInBounds_toArray]); (try simp only [List.set_cons_succ]); (try simp only [List.set_cons_zero]))
                  refine wpAnyH_take (i := 73) (oi := { dst := some 132, op := Op.call { callee := Callee.builtin Builtin.len, args := #[Operand.tmp 131], argTypes := #[27] }, type := 3, pos := "law.go:53", after := #[{ on := 72, ground := Ground.data }, { on := 69, ground := Ground.guard }], guard := some (69, true) }) (v := ?_) rfl (by kernel_rfl) (by kernel_rfl) (by kernel_rfl) (fun _ _ _ h => h) (Or.inl ⟨by rfl, ?_⟩) (by assumption) ?_
                  rotate_left
                  · (intro w hSw; (try dsimp only at hSw); go_simp; try with_reducible rfl)
                  ((try simp only [Act.put]); (try simp only [List.setIfInBounds_toArray]); (try simp only [List.set_cons_succ]); (try simp only [List.set_cons_zero]))
                  refine wpAnyH_take (i := 74) (oi := { dst := some 133, op := Op.binOp BinOp.eql 3 (Operand.tmp 132) (Operand.const (Value.int IntKind.i64 2)) 3, type := 4, pos := "law.go:53", after := #[{ on := 73, ground := Ground.data }, { on := 69, ground := Ground.guard }], guard := some (69, true) }) (v := ?_) rfl (by kernel_rfl) (by kernel_rfl) (by kernel_rfl) (fun _ _ _ h => h) (Or.inl ⟨by rfl, ?_⟩) (by assumption) ?_
                  rotate_left
                  · (intro w hSw; (try dsimp only at hSw); go_simp; try with_reducible rfl)
                  ((try simp only [Act.put]); (try simp only [List.setIfInBounds_toArray]); (try simp only [List.set_cons_succ]); (try simp only [List.set_cons_zero]))
                  refine wpAnyH_take (i := 75) (oi := { dst := some 134, op := Op.pick (Operand.tmp 128) (Operand.tmp 133) (Operand.const (Value.bool false)), type := 4, pos := "law.go:53", after := #[{ on := 69, ground := Ground.data }, { on := 74, ground := Ground.data }], guard := none }) (v := ?_) rfl (by kernel_rfl) (by kernel_rfl) (by kernel_rfl) (fun _ _ _ h => h) (Or.inl ⟨by rfl, ?_⟩) (by assumption) ?_
                  rotate_left
                  · (intro w hSw; (try dsimp only at hSw); go_simp; try with_reducible rfl)
                  ((try simp only [Act.put]); (try simp only [List.setIfInBounds_toArray]); (try simp only [List.set_cons_succ]); (try simp only [List.set_cons_zero]))
                  refine wpAnyH_take (i := 76) (oi := { dst := some 135, op := Op.move (Operand.tmp 134), type := 4, pos := "law.go:53", after := #[{ on := 75, ground := Ground.data }, { on := 71, ground := Ground.chain }], guard := none }) (v := ?_) rfl (by kernel_rfl) (by kernel_rfl) (by kernel_rfl) (fun _ _ _ h => h) (Or.inl ⟨by rfl, ?_⟩) (by assumption) ?_
                  rotate_left
                  · (intro w hSw; (try dsimp only at hSw); go_simp; try with_reducible rfl)
                  ((try simp only [Act.put]); (try simp only [List.setIfInBounds_toArray]); (try simp only [List.set_cons_succ]); (try simp only [List.set_cons_zero]))
                  refine wpAnyH_take (i := 77) (oi := { dst := some 136, op := Op.load 29 (Operand.tmp 1), type := 29, pos := "law.go:53", after := #[{ on := 76, ground := Ground.guard }], guard := some (76, true) }) (v := ?_) rfl (by kernel_rfl) (by kernel_rfl) (by kernel_rfl) (fun _ _ _ h => h) (Or.inl ⟨by rfl, ?_⟩) (by assumption) ?_
                  rotate_left
                  · (intro w hSw; (try dsimp only at hSw); go_simp; try with_reducible rfl)
                  ((try simp only [Act.put]); (try simp only [List.setIfInBounds_toArray]); (try simp only [List.set_cons_succ]); (try simp only [List.set_cons_zero]))
                  refine wpAnyH_take (i := 78) (oi := { dst := some 137, op := Op.load 29 (Operand.tmp 8), type := 29, pos := "law.go:53", after := #[{ on := 76, ground := Ground.guard }], guard := some (76, true) }) (v := ?_) rfl (by kernel_rfl) (by kernel_rfl) (by kernel_rfl) (fun _ _ _ h => h) (Or.inl ⟨by rfl, ?_⟩) (by assumption) ?_
                  rotate_left
                  · (intro w hSw; (try dsimp only at hSw); go_simp; try with_reducible rfl)
                  ((try simp only [Act.put]); (try simp only [List.setIfInBounds_toArray]); (try simp only [List.set_cons_succ]); (try simp only [List.set_cons_zero]))
                  refine wpAnyH_ready (rs := [79]) (by kernel_rfl) (by simp) ?_
                  refine AllReadyH.cons (o := { dst := some 138, op := Op.call { callee := Callee.value (Operand.func 14), args := #[Operand.tmp 136, Operand.tmp 137], argTypes := #[29, 29] }, type := 29, pos := "law.go:53", after := #[{ on := 77, ground := Ground.data }, { on := 78, ground := Ground.data }, { on := 76, ground := Ground.chain }, { on := 76, ground := Ground.guard }], guard := some (76, true) }) rfl (fun K hK => ?_) AllReadyH.nil
                  go_simp
                  refine (join_k (k := 3) (LG.out.ro.below (Hid.out hHeld.2.2.2.2.2.2.2.2.2.2)) (LX.out.ro.below (Hid.out hHeld.2.2.2.2.2.2.2.2.2.2)) (by decide) (by decide) k_jbad rfl).mono ?_
                  rintro e v79 ⟨a79, c79, rfl, -, hb⟩
                  try go_wp2_with fail
                  refine hK.out _ _ ?_ (fun hNew => ?_)
                  · exact ⟨cell_go hHeld.1 hb, cell_go hHeld.2.1 hb, cell_go hHeld.2.2.1 hb, cell_go hHeld.2.2.2.1 hb, cell_go hHeld.2.2.2.2.1 hb, cell_go hHeld.2.2.2.2.2.1 hb, cell_go hHeld.2.2.2.2.2.2.1 hb, cell_go hHeld.2.2.2.2.2.2.2.1 hb, cell_go hHeld.2.2.2.2.2.2.2.2.1 hb, cell_go hHeld.2.2.2.2.2.2.2.2.2.1 hb, Lib.hid ((Hid.out hHeld.2.2.2.2.2.2.2.2.2.2).trans (hb.mono (Hid.out hHeld.2.2.2.2.2.2.2.2.2.2).size))⟩
                  clear hK K
                  replace hHeld := hNew
                  clear hNew
                  ((try simp only [Act.put]); (try simp only [List.setIfInBounds_toArray]); (try simp only [List.set_cons_succ]); (try simp only [List.set_cons_zero]))
                  refine wpAnyH_take (i := 80) (oi := { dst := some 139, op := Op.field 29 (Operand.tmp 138) 0, type := 27, pos := "law.go:53", after := #[{ on := 79, ground := Ground.data }, { on := 76, ground := Ground.guard }], guard := some (76, true) }) (v := ?_) rfl (by kernel_rfl) (by kernel_rfl) (by kernel_rfl) (fun _ _ _ h => h) (Or.inl ⟨by rfl, ?_⟩) (by assumption) ?_
                  rotate_left
                  · (intro w hSw; (try dsimp only at hSw); go_simp; try with_reducible rfl)
                  ((try simp only [Act.put]); (try simp only [List.setIfInBounds_toArray]); (try simp only [List.set_cons_succ]); (try simp only [List.set_cons_zero]))
                  refine wpAnyH_take (i := 81) (oi := { dst := some 140, op := Op.call { callee := Callee.builtin Builtin.len, args := #[Operand.tmp 139], argTypes := #[27] }, type := 3, pos := "law.go:53", after := #[{ on := 80, ground := Ground.data }, { on := 76, ground := Ground.guard }], guard := some (76, true) }) (v := ?_) rfl (by kernel_rfl) (by kernel_rfl) (by kernel_rfl) (fun _ _ _ h => h) (Or.inl ⟨by rfl, ?_⟩) (by assumption) ?_
                  rotate_left
                  · (intro w hSw; (try dsimp only at hSw); go_simp; try with_reducible rfl)
                  ((try simp only [Act.put]); (try simp only [List.setIfInBounds_toArray]); (try simp only [List.set_cons_succ]); (try simp only [List.set_cons_zero]))
                  refine wpAnyH_take (i := 82) (oi := { dst := some 141, op := Op.binOp BinOp.eql 3 (Operand.tmp 140) (Operand.const (Value.int IntKind.i64 3)) 3, type := 4, pos := "law.go:53", after := #[{ on := 81, ground := Ground.data }, { on := 76, ground := Ground.guard }], guard := some (76, true) }) (v := ?_) rfl (by kernel_rfl) (by kernel_rfl) (by kernel_rfl) (fun _ _ _ h => h) (Or.inl ⟨by rfl, ?_⟩) (by assumption) ?_
                  rotate_left
                  · (intro w hSw; (try dsimp only at hSw); go_simp; try with_reducible rfl)
                  ((try simp only [Act.put]); (try simp only [List.setIfInBounds_toArray]); (try simp only [List.set_cons_succ]); (try simp only [List.set_cons_zero]))
                  refine wpAnyH_take (i := 83) (oi := { dst := some 142, op := Op.pick (Operand.tmp 135) (Operand.tmp 141) (Operand.const (Value.bool false)), type := 4, pos := "law.go:53", after := #[{ on := 76, ground := Ground.data }, { on := 82, ground := Ground.data }], guard := none }) (v := ?_) rfl (by kernel_rfl) (by kernel_rfl) (by kernel_rfl) (fun _ _ _ h => h) (Or.inl ⟨by rfl, ?_⟩) (by assumption) ?_
                  rotate_left
                  · (intro w hSw; (try dsimp only at hSw); go_simp; try with_reducible rfl)
                  ((try simp only [Act.put]); (try simp only [List.setIfInBounds_toArray]); (try simp only [List.set_cons_succ]); (try simp only [List.set_cons_zero]))
                  refine wpAnyH_take (i := 84) (oi := { dst := some 143, op := Op.move (Operand.tmp 142), type := 4, pos := "law.go:53", after := #[{ on := 83, ground := Ground.data }, { on := 79, ground := Ground.chain }], guard := none }) (v := ?_) rfl (by kernel_rfl) (by kernel_rfl) (by kernel_rfl) (fun _ _ _ h => h) (Or.inl ⟨by rfl, ?_⟩) (by assumption) ?_
                  rotate_left
                  · (intro w hSw; (try dsimp only at hSw); go_simp; try with_reducible rfl)
                  ((try simp only [Act.put]); (try simp only [List.setIfInBounds_toArray]); (try simp only [List.set_cons_succ]); (try simp only [List.set_cons_zero]))
                  refine wpAnyH_take (i := 85) (oi := { dst := some 144, op := Op.move (Operand.tmp 10), type := 4, pos := "law.go:53", after := #[{ on := 84, ground := Ground.guard }], guard := some (84, true) }) (v := ?_) rfl (by kernel_rfl) (by kernel_rfl) (by kernel_rfl) (fun _ _ _ h => h) (Or.inl ⟨by rfl, ?_⟩) (by assumption) ?_
                  rotate_left
                  · (intro w hSw; (try dsimp only at hSw); go_simp; try with_reducible rfl)
                  ((try simp only [Act.put]); (try simp only [List.setIfInBounds_toArray]); (try simp only [List.set_cons_succ]); (try simp only [List.set_cons_zero]))
                  refine wpAnyH_take (i := 86) (oi := { dst := some 145, op := Op.pick (Operand.tmp 143) (Operand.tmp 144) (Operand.const (Value.bool false)), type := 4, pos := "law.go:53", after := #[{ on := 84, ground := Ground.data }, { on := 85, ground := Ground.data }], guard := none }) (v := ?_) rfl (by kernel_rfl) (by kernel_rfl) (by kernel_rfl) (fun _ _ _ h => h) (Or.inl ⟨by rfl, ?_⟩) (by assumption) ?_
                  rotate_left
                  · (intro w hSw; (try dsimp only at hSw); go_simp; try with_reducible rfl)
                  ((try simp only [Act.put]); (try simp only [List.setIfInBounds_toArray]); (try simp only [List.set_cons_succ]); (try simp only [List.set_cons_zero]))
                  refine wpAnyH_take (i := 87) (oi := { dst := some 146, op := Op.move (Operand.tmp 145), type := 4, pos := "law.go:53", after := #[{ on := 86, ground := Ground.data }, { on := 84, ground := Ground.chain }], guard := none }) (v := ?_) rfl (by kernel_rfl) (by kernel_rfl) (by kernel_rfl) (fun _ _ _ h => h) (Or.inl ⟨by rfl, ?_⟩) (by assumption) ?_
                  rotate_left
                  · (intro w hSw; (try dsimp only at hSw); go_simp; try with_reducible rfl)
                  ((try simp only [Act.put]); (try simp only [List.setIfInBounds_toArray]); (try simp only [List.set_cons_succ]); (try simp only [List.set_cons_zero]))
                  refine wpAnyH_take (i := 88) (oi := { dst := some 147, op := Op.fieldAddr 29 (Operand.tmp 9) 0, type := 0, pos := "law.go:53", after := #[{ on := 87, ground := Ground.guard }], guard := some (87, true) }) (v := ?_) rfl (by kernel_rfl) (by kernel_rfl) (by kernel_rfl) (fun _ _ _ h => h) (Or.inl ⟨by rfl, ?_⟩) (by assumption) ?_
                  rotate_left
                  · (intro w hSw; (try dsimp only at hSw); go_simp; try with_reducible rfl)
                  ((try simp only [Act.put]); (try simp only [List.setIfInBounds_toArray]); (try simp only [List.set_cons_succ]); (try simp only [List.set_cons_zero]))
                  refine wpAnyH_take (i := 89) (oi := { dst := some 148, op := Op.load 27 (Operand.tmp 147), type := 27, pos := "law.go:53", after := #[{ on := 88, ground := Ground.data }, { on := 87, ground := Ground.guard }], guard := some (87, true) }) (v := ?_) rfl (by kernel_rfl) (by kernel_rfl) (by kernel_rfl) (fun _ _ _ h => h) (Or.inl ⟨by rfl, ?_⟩) (by assumption) ?_
                  rotate_left
                  · (intro w hSw; (try dsimp only at hSw); go_simp; try with_reducible rfl)
                  ((try simp only [Act.put]); (try simp only [List.setIfInBounds_toArray]); (try simp only [List.set_cons_succ]); (try simp only [List.set_cons_zero]))
                  refine wpAnyH_take (i := 91) (oi := { dst := some 150, op := Op.fieldAddr 29 (Operand.tmp 1) 0, type := 0, pos := "law.go:53", after := #[{ on := 87, ground := Ground.guard }], guard := some (87, true) }) (v := ?_) rfl (by kernel_rfl) (by kernel_rfl) (by kernel_rfl) (fun _ _ _ h => h) (Or.inl ⟨by rfl, ?_⟩) (by assumption) ?_
                  rotate_left
                  · (intro w hSw; (try dsimp only at hSw); go_simp; try with_reducible rfl)
                  ((try simp only [Act.put]); (try simp only [List.setIfInBounds_toArray]); (try simp only [List.set_cons_succ]); (try simp only [List.set_cons_zero]))
                  refine wpAnyH_take (i := 92) (oi := { dst := some 151, op := Op.load 27 (Operand.tmp 150), type := 27, pos := "law.go:53", after := #[{ on := 91, ground := Ground.data }, { on := 87, ground := Ground.guard }], guard := some (87, true) }) (v := ?_) rfl (by kernel_rfl) (by kernel_rfl) (by kernel_rfl) (fun _ _ _ h => h) (Or.inl ⟨by rfl, ?_⟩) (by assumption) ?_
                  rotate_left
                  · (intro w hSw; (try dsimp only at hSw); go_simp; try with_reducible rfl)
                  ((try simp only [Act.put]); (try simp only [List.setIfInBounds_toArray]); (try simp only [List.set_cons_succ]); (try simp only [List.set_cons_zero]))
                  refine wpAnyH_ready (rs := [90]) (by kernel_rfl) (by simp) ?_
                  refine AllReadyH.cons (o := { dst := some 149, op := Op.call { callee := Callee.value (Operand.func 18), args := #[Operand.tmp 148], argTypes := #[27] }, type := 40, pos := "law.go:53", after := #[{ on := 89, ground := Ground.data }, { on := 87, ground := Ground.chain }, { on := 87, ground := Ground.guard }], guard := some (87, true) }) rfl (fun K hK => ?_) AllReadyH.nil
                  go_simp
                  refine (log_k (LH.out.ro.below (Hid.out hHeld.2.2.2.2.2.2.2.2.2.2)) (by decide)).mono ?_
                  rintro e v90 ⟨a90, c90, rfl, h5, hb⟩
                  have R := Lib.hid h5
                  clear h5
                  try go_wp2_with fail
                  refine hK.out _ _ ?_ (fun hNew => ?_)
                  · exact ⟨cell_go hHeld.1 hb, cell_go hHeld.2.1 hb, cell_go hHeld.2.2.1 hb, cell_go hHeld.2.2.2.1 hb, cell_go hHeld.2.2.2.2.1 hb, cell_go hHeld.2.2.2.2.2.1 hb, cell_go hHeld.2.2.2.2.2.2.1 hb, cell_go hHeld.2.2.2.2.2.2.2.1 hb, cell_go hHeld.2.2.2.2.2.2.2.2.1 hb, cell_go hHeld.2.2.2.2.2.2.2.2.2.1 hb, Lib.hid ((Hid.out hHeld.2.2.2.2.2.2.2.2.2.2).trans (hb.mono (Hid.out hHeld.2.2.2.2.2.2.2.2.2.2).size))⟩
                  clear hK K
                  replace hHeld := hNew
                  clear hNew
                  ((try simp only [Act.put]); (try simp only [List.setIfInBounds_toArray]); (try simp only [List.set_cons_succ]); (try simp only [List.set_cons_zero]))
                  refine wpAnyH_ready (rs := [93]) (by kernel_rfl) (by simp) ?_
                  refine AllReadyH.cons (o := { dst := some 152, op := Op.call { callee := Callee.value (Operand.func 18), args := #[Operand.tmp 151], argTypes := #[27] }, type := 40, pos := "law.go:53", after := #[{ on := 92, ground := Ground.data }, { on := 90, ground := Ground.chain }, { on := 87, ground := Ground.guard }], guard := some (87, true) }) rfl (fun K hK => ?_) AllReadyH.nil
                  go_simp
                  refine (log_k (LG.out.ro.below (Hid.out hHeld.2.2.2.2.2.2.2.2.2.2)) (by decide)).mono ?_
                  rintro e v93 ⟨a93, c93, rfl, h5, hb⟩
                  replace R := Lib.hid (R.out.below hb)
                  have Q := Lib.hid h5
                  clear h5
                  try go_wp2_with fail
                  refine hK.out _ _ ?_ (fun hNew => ?_)
                  · exact ⟨cell_go hHeld.1 hb, cell_go hHeld.2.1 hb, cell_go hHeld.2.2.1 hb, cell_go hHeld.2.2.2.1 hb, cell_go hHeld.2.2.2.2.1 hb, cell_go hHeld.2.2.2.2.2.1 hb, cell_go hHeld.2.2.2.2.2.2.1 hb, cell_go hHeld.2.2.2.2.2.2.2.1 hb, cell_go hHeld.2.2.2.2.2.2.2.2.1 hb, cell_go hHeld.2.2.2.2.2.2.2.2.2.1 hb, Lib.hid ((Hid.out hHeld.2.2.2.2.2.2.2.2.2.2).trans (hb.mono (Hid.out hHeld.2.2.2.2.2.2.2.2.2.2).size))⟩
                  clear hK K
                  replace hHeld := hNew
                  clear hNew
                  ((try simp only [Act.put]); (try simp only [List.setIfInBounds_toArray]); (try simp only [List.set_cons_succ]); (try simp only [List.set_cons_zero]))
                  refine wpAnyH_ready (rs := [94]) (by kernel_rfl) (by simp) ?_
                  refine AllReadyH.cons (o := { dst := some 153, op := Op.call { callee := Callee.value (Operand.func 17), args := #[Operand.tmp 149, Operand.tmp 152], argTypes := #[40, 40] }, type := 4, pos := "law.go:53", after := #[{ on := 90, ground := Ground.data }, { on := 93, ground := Ground.data }, { on := 93, ground := Ground.chain }, { on := 87, ground := Ground.guard }], guard := some (87, true) }) rfl (fun K hK => ?_) AllReadyH.nil
                  go_simp
                  refine (logs_any R.out Q.out (r := true) (by decide)).mono ?_
                  rintro e v94 ⟨rfl, nn, hw⟩
                  have hb := drew_b hw
                  clear hw R Q
                  try go_wp2_with fail
                  refine hK.out _ _ ?_ (fun hNew => ?_)
                  · exact ⟨cell_go hHeld.1 hb, cell_go hHeld.2.1 hb, cell_go hHeld.2.2.1 hb, cell_go hHeld.2.2.2.1 hb, cell_go hHeld.2.2.2.2.1 hb, cell_go hHeld.2.2.2.2.2.1 hb, cell_go hHeld.2.2.2.2.2.2.1 hb, cell_go hHeld.2.2.2.2.2.2.2.1 hb, cell_go hHeld.2.2.2.2.2.2.2.2.1 hb, cell_go hHeld.2.2.2.2.2.2.2.2.2.1 hb, Lib.hid ((Hid.out hHeld.2.2.2.2.2.2.2.2.2.2).trans (hb.mono (Hid.out hHeld.2.2.2.2.2.2.2.2.2.2).size))⟩
                  clear hK K
                  replace hHeld := hNew
                  clear hNew
                  ((try simp only [Act.put]); (try simp only [List.setIfInBounds_toArray]); (try simp only [List.set_cons_succ]); (try simp only [List.set_cons_zero]))
                  refine wpAnyH_take (i := 95) (oi := { dst := some 154, op := Op.pick (Operand.tmp 146) (Operand.tmp 153) (Operand.const (Value.bool false)), type := 4, pos := "law.go:53", after := #[{ on := 87, ground := Ground.data }, { on := 94, ground := Ground.data }], guard := none }) (v := ?_) rfl (by kernel_rfl) (by kernel_rfl) (by kernel_rfl) (fun _ _ _ h => h) (Or.inl ⟨by rfl, ?_⟩) (by assumption) ?_
                  rotate_left
                  · (intro w hSw; (try dsimp only at hSw); go_simp; try with_reducible rfl)
                  ((try simp only [Act.put]); (try simp only [List.setIfInBounds_toArray]); (try simp only [List.set_cons_succ]); (try simp only [List.set_cons_zero]))
                  refine wpAnyH_take (i := 96) (oi := { dst := some 155, op := Op.move (Operand.tmp 154), type := 4, pos := "law.go:53", after := #[{ on := 95, ground := Ground.data }, { on := 94, ground := Ground.chain }], guard := none }) (v := ?_) rfl (by kernel_rfl) (by kernel_rfl) (by kernel_rfl) (fun _ _ _ h => h) (Or.inl ⟨by rfl, ?_⟩) (by assumption) ?_
                  rotate_left
                  · (intro w hSw; (try dsimp only at hSw); go_simp; try with_reducible rfl)
                  ((try simp only [Act.put]); (try simp only [List.setIfInBounds_toArray]); (try simp only [List.set_cons_succ]); (try simp only [List.set_cons_zero]))
                  refine wpAnyH_take (i := 97) (oi := { dst := some 156, op := Op.move (Operand.tmp 12), type := 4, pos := "law.go:53", after := #[{ on := 96, ground := Ground.guard }], guard := some (96, true) }) (v := ?_) rfl (by kernel_rfl) (by kernel_rfl) (by kernel_rfl) (fun _ _ _ h => h) (Or.inl ⟨by rfl, ?_⟩) (by assumption) ?_
                  rotate_left
                  · (intro w hSw; (try dsimp only at hSw); go_simp; try with_reducible rfl)
                  ((try simp only [Act.put]); (try simp only [List.setIfInBounds_toArray]); (try simp only [List.set_cons_succ]); (try simp only [List.set_cons_zero]))
                  refine wpAnyH_take (i := 98) (oi := { dst := some 157, op := Op.unOp UnOp.not 4 (Operand.tmp 156), type := 4, pos := "law.go:53", after := #[{ on := 97, ground := Ground.data }, { on := 96, ground := Ground.guard }], guard := some (96, true) }) (v := ?_) rfl (by kernel_rfl) (by kernel_rfl) (by kernel_rfl) (fun _ _ _ h => h) (Or.inl ⟨by rfl, ?_⟩) (by assumption) ?_
                  rotate_left
                  · (intro w hSw; (try dsimp only at hSw); go_simp; try with_reducible rfl)
                  ((try simp only [Act.put]); (try simp only [List.setIfInBounds_toArray]); (try simp only [List.set_cons_succ]); (try simp only [List.set_cons_zero]))
                  refine wpAnyH_take (i := 99) (oi := { dst := some 158, op := Op.pick (Operand.tmp 155) (Operand.tmp 157) (Operand.const (Value.bool false)), type := 4, pos := "law.go:53", after := #[{ on := 96, ground := Ground.data }, { on := 98, ground := Ground.data }], guard := none }) (v := ?_) rfl (by kernel_rfl) (by kernel_rfl) (by kernel_rfl) (fun _ _ _ h => h) (Or.inl ⟨by rfl, ?_⟩) (by assumption) ?_
                  rotate_left
                  · (intro w hSw; (try dsimp only at hSw); go_simp; try with_reducible rfl)
                  ((try simp only [Act.put]); (try simp only [List.setIfInBounds_toArray]); (try simp only [List.set_cons_succ]); (try simp only [List.set_cons_zero]))
                  refine wpAnyH_take (i := 100) (oi := { dst := some 0, op := Op.assign (Operand.tmp 158), type := 4, pos := "law.go:53", after := #[{ on := 99, ground := Ground.data }, { on := 96, ground := Ground.chain }, { on := 0, ground := Ground.phase }, { on := 1, ground := Ground.phase }, { on := 2, ground := Ground.phase }, { on := 3, ground := Ground.phase }, { on := 4, ground := Ground.phase }, { on := 5, ground := Ground.phase }, { on := 6, ground := Ground.phase }, { on := 7, ground := Ground.phase }, { on := 8, ground := Ground.phase }, { on := 9, ground := Ground.phase }, { on := 10, ground := Ground.phase }, { on := 11, ground := Ground.phase }, { on := 12, ground := Ground.phase }, { on := 13, ground := Ground.phase }, { on := 14, ground := Ground.phase }, { on := 15, ground := Ground.phase }, { on := 16, ground := Ground.phase }, { on := 17, ground := Ground.phase }, { on := 18, ground := Ground.phase }, { on := 19, ground := Ground.phase }, { on := 20, ground := Ground.phase }, { on := 21, ground := Ground.phase }, { on := 22, ground := Ground.phase }, { on := 23, ground := Ground.phase }, { on := 24, ground := Ground.phase }, { on := 25, ground := Ground.phase }, { on := 26, ground := Ground.phase }, { on := 27, ground := Ground.phase }, { on := 28, ground := Ground.phase }, { on := 29, ground := Ground.phase }, { on := 30, ground := Ground.phase }, { on := 31, ground := Ground.phase }, { on := 32, ground := Ground.phase }, { on := 33, ground := Ground.phase }, { on := 34, ground := Ground.phase }, { on := 35, ground := Ground.phase }, { on := 36, ground := Ground.phase }, { on := 37, ground := Ground.phase }, { on := 38, ground := Ground.phase }, { on := 39, ground := Ground.phase }, { on := 40, ground := Ground.phase }, { on := 41, ground := Ground.phase }, { on := 42, ground := Ground.phase }, { on := 43, ground := Ground.phase }, { on := 44, ground := Ground.phase }, { on := 45, ground := Ground.phase }, { on := 46, ground := Ground.phase }, { on := 47, ground := Ground.phase }, { on := 48, ground := Ground.phase }, { on := 49, ground := Ground.phase }, { on := 50, ground := Ground.phase }, { on := 51, ground := Ground.phase }, { on := 52, ground := Ground.phase }, { on := 53, ground := Ground.phase }, { on := 54, ground := Ground.phase }, { on := 55, ground := Ground.phase }, { on := 56, ground := Ground.phase }, { on := 57, ground := Ground.phase }, { on := 58, ground := Ground.phase }, { on := 59, ground := Ground.phase }, { on := 60, ground := Ground.phase }, { on := 61, ground := Ground.phase }, { on := 62, ground := Ground.phase }, { on := 63, ground := Ground.phase }, { on := 64, ground := Ground.phase }, { on := 65, ground := Ground.phase }, { on := 66, ground := Ground.phase }, { on := 67, ground := Ground.phase }, { on := 68, ground := Ground.phase }, { on := 69, ground := Ground.phase }, { on := 70, ground := Ground.phase }, { on := 71, ground := Ground.phase }, { on := 72, ground := Ground.phase }, { on := 73, ground := Ground.phase }, { on := 74, ground := Ground.phase }, { on := 75, ground := Ground.phase }, { on := 76, ground := Ground.phase }, { on := 77, ground := Ground.phase }, { on := 78, ground := Ground.phase }, { on := 79, ground := Ground.phase }, { on := 80, ground := Ground.phase }, { on := 81, ground := Ground.phase }, { on := 82, ground := Ground.phase }, { on := 83, ground := Ground.phase }, { on := 84, ground := Ground.phase }, { on := 85, ground := Ground.phase }, { on := 86, ground := Ground.phase }, { on := 87, ground := Ground.phase }, { on := 88, ground := Ground.phase }, { on := 89, ground := Ground.phase }, { on := 90, ground := Ground.phase }, { on := 91, ground := Ground.phase }, { on := 92, ground := Ground.phase }, { on := 93, ground := Ground.phase }, { on := 94, ground := Ground.phase }, { on := 95, ground := Ground.phase }, { on := 96, ground := Ground.phase }, { on := 97, ground := Ground.phase }, { on := 98, ground := Ground.phase }, { on := 99, ground := Ground.phase }], guard := none }) (v := ?_) rfl (by kernel_rfl) (by kernel_rfl) (by kernel_rfl) (fun _ _ _ h => h) (Or.inl ⟨by rfl, ?_⟩) (by assumption) ?_
                  rotate_left
                  · (intro w hSw; (try dsimp only at hSw); go_simp; try with_reducible rfl)
                  ((try simp only [Act.put]); (try simp only [List.setIfInBounds_toArray]); (try simp only [List.set_cons_succ]); (try simp only [List.set_cons_zero]))
                  refine wpAnyH_done (by kernel_rfl) ?_ _
                  refine NoPanic.normal ?_
                  have BF := Lib.hid (B.out.trans ((Hid.out hHeld.2.2.2.2.2.2.2.2.2.2).mono B.out.size))
                  go_wp2_with fail
                  go_ret
                  exact ⟨rfl, BF.out⟩

end Go.Proofs.Ytbmpeadoicjpnaa
