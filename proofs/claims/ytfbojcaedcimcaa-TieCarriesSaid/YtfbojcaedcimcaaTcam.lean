/-
  Over a net that loses, doubles, holds back: what one pushes the other gets, in order, each once; a while of good net brings all.
-/
import Derived.Test.YtfbojcaedcimcaaMap
import Derived.Deep.CutBlock
import Derived.Deep.CutRange
namespace Go.Proofs.Ytfbojcaedcimcaa
open Go.RowKit

/-- Between two rounds. -/
def CarRel (W : World) (x y wi qu m : Nat) (v13 v14 v15 v16 vi : Value) (wr : World) : Prop :=
  ∃ i S D X K got L13 L14, vi = .int .i64 ((i : Nat) : Int) ∧ i ≤ m + 80 ∧ St W x y ⟨S, Dk.new wi⟩ ⟨Sh.new wi qu 1 4, D⟩ [] [frO v13 L13, frO v14 L14, stO v15 got, stO v16 S.all] wr ∧ L13.map Bd.s = X.map wireD ∧ L14.map Bd.s = K.map wireA ∧
    Car S D X K got (2 * i) ∧ S.all.length ≤ i ∧ L13.length ≤ 2000 ∧ L14.length ≤ 2000 ∧ (m < i → Need S X (m + 80 - i))
/-- The hearer hears the row: so much of it so far. -/
def CarD (W : World) (x y wi qu : Nat) (S : Sh) (X : List (Nat × ByteArray)) (n k0 : Nat) (R : List Orow) (v14 v15 vk : Value) (wr : World) : Prop :=
  ∃ k D K got L14, vk = .int .i64 ((k : Nat) : Int) ∧ k ≤ X.length ∧ St W y x ⟨Sh.new wi qu 1 4, D⟩ ⟨S, Dk.new wi⟩ [] ([] ++ stO v15 got :: ([frO v14 L14] ++ R)) wr ∧ L14.map Bd.s = K.map wireA ∧ Heard S D X K got n (X.take k) ∧ L14.length ≤ k0 + k
/-- What goes up, one after the other. -/
def CarU (W : World) (p q : Nat) (T T2 : Te) (G : List (Value × List Bd)) (R : List Orow) (got up : List ByteArray) (vg vk : Value) (wr : World) : Prop :=
  ∃ k, vk = .int .i64 ((k : Nat) : Int) ∧ k ≤ up.length ∧ St W p q T T2 G ([] ++ stO vg (got ++ up.take k) :: R) wr
/-- The sender hears the row: so much of it so far. -/
def CarA (W : World) (x y wi qu : Nat) (S1 : Sh) (D : Dk) (K : List Nat) (got : List ByteArray) (n : Nat) (R : List Orow) (v13 vk : Value) (wr : World) : Prop :=
  ∃ k S X L13, vk = .int .i64 ((k : Nat) : Int) ∧ k ≤ K.length ∧ St W x y ⟨S, Dk.new wi⟩ ⟨Sh.new wi qu 1 4, D⟩ [] ([] ++ frO v13 L13 :: R) wr ∧ L13.map Bd.s = X.map wireD ∧ Told S1 S D X K got n (K.take k) ∧ S.pa.m = 4 ∧ L13.length ≤ 500 * k
def CarT (W : World) (x y : Nat) (T1 T2 : Te) (O : List Orow) (m : Nat) (vi : Value) (wr : World) : Prop := ∃ i, vi = .int .i64 ((i : Nat) : Int) ∧ i ≤ m ∧ St W x y T1 T2 [] O wr
theorem tie_newv {wi qu f m : Nat} {zf zm : Int} (w : World) (hf' : (f : Int) = zf) (hm' : (m : Int) = zm) (hw : 1 ≤ wi ∧ wi ≤ 16) (hq : 2 ≤ qu ∧ qu ≤ 32) (hf : 1 ≤ f ∧ f ≤ m ∧ m ≤ 1000) :
    Calls Try.prog 7 #[.int .i64 (wi : Int), .int .i64 (qu : Int), .int .i64 zf, .int .i64 zm] w (TieNew w (Te.new wi qu f m)) := by
  subst hf' hm'
  exact tie_new wi qu f m w hw hq hf

set_option maxRecDepth 20000 in
set_option maxHeartbeats 32000000 in
theorem law_TieCarries (window queue : Int) (v2 : List ByteArray) (ao2 : Option Addr) (c2 : Nat) (v3 : List Int) (ao3 : Option Addr) (c3 : Nat) (W : World) (h2 : StrsB W ao2 c2 v2) (h3 : SlV W ao3 c3 (v3.map fun x => Value.int .i64 x)) :
    Calls Try.prog 4 #[.int .i64 window, .int .i64 queue, .slice ao2 v2.length c2, .slice ao3 v3.length c3] W (TiOk W) := by
  obtain ⟨i0, hi0, hz0, hz1, hz2⟩ := info_g Try.infoBs
  obtain ⟨i1, hi1, hy0, hy1, hy2⟩ := info_g Try.infoTs
  have hcv := fun (w : World) (s : ByteArray) => Lib.run_convert_string_bytes (P := Try.prog) w 9 30 5 s Try.underlying9 Try.underlying30 Try.underlying5
  have A2 := Lib.hid h2
  have A3 := Lib.hid h3
  clear h2 h3
  go_enter Try.func4, Try.ntmps4
  go_wp2_with fail
  refine (ti_awake W).mono ?_
  rintro e w0 ⟨rfl, b0⟩
  have B0 := Lib.hid b0
  clear b0
  obtain ⟨n0, hn0⟩ : ∃ x, x = v2.length := ⟨_, rfl⟩
  obtain ⟨m, hm⟩ : ∃ x, x = v3.length := ⟨_, rfl⟩
  rw [← hn0, ← hm]
  have N0 := Lib.hid hn0
  have M0 := Lib.hid hm
  clear hn0 hm
  by_cases g0 : window < 1
  · have d0 : decide (window < 1) = true := decide_eq_true (by omega)
    clear g0
    as_aux_lemma =>
      go_wp2_with fail
      go_ret
      exact ⟨rfl, B0.out⟩
  have d0 : decide (window < 1) = false := decide_eq_false (by omega)
  by_cases g1 : window > 16
  · have d1 : decide (window > 16) = true := decide_eq_true (by omega)
    clear g0 g1
    as_aux_lemma =>
      go_wp2_with fail
      go_ret
      exact ⟨rfl, B0.out⟩
  have d1 : decide (window > 16) = false := decide_eq_false (by omega)
  by_cases g2 : queue < 2
  · have d2 : decide (queue < 2) = true := decide_eq_true (by omega)
    clear g0 g1 g2
    as_aux_lemma =>
      go_wp2_with fail
      go_ret
      exact ⟨rfl, B0.out⟩
  have d2 : decide (queue < 2) = false := decide_eq_false (by omega)
  by_cases g3 : queue > 32
  · have d3 : decide (queue > 32) = true := decide_eq_true (by omega)
    clear g0 g1 g2 g3
    as_aux_lemma =>
      go_wp2_with fail
      go_ret
      exact ⟨rfl, B0.out⟩
  have d3 : decide (queue > 32) = false := decide_eq_false (by omega)
  by_cases g4 : 12 < n0
  · have d4 : decide ((n0 : Int) > 12) = true := decide_eq_true (by omega)
    have e4 : decide (12 < n0) = true := decide_eq_true (by omega)
    clear g0 g1 g2 g3 g4
    as_aux_lemma =>
      go_wp2_with fail
      go_ret
      exact ⟨rfl, B0.out⟩
  have d4 : decide ((n0 : Int) > 12) = false := decide_eq_false (by omega)
  have e4 : decide (12 < n0) = false := decide_eq_false (by omega)
  by_cases g5 : 60 < m
  · have d5 : decide ((m : Int) > 60) = true := decide_eq_true (by omega)
    have e5 : decide (60 < m) = true := decide_eq_true (by omega)
    clear g0 g1 g2 g3 g4 g5
    as_aux_lemma =>
      go_wp2_with fail
      go_ret
      exact ⟨rfl, B0.out⟩
  have d5 : decide ((m : Int) > 60) = false := decide_eq_false (by omega)
  have e5 : decide (60 < m) = false := decide_eq_false (by omega)
  obtain ⟨wi, rfl⟩ : ∃ n : Nat, window = n := ⟨window.toNat, by omega⟩
  obtain ⟨qu, rfl⟩ : ∃ n : Nat, queue = n := ⟨queue.toNat, by omega⟩
  have hw : 1 ≤ wi ∧ wi ≤ 16 := by omega
  have hq : 2 ≤ qu ∧ qu ≤ 32 := by omega
  have HW := Lib.hid hw
  have HQ := Lib.hid hq
  have hm60 : m ≤ 60 := by omega
  have hn12 : n0 ≤ 12 := by omega
  clear g0 g1 g2 g3 g4 g5 hw hq
  go_wp2_with fail
  refine (tie_newv w0 (f := 1) (m := 4) rfl rfl HW.out HQ.out (by decide)).mono ?_
  rintro e w1 ⟨x, Fx, rfl, hTx, hb1'⟩
  have TX := Lib.hid hTx
  have B1 := Lib.hid hb1'
  clear hTx hb1' d0 d1 d2 d3 d4 d5 e4 e5
  go_wp2_with fail
  refine (tie_newv w1 (f := 1) (m := 4) rfl rfl HW.out HQ.out (by decide)).mono ?_
  rintro e w2 ⟨y, Fy, rfl, hTy, hb2'⟩
  have S0 := Lib.hid (((st_new B0.out TX.out B1.out hTy hb2').nilS.nilS).nilF.nilF)
  have C0 := Lib.hid (show Car (Sh.new wi qu 1 4) (Dk.new wi) [] [] [] 0 from ⟨net_first HW.out HQ.out (by decide), rfl, rfl, Nat.zero_le _⟩)
  have U0 := Lib.hid (Sh.new_ok HW.out HQ.out (show 1 ≤ 1 ∧ 1 ≤ 4 ∧ 4 ≤ 1000 by decide))
  have V0 := Lib.hid (Dk.ok.more (Dk.ok_new HW.out) (Nat.zero_le 600))
  clear hTy hb2' TX B1 B0
  obtain ⟨ee, he1, he2⟩ : ∃ ee, ee ≤ m + 80 ∧ m + 80 ≤ ee := ⟨_, Nat.le_refl _, Nat.le_refl _⟩
  have wm : IntKind.i64.wrap ((m : Int) + 80) = ((ee : Nat) : Int) := by rw [wrapN (by omega)]; omega
  go_wp2_with fail
  go_loopw [13, 14, 15, 16, 17] (fun v13 v14 v15 v16 vi wr => CarRel W x y wi qu m v13 v14 v15 v16 vi wr) (fun _ _ _ _ vi _ => ee - (intOf vi).toNat)
  case atStart => exact ⟨0, Sh.new wi qu 1 4, Dk.new wi, [], [], [], [], [], rfl, Nat.zero_le _, S0.out, rfl, rfl, C0.out, Nat.le_refl _, Nat.zero_le _, Nat.zero_le _, fun h => absurd h (Nat.not_lt_zero _)⟩
  case round =>
    clear S0 C0
    obtain ⟨i, S, D, X, K, got, L13, L14, rfl, hi, hS, hX, hK, hC, hA, h13, h14, hN⟩ := hrel
    obtain ⟨a13, k13, rfl, -, -, -⟩ := (hS.fr (L := L13) (List.mem_cons_self ..)).form2
    obtain ⟨a14, k14, rfl, -, -, -⟩ := (hS.fr (L := L14) (List.mem_cons_of_mem _ (List.mem_cons_self ..))).form2
    obtain ⟨a15, k15, rfl, -, -, -⟩ := (hS.st (ss := got) (List.mem_cons_of_mem _ (List.mem_cons_of_mem _ (List.mem_cons_self ..)))).form2
    obtain ⟨a16, k16, rfl, -, -, -⟩ := (hS.st (ss := S.all) (List.mem_cons_of_mem _ (List.mem_cons_of_mem _ (List.mem_cons_of_mem _ (List.mem_cons_self ..))))).form2
    have SR := Lib.hid hS
    have HX := Lib.hid hX
    have HK := Lib.hid hK
    have HC := Lib.hid hC
    have HN := Lib.hid hN
    clear hS hX hK hC hN
    by_cases hlt : i < ee
    · have hi80 : i < m + 80 := by omega
      obtain ⟨bp, hbp⟩ : ∃ b, decide (i < n0 ∧ i < m) = b := ⟨_, rfl⟩
      have BP := Lib.hid hbp
      obtain ⟨pk, hpz, hpg⟩ : ∃ pk : Int, (m ≤ i → pk = 0) ∧ ∀ h : i < v3.length, v3[i] = pk := by
        by_cases h : i < v3.length
        · exact ⟨v3[i], fun h2 => absurd h (by have := M0.out; omega), fun _ => rfl⟩
        · exact ⟨0, fun _ => rfl, fun h2 => absurd h2 h⟩
      obtain ⟨bg, hbg⟩ : ∃ b, decide (pk = 0 ∨ m ≤ i) = b := ⟨_, rfl⟩
      have BG := Lib.hid hbg
      have PZ := Lib.hid hpz
      have PG := Lib.hid hpg
      clear hbp hbg hpz hpg
      go_upto_region 15 with fail
      go_cut [101] from 85 to 235 (fun v wx => v = .bool bp ∧ wx = wr)
      case first =>
        by_cases q1 : i < n0 <;> by_cases q2 : i < m <;> (go_wp2_with fail; go_meet; exact ⟨congrArg Value.bool (by rw [← BP.out]; simp [q1, q2]), rfl⟩)
      case rest =>
      obtain ⟨rfl, rfl⟩ := hcut
      go_upto_if 101 with fail
      go_cut [13, 16, 18, 19] from 85 to 235 (fun v13 v16 v18 v19 wx => ∃ S' X' L', St W x y ⟨S', Dk.new wi⟩ ⟨Sh.new wi qu 1 4, D⟩ [] [frO v13 L', frO (.slice a14 L14.length k14) L14, stO (.slice a15 got.length k15) got, stO v16 S'.all] wx ∧
        L'.map Bd.s = X'.map wireD ∧ Car S' D X' K got (2 * i + 1) ∧ S'.all.length ≤ i + 1 ∧ L'.length ≤ 2500 ∧ (m ≤ i → S' = S ∧ X' = X))
      case first =>
        as_aux_lemma =>
          cases bp
          · go_wp2_with fail
            go_meet
            exact ⟨S, X, L13, SR.out, HX.out, HC.out.more (by omega) (by omega), by omega, by omega, fun _ => ⟨rfl, rfl⟩⟩
          · have hp := of_decide_eq_true BP.out
            have hlt0 : i < v2.length := by rw [← N0.out]; exact hp.1
            obtain ⟨ba, fa, rfl, hba, k0⟩ := A2.out.1.cell i (by rw [List.length_map]; exact hlt0)
            rw [List.getElem_map] at k0
            have y0 : wc.cell? ⟨ba, fa + i, none⟩ = some (.string v2[i]) := (SR.out.be.cell (p := ⟨ba, fa + i, none⟩) hba).trans k0
            generalize v2[i] = s0 at *
            have K0 := Lib.hid (fun (w : World) (h : Below W.heap.size W w) => (h.cell (p := ⟨ba, fa + i, none⟩) hba).trans k0)
            have PU := Lib.hid (cr_push (s := s0) SR.out HC.out (by omega) (by omega))
            obtain ⟨nL, hnL⟩ : ∃ nL, L13.length = nL := ⟨_, rfl⟩
            have NL := Lib.hid hnL
            rw [hnL] at h13 ⊢
            have i0' : (0 : Int) ≤ (i : Int) := by omega
            have i1' : (i : Int) < (n0 : Int) := by omega
            have hnm : ¬ m ≤ i := by omega
            clear k0 hnL SR HC HN
            go_upto_region 17 with (first
            | (go_at_call 9; refine PU.out.mono ?_
               rintro e w5 ⟨a5, c5, L5, S5, X5, ok, rfl, hL5, hC5, hA5, hl5, hS5⟩
               have SS5 := Lib.hid hS5
               have HL5 := Lib.hid hL5
               have HC5 := Lib.hid hC5
               have HA5 := Lib.hid hA5
               obtain ⟨-, g2, g3, -⟩ := hS5.gv (ao := a5) (cap := c5) (L := L5) (List.mem_cons_self ..)
               clear hL5 hC5 hS5 hA5))
            clear y0 PU
            have hA6 : S5.all.length ≤ i + 1 := by
              rw [HA5.out]
              cases ok
              · exact Nat.le_succ_of_le hA
              · rw [if_pos rfl, List.length_append]
                show S.all.length + 1 ≤ i + 1
                omega
            cases ok
            · have OW := Lib.hid (NL.out ▸ SS5.out.fr (v := .slice a13 nL k13) (L := L13) (by rw [NL.out]; simp))
              have NW := Lib.hid SS5.out.nle
              have HA6 := Lib.hid (show S5.all = S.all from HA5.out)
              go_wp2_with (at_builtin; refine wpList_append_off rfl (.tmp 120) (.tmp 121) 27 rfl i0 _ 24 Try.underlying27 hi0 hz0 hz1 hz2 rfl rfl OW.out a5 L5.length c5 (L5.map bdV) rfl (by rw [List.length_map]) g2 g3 (one_bdV L5) (by unfold maxLen; omega) (by omega) NW.out ?_
                           intro v6 w6 hown6 hgr6 hat6
                           obtain ⟨a6, k6, rfl, -⟩ := hown6.form2
                           have S6 := Lib.hid (((NL.out ▸ SS5.out).appF (P := []) (Q := [frO (.slice a14 L14.length k14) L14, stO (.slice a15 got.length k15) got, stO (.slice a16 S.all.length k16) S.all]) (v := .slice a13 nL k13) (L := L13) (List.mem_cons_self ..) rfl (by rw [NL.out]; exact hown6) hgr6 hat6).noG)
                           clear hown6 hgr6 hat6)
              go_meet
              exact ⟨S5, X ++ X5, L13 ++ L5, by rw [HA6.out]; exact S6.out, by rw [List.map_append, List.map_append, HX.out, HL5.out], HC5.out, hA6, by rw [List.length_append, NL.out]; omega, fun h => absurd h hnm⟩
            · have y1 := K0.out w5 SS5.out.be
              have OS := Lib.hid ((SS5.out.below ((Below.refl _ _).alloc (Nat.le_refl _) (.cells #[.string s0] 9))).st (v := .slice a16 S.all.length k16) (ss := S.all) (by simp))
              have NW := Lib.hid SS5.out.nle
              have hal : S.all.length ≤ 12 := by omega
              obtain ⟨na, hna⟩ : ∃ na, S.all.length = na := ⟨_, rfl⟩
              have NA := Lib.hid hna
              have HA6 := Lib.hid (show S5.all = S.all ++ [s0] from HA5.out)
              rw [hna] at OS hal ⊢
              clear hna
              go_wp2_with (first
                | (at_builtin; refine wpList_append_off rfl (.tmp 113) (.tmp 118) 37 rfl i1 _ 16 Try.underlying37 hi1 hy0 hy1 hy2 rfl rfl OS.out (some ⟨w5.heap.size, 0, none⟩) 1 1 [.string s0] rfl rfl (fun e => by cases e) (fun ad e => by cases e; exact World.news_of_block (heap_alloc_new _ _)) (by simp [Value.oneCell']) (by unfold maxLen; omega) (by omega) (by have := NW.out; simp; omega) ?_
                   intro v8 w8 hown8 hgr8 hat8
                   obtain ⟨a8, k8, rfl, -⟩ := hown8.form2
                   have S8 := Lib.hid ((NA.out ▸ (SS5.out.below ((Below.refl _ _).alloc (Nat.le_refl _) (.cells #[.string s0] 9)))).appS (P := [frO (.slice a13 L13.length k13) L13, frO (.slice a14 L14.length k14) L14, stO (.slice a15 got.length k15) got]) (Q := []) (v := .slice a16 na k16) (ss := S.all) (s := s0) (by rw [NA.out]; exact hown8) hgr8 hat8)
                   have OW := Lib.hid (NL.out ▸ S8.out.fr (v := .slice a13 nL k13) (L := L13) (by rw [NL.out]; simp))
                   have NW2 := Lib.hid S8.out.nle
                   obtain ⟨-, p2, p3, -⟩ := S8.out.gv (ao := a5) (cap := c5) (L := L5) (List.mem_cons_self ..)
                   clear hown8 hgr8 hat8)
                | (at_builtin; refine wpList_append_off rfl (.tmp 120) (.tmp 121) 27 rfl i0 _ 24 Try.underlying27 hi0 hz0 hz1 hz2 rfl rfl OW.out a5 L5.length c5 (L5.map bdV) rfl (by rw [List.length_map]) p2 p3 (one_bdV L5) (by unfold maxLen; omega) (by omega) NW2.out ?_
                   intro v6 w6 hown6 hgr6 hat6
                   obtain ⟨a6, k6, rfl, -⟩ := hown6.form2
                   have S6 := Lib.hid (((NL.out ▸ S8.out).appF (P := []) (Q := [frO (.slice a14 L14.length k14) L14, stO (.slice a15 got.length k15) got, stO (.slice a8 (na + 1) k8) (S.all ++ [s0])]) (v := .slice a13 nL k13) (L := L13) (List.mem_cons_self ..) rfl (by rw [NL.out]; exact hown6) hgr6 hat6).noG)
                   clear hown6 hgr6 hat6))
              go_meet
              exact ⟨S5, X ++ X5, L13 ++ L5, by rw [HA6.out]; exact S6.out, by rw [List.map_append, List.map_append, HX.out, HL5.out], HC5.out, hA6, by rw [List.length_append, NL.out]; omega, fun h => absurd h hnm⟩
      case rest =>
      obtain ⟨S1, X1, L1, hS, hX, hC, hA1, h1, hN1⟩ := hcut
      obtain ⟨a1, k1, rfl, -, -, -⟩ := (hS.fr (L := L1) (List.mem_cons_self ..)).form2
      obtain ⟨a2, k2, rfl, -, -, -⟩ := (hS.st (ss := S1.all) (List.mem_cons_of_mem _ (List.mem_cons_of_mem _ (List.mem_cons_of_mem _ (List.mem_cons_self ..))))).form2
      have S2 := Lib.hid hS
      have HX2 := Lib.hid hX
      have HC2 := Lib.hid hC
      have HN2 := Lib.hid (show m ≤ i → Need S1 X1 (m + 80 - i) from fun h => by
        obtain ⟨e1, e2⟩ := hN1 h
        rw [e1, e2]
        by_cases hmi : m < i
        · exact HN.out hmi
        · have h4 := need_first (there := X) HC.out.net.s
          have h5 := HC.out.few
          have h6 := HC.out.m
          exact need_more h4 (by omega))
      clear hS hX hC hN1 SR HX HC HN hA h13
      go_upto_if 126 with fail
      go_cut [20] from 85 to 235 (fun v wx => v = .int .i64 pk ∧ wx = wc)
      case first =>
        by_cases q2 : i < m
        · have q3 : i < (v3.map fun x => Value.int .i64 x).length := by rw [List.length_map, ← M0.out]; exact q2
          obtain ⟨ba, fa, rfl, hba, k0⟩ := A3.out.cell i q3
          rw [List.getElem_map, PG.out] at k0
          have y0 : wc.cell? ⟨ba, fa + i, none⟩ = some (.int .i64 pk) := (S2.out.be.cell (p := ⟨ba, fa + i, none⟩) hba).trans k0
          have i0' : (0 : Int) ≤ (i : Int) := by omega
          have i1' : (i : Int) < (m : Int) := by omega
          clear k0
          go_wp2_with fail
          go_meet
          exact ⟨rfl, rfl⟩
        · go_wp2_with fail
          go_meet
          exact ⟨congrArg (Value.int .i64) (PZ.out (by omega)).symm, rfl⟩
      case rest =>
      obtain ⟨rfl, rfl⟩ := hcut
      have TK := Lib.hid (cr_tick S2.out HC2.out (by omega))
      obtain ⟨n1, hn1⟩ : ∃ n1, L1.length = n1 := ⟨_, rfl⟩
      have NL := Lib.hid hn1
      rw [hn1] at h1 ⊢
      clear hn1
      go_upto_region 24 with (first
        | (go_at_call 13; refine TK.out.mono ?_
           rintro e w5 ⟨a5, c5, L5, rfl, hL5, hC5, hl5, hS5⟩
           have S5 := Lib.hid hS5
           have HL5 := Lib.hid hL5
           have HC5 := Lib.hid hC5
           obtain ⟨-, g2, g3, -⟩ := hS5.gv (ao := a5) (cap := c5) (L := L5) (List.mem_cons_self ..)
           have OW := Lib.hid (NL.out ▸ hS5.fr (v := .slice a1 n1 k1) (L := L1) (by rw [NL.out]; simp))
           have NW := Lib.hid hS5.nle
           clear hL5 hC5 hS5)
        | (at_builtin; refine wpList_append_off rfl (.tmp 131) (.tmp 133) 27 rfl i0 _ 24 Try.underlying27 hi0 hz0 hz1 hz2 rfl rfl OW.out a5 L5.length c5 (L5.map bdV) rfl (by rw [List.length_map]) g2 g3 (one_bdV L5) (by unfold maxLen; omega) (by omega) NW.out ?_
           intro v6 w6 hown6 hgr6 hat6
           obtain ⟨a6, k6, rfl, -⟩ := hown6.form2
           have S6 := Lib.hid (((NL.out ▸ S5.out).appF (P := []) (Q := [frO (.slice a14 L14.length k14) L14, stO (.slice a15 got.length k15) got, stO (.slice a2 S1.all.length k2) S1.all]) (v := .slice a1 n1 k1) (L := L1) (List.mem_cons_self ..) rfl (by rw [NL.out]; exact hown6) hgr6 hat6).noG)
           clear hown6 hgr6 hat6))
      have h6 : (L1 ++ L5).length ≤ 100000 := by rw [List.length_append, NL.out]; omega
      have ne6 : n1 + L5.length = (L1 ++ L5).length := by rw [List.length_append, NL.out]
      have TA := Lib.hid (cr_turn (P := []) pk (ne6 ▸ S6.out) h6)
      have HL6 := Lib.hid (show (L1 ++ L5).map Bd.s = (X1 ++ numd S1.g S1.tickI).map wireD by rw [List.map_append, List.map_append, HX2.out, HL5.out])
      have hl6 : (L1 ++ L5).length ≤ 3000 := by rw [List.length_append, NL.out]; omega
      rw [ne6]
      clear ne6 TK S2 OW NW HL5 HX2 g2 g3 S5 h1 hl5 NL
      obtain ⟨L6, hL6⟩ : ∃ L6, L6 = L1 ++ L5 := ⟨_, rfl⟩
      rw [← hL6] at TA HL6 hl6 h6 ⊢
      clear hL6 S6
      have TB := Lib.hid (fun (a7 : Option Addr) (k7 : Nat) (L7 : List Bd) (w : World) (h : St W x y ⟨S1.tick, Dk.new wi⟩ ⟨Sh.new wi qu 1 4, D⟩ [] [frO (.slice a7 L7.length k7) L7, frO (.slice a14 L14.length k14) L14, stO (.slice a15 got.length k15) got, stO (.slice a2 S1.all.length k2) S1.all] w) (p : Int) =>
        cr_turn (P := [frO (.slice a7 L7.length k7) L7]) (Q := [stO (.slice a15 got.length k15) got, stO (.slice a2 S1.all.length k2) S1.all]) p h (Nat.le_trans h14 (by decide)))
      go_upto_region 25 with (first
        | (go_at_call 14; refine TA.out.mono ?_; rintro e w7 ⟨a7, k7, L7, rfl, hl7, hF7, hS7⟩; have F7 := Lib.hid hF7; have S7 := Lib.hid (TB.out a7 k7 L7 w7 hS7); clear hS7 TA hF7)
        | (go_at_call 14; refine (S7.out _).mono ?_; rintro e w8 ⟨a8, k8, L8, rfl, hl8, hF8, hS8⟩; have F8 := Lib.hid hF8; have S8 := Lib.hid hS8; clear hS8 hF8))
      clear TB S7
      obtain ⟨X7, hX7, hXs, hXz⟩ := F7.out _ wireD _ HL6.out
      obtain ⟨K8, hK8, hKs, -⟩ := F8.out _ wireA _ HK.out
      have C7 := Lib.hid ((HC5.out.sub hXs hKs))
      have HX7 := Lib.hid hX7
      have HK8 := Lib.hid hK8
      have XZ := Lib.hid hXz
      have l7 := congrArg List.length hX7
      rw [List.length_map, List.length_map] at l7
      have MN := Lib.hid l7.symm
      have hl7' : L7.length ≤ 3001 := by omega
      have hl8' : L8.length ≤ 2001 := by omega
      clear l7 hX7 hK8 hXs hKs hXz F7 F8 HK HC5 HL6 hl7 hl8
      go_upto_region 26 with fail
      go_cut [151] from 85 to 235 (fun v wx => v = .bool bg ∧ wx = w8)
      case first =>
        by_cases q1 : pk = 0
        · subst q1
          by_cases q2 : m ≤ i <;> (go_wp2_with fail; go_meet; exact ⟨congrArg Value.bool (by rw [← BG.out]; simp), rfl⟩)
        · have r1 : (pk == 0) = false := by simp [q1]
          have r2 : decide (pk = 0) = false := decide_eq_false q1
          by_cases q2 : m ≤ i <;> (go_wp2_with fail; go_meet; exact ⟨congrArg Value.bool (by rw [← BG.out]; simp [q1, q2]), rfl⟩)
      case rest =>
      obtain ⟨rfl, rfl⟩ := hcut
      go_upto_if 151 with fail
      go_cut [13, 14, 15, 22, 23, 24, 25, 26, 27, 28, 29, 30, 31] from 85 to 235 (fun v13 v14 v15 v22 v23 v24 v25 v26 v27 v28 v29 v30 v31 wx => ∃ S' D' X' K' got' L13' L14', St W x y ⟨S', Dk.new wi⟩ ⟨Sh.new wi qu 1 4, D'⟩ [] [frO v13 L13', frO v14 L14', stO v15 got', stO (.slice a2 S1.all.length k2) S1.all] wx ∧
        L13'.map Bd.s = X'.map wireD ∧ L14'.map Bd.s = K'.map wireA ∧ Car S' D' X' K' got' (2 * i + 1 + 1) ∧ S'.all = S1.all ∧ L13'.length ≤ 3000000 ∧ L14'.length ≤ 3000000 ∧ (m ≤ i → Need S' X' (m + 80 - (i + 1))))
      case first =>
        cases bg
        · have hnm : ¬ m ≤ i := fun h => of_decide_eq_false BG.out (Or.inr h)
          go_wp2_with fail
          go_meet
          exact ⟨S1.tick, D, X7, K8, got, L7, L8, S8.out, HX7.out, HK8.out, C7.out, rfl, by omega, by omega, fun h => absurd h hnm⟩
        · as_aux_lemma =>
          have hp0 : pk = 0 := (of_decide_eq_true BG.out).elim id PZ.out
          have X7E := Lib.hid (show X7 = X1 ++ numd S1.g S1.tickI from XZ.out hp0)
          have S9 := Lib.hid (S8.out.swap.p3)
          clear hp0 XZ S8
          go_wp2_with fail
          go_loopw [14, 15, 22] (fun v14 v15 vk wr => CarD W x y wi qu S1.tick X7 (2 * i + 1 + 1) L8.length [frO (.slice a7 L7.length k7) L7, stO (.slice a2 S1.all.length k2) S1.all] v14 v15 vk wr) (fun _ _ vk _ => L7.length - (intOf vk).toNat)
          case atStart => exact ⟨0, D, K8, got, L8, rfl, Nat.zero_le _, S9.out, HK8.out, heard_none C7.out.net, Nat.le_refl _⟩
          case round =>
            clear S9
            obtain ⟨k, D1, K1, g1, L9, rfl, hk, hS, hL, hH, hle⟩ := hrel
            obtain ⟨a9, k9, rfl, -, -, -⟩ := (hS.fr (L := L9) (List.mem_cons_of_mem _ (List.mem_cons_self ..))).form2
            obtain ⟨a10, k10, rfl, -, -, -⟩ := (hS.st (ss := g1) (List.mem_cons_self ..)).form2
            rw [MN.out] at hk
            have T3 := Lib.hid hS
            have HL9 := Lib.hid hL
            have HH := Lib.hid hH
            clear hS hL hH
            by_cases hkl : k < L7.length
            · have hkX : k < X7.length := by rw [MN.out]; exact hkl
              obtain ⟨gb, fb, e9, y0, hBd⟩ := T3.out.frAt (ao := a7) (m := L7.length) (cap := k7) (L := L7) (by simp) hkl
              have hds : L7[k].s = wireD X7[k] := by
                have h1 := HX7.out
                have h2 : (L7.map Bd.s)[k]? = (X7.map wireD)[k]? := by rw [h1]
                rw [List.getElem?_map, List.getElem?_map, List.getElem?_eq_getElem hkl, List.getElem?_eq_getElem hkX] at h2
                exact Option.some.inj h2
              have HE := Lib.hid (cr_hearD T3.out U0.out HH.out (x := X7[k]) (List.getElem_mem _) hds hBd)
              have TX := Lib.hid (show X7.take k ++ [X7[k]] = X7.take (k + 1) by rw [List.take_succ_eq_append_getElem hkX])
              unfold bdV at HE
              obtain ⟨xk, hxk⟩ : ∃ xk, X7[k] = xk := ⟨_, rfl⟩
              rw [hxk] at HE TX
              obtain ⟨dd, hdd⟩ : ∃ dd, L7[k] = dd := ⟨_, rfl⟩
              rw [hdd] at HE y0
              have GB := Lib.hid e9
              rw [e9]
              have i0' : (0 : Int) ≤ (k : Int) := by omega
              have i1' : (k : Int) < ((L7.length : Nat) : Int) := by omega
              clear hds hkX hxk hdd hBd e9
              go_wp2_with (go_at_call 8; refine HE.out.mono ?_
                           rintro e w5 ⟨au, cu, Lu, ad, cd, Ld, D2, kk, up, nu, rfl, hnu, hLu, hLd, hH2, hS5⟩
                           have S5 := Lib.hid hS5
                           have HLU := Lib.hid hLu
                           have HLD := Lib.hid hLd
                           have HH2 := Lib.hid hH2
                           have NU := Lib.hid hnu
                           clear hLu hLd hS5 hH2 hnu)
              clear y0 HE
              have hul : nu + g1.length ≤ 12 := by
                have h1 := HH2.out.net.gotLe
                rw [List.length_append, NU.out] at h1
                have h2 := C7.out.few
                omega
              go_loopw [15, 26] (fun vg vk wr => CarU W y x ⟨Sh.new wi qu 1 4, D2⟩ ⟨S1.tick, Dk.new wi⟩ [(.slice au nu cu, Lu), (.slice ad 1 cd, Ld)] ([frO (.slice a9 L9.length k9) L9] ++ [frO (.slice a7 L7.length k7) L7, stO (.slice a2 S1.all.length k2) S1.all]) g1 up vg vk wr) (fun _ vk _ => nu - (intOf vk).toNat)
              case atStart => exact ⟨0, rfl, Nat.zero_le _, by rw [List.take_zero, List.append_nil]; exact S5.out⟩
              case round =>
                clear T3 S5 HH
                obtain ⟨j, rfl, hj, hS⟩ := hrel
                rw [NU.out] at hj
                obtain ⟨ag2, kg2, rfl, -, -, -⟩ := (hS.st (ss := g1 ++ up.take j) (List.mem_cons_self ..)).form2
                have S6 := Lib.hid hS
                clear hS
                have hgk : (g1 ++ up.take j).length ≤ 12 := by rw [List.length_append, List.length_take, NU.out]; omega
                obtain ⟨ng, hng⟩ : ∃ ng, (g1 ++ up.take j).length = ng := ⟨_, rfl⟩
                have NG := Lib.hid hng
                rw [hng] at hgk
                have S7' := Lib.hid S6.out
                rw [hng] at S7'
                by_cases hjl : j < nu
                · obtain ⟨g1', -, -, g4⟩ := S6.out.gv (ao := au) (cap := cu) (L := Lu) (List.mem_cons_self ..)
                  have hkU : j < Lu.length := by rw [g1']; exact hjl
                  have hku : j < up.length := by rw [NU.out]; exact hjl
                  obtain ⟨gu, fu, rfl, y0, hBu⟩ := g4 j hkU
                  have hsu : Lu[j].s = up[j] := by
                    have h1 := HLU.out
                    subst h1
                    rw [List.getElem_map]
                  have TK := Lib.hid (show up.take j ++ [Lu[j].s] = up.take (j + 1) by rw [hsu, List.take_succ_eq_append_getElem hku])
                  have cv : (convert 30 9 (.slice Lu[j].a Lu[j].s.size Lu[j].c)).run Try.prog wr = .ok (.string Lu[j].s) wr := by
                    have := conv_any hBu.1 (bsN_len Lu[j].s)
                    rw [strB_bsN] at this
                    exact this
                  generalize Lu[j] = du at *
                  have OW := Lib.hid ((S7'.out.below ((Below.refl _ _).alloc (Nat.le_refl _) (.cells #[.string du.s] 9))).st (ss := g1 ++ up.take j) (List.mem_cons_self ..))
                  rw [hng] at OW
                  have NW := Lib.hid S6.out.nle
                  have i2' : (0 : Int) ≤ (j : Int) := by omega
                  have i3' : (j : Int) < (nu : Int) := by omega
                  rw [hng]
                  clear g1' g4 hkU hku hBu hsu hng
                  go_wp2_with (at_builtin; refine wpList_append_off rfl (.tmp 175) (.tmp 181) 37 rfl i1 _ 16 Try.underlying37 hi1 hy0 hy1 hy2 rfl rfl OW.out (some ⟨wr.heap.size, 0, none⟩) 1 1 [.string du.s] rfl rfl (fun e => by cases e) (fun ad e => by cases e; exact World.news_of_block (heap_alloc_new _ _)) (by simp [Value.oneCell']) (by unfold maxLen; omega) (by omega) (by have := NW.out; simp; omega) ?_
                               intro v8 w8 hown8 hgr8 hat8
                               obtain ⟨a8', k8', rfl, -⟩ := hown8.form2
                               have S8' := Lib.hid ((S7'.out.below ((Below.refl _ _).alloc (Nat.le_refl _) (.cells #[.string du.s] 9))).appS (P := []) (s := du.s) (by rw [NG.out]; exact hown8) hgr8 hat8)
                               clear hown8 hgr8 hat8)
                  go_roundw
                  case rel => exact ⟨j + 1, by go_num, by rw [NU.out]; omega, by rw [← TK.out, ← List.append_assoc]; exact S8'.out⟩
                  case measure => simp only [intOf]; omega
                · obtain rfl : j = nu := by omega
                  have d1 : decide ((j : Int) < (j : Int)) = false := decide_eq_false (by omega)
                  obtain ⟨gg, g2, g3, -⟩ := S6.out.gv (ao := ad) (cap := cd) (L := Ld) (List.mem_cons_of_mem _ (List.mem_cons_self ..))
                  have G1 := Lib.hid gg
                  obtain ⟨nL, hnL⟩ : ∃ nL, L9.length = nL := ⟨_, rfl⟩
                  have NL := Lib.hid hnL
                  have S9 := Lib.hid S7'.out
                  rw [hnL] at S9
                  have OW := Lib.hid (S9.out.fr (v := .slice a9 nL k9) (L := L9) (List.mem_cons_of_mem _ (List.mem_cons_self ..)))
                  rw [hnL] at OW
                  have NW := Lib.hid S6.out.nle
                  rw [hng, hnL]
                  rw [hnL] at hle
                  have UT := Lib.hid (show up.take j = up by rw [← NU.out, List.take_length])
                  clear gg hng hnL
                  go_wp2_with (at_builtin; refine wpList_append_off rfl (.tmp 183) (.tmp 184) 27 rfl i0 _ 24 Try.underlying27 hi0 hz0 hz1 hz2 rfl rfl OW.out ad 1 cd (Ld.map bdV) rfl (by rw [List.length_map]; exact G1.out) g2 g3 (one_bdV Ld) (by unfold maxLen; omega) (by omega) NW.out ?_
                               intro v6 w6 hown6 hgr6 hat6
                               obtain ⟨a6', k6', rfl, -⟩ := hown6.form2
                               have S8' := Lib.hid (S9.out.appF (P := [stO (.slice ag2 ng kg2) (g1 ++ up.take j)]) (Q := [frO (.slice a7 L7.length k7) L7, stO (.slice a2 S1.all.length k2) S1.all]) (v := .slice a9 nL k9) (L := L9) (List.mem_cons_of_mem _ (List.mem_cons_self ..)) G1.out (by rw [NL.out]; exact hown6) hgr6 hat6)
                               clear hown6 hgr6 hat6)
                  go_roundw
                  case rel => rw [← GB.out]; exact ⟨k + 1, D2, K1 ++ [kk], g1 ++ up, L9 ++ Ld, by go_num, by rw [MN.out]; omega, by have := S8'.out.noG; rw [UT.out] at this; exact this, by rw [List.map_append, List.map_append, HL9.out, HLD.out]; rfl, by rw [← TX.out]; exact HH2.out, by rw [List.length_append, NL.out, G1.out]; omega⟩
                  case measure => simp only [intOf]; omega
            · obtain rfl : k = L7.length := by omega
              have dx : decide (((L7.length : Nat) : Int) < ((L7.length : Nat) : Int)) = false := decide_eq_false (by omega)
              as_aux_lemma =>
                have HD := Lib.hid (show Heard S1.tick D1 X7 K1 g1 (2 * i + 1 + 1) X7 by have := HH.out; rw [← MN.out, List.take_length] at this; exact this)
                have S9 := Lib.hid ((T3.out.swap.drop (P := [stO (.slice a10 g1.length k10) g1, frO (.slice a9 L9.length k9) L9]) (Q := [stO (.slice a2 S1.all.length k2) S1.all])).nilF)
                have l9 := congrArg List.length HL9.out
                rw [List.length_map, List.length_map] at l9
                have ML := Lib.hid l9.symm
                have hl9 : L9.length ≤ 5002 := by omega
                clear T3 HH l9 hle hkl
                go_wp2_with fail
                clear dx
                go_loopw [13, 28] (fun v13 vk wr => CarA W x y wi qu S1.tick D1 K1 g1 (2 * i + 1 + 1) [stO (.slice a10 g1.length k10) g1, frO (.slice a9 L9.length k9) L9, stO (.slice a2 S1.all.length k2) S1.all] v13 vk wr) (fun _ vk _ => L9.length - (intOf vk).toNat)
                case atStart => exact ⟨0, S1.tick, [], [], rfl, Nat.zero_le _, S9.out, rfl, told_none HD.out.net, C7.out.m, Nat.zero_le _⟩
                case round =>
                  clear S9
                  obtain ⟨k, S3, X3, L3, rfl, hk2, hS, hL, hT, hpm, hle⟩ := hrel
                  obtain ⟨a3, k3, rfl, -, -, -⟩ := (hS.fr (L := L3) (List.mem_cons_self ..)).form2
                  rw [ML.out] at hk2
                  have T3 := Lib.hid hS
                  have HL3 := Lib.hid hL
                  have HT := Lib.hid hT
                  have PM := Lib.hid hpm
                  clear hS hL hT hpm
                  by_cases hkl : k < L9.length
                  · have hkX : k < K1.length := by rw [ML.out]; exact hkl
                    obtain ⟨gb, fb, e9, y0, hBd⟩ := T3.out.frAt (ao := a9) (m := L9.length) (cap := k9) (L := L9) (by simp) hkl
                    have hds : L9[k].s = wireA K1[k] := by
                      have h1 := HL9.out
                      have h2 : (L9.map Bd.s)[k]? = (K1.map wireA)[k]? := by rw [h1]
                      rw [List.getElem?_map, List.getElem?_map, List.getElem?_eq_getElem hkl, List.getElem?_eq_getElem hkX] at h2
                      exact Option.some.inj h2
                    have HE := Lib.hid (cr_hearA T3.out V0.out HT.out (k := K1[k]) (List.getElem_mem _) hds hBd)
                    have TX := Lib.hid (show K1.take k ++ [K1[k]] = K1.take (k + 1) by rw [List.take_succ_eq_append_getElem hkX])
                    unfold bdV at HE
                    obtain ⟨xk, hxk⟩ : ∃ xk, K1[k] = xk := ⟨_, rfl⟩
                    rw [hxk] at HE TX
                    obtain ⟨dd, hdd⟩ : ∃ dd, L9[k] = dd := ⟨_, rfl⟩
                    rw [hdd] at HE y0
                    have GB := Lib.hid e9
                    rw [e9]
                    have i0' : (0 : Int) ≤ (k : Int) := by omega
                    have i1' : (k : Int) < ((L9.length : Nat) : Int) := by omega
                    obtain ⟨nL, hnL⟩ : ∃ nL, L3.length = nL := ⟨_, rfl⟩
                    have NL := Lib.hid hnL
                    rw [hnL] at hle ⊢
                    clear hds hkX hxk hdd hBd e9 hnL
                    go_wp2_with (first
                      | (go_at_call 8; refine HE.out.mono ?_
                         rintro e w5 ⟨au, cu, Lu, ad, cd, Ld, S4, X4, rfl, hLd, hld, hT4, hpm4, hS5⟩
                         have S5 := Lib.hid hS5
                         have HLD := Lib.hid hLd
                         have HT4 := Lib.hid hT4
                         have PM4 := Lib.hid hpm4
                         obtain ⟨-, g2, g3, -⟩ := hS5.gv (ao := ad) (cap := cd) (L := Ld) (List.mem_cons_of_mem _ (List.mem_cons_self ..))
                         have OW := Lib.hid (NL.out ▸ hS5.fr (v := .slice a3 nL k3) (L := L3) (by rw [NL.out]; simp))
                         have NW := Lib.hid hS5.nle
                         clear hLd hS5 hT4 hpm4)
                      | (at_builtin; refine wpList_append_off rfl (.tmp 205) (.tmp 206) 27 rfl i0 _ 24 Try.underlying27 hi0 hz0 hz1 hz2 rfl rfl OW.out ad Ld.length cd (Ld.map bdV) rfl (by rw [List.length_map]) g2 g3 (one_bdV Ld) (by unfold maxLen; omega) (by omega) NW.out ?_
                         intro v6 w6 hown6 hgr6 hat6
                         obtain ⟨a6', k6', rfl, -⟩ := hown6.form2
                         have S8' := Lib.hid ((NL.out ▸ S5.out).appF (P := []) (Q := [stO (.slice a10 g1.length k10) g1, frO (.slice a9 L9.length k9) L9, stO (.slice a2 S1.all.length k2) S1.all]) (v := .slice a3 nL k3) (L := L3) (List.mem_cons_of_mem _ (List.mem_cons_self ..)) rfl (by rw [NL.out]; exact hown6) hgr6 hat6)
                         clear hown6 hgr6 hat6))
                    go_roundw
                    case rel => rw [← GB.out]; exact ⟨k + 1, S4, X3 ++ X4, L3 ++ Ld, by go_num, by rw [ML.out]; omega, S8'.out.noG, by rw [List.map_append, List.map_append, HL3.out, HLD.out], by rw [← TX.out]; exact HT4.out, PM4.out.trans PM.out, by rw [List.length_append, NL.out]; omega⟩
                    case measure => simp only [intOf]; omega
                  · obtain rfl : k = L9.length := by omega
                    have dx : decide (((L9.length : Nat) : Int) < ((L9.length : Nat) : Int)) = false := decide_eq_false (by omega)
                    have HT2 := Lib.hid (show Told S1.tick S3 D1 X3 K1 g1 (2 * i + 1 + 1) K1 by have := HT.out; rw [← ML.out, List.take_length] at this; exact this)
                    have S9 := Lib.hid ((T3.out.drop (P := [frO (.slice a3 L3.length k3) L3, stO (.slice a10 g1.length k10) g1]) (Q := [stO (.slice a2 S1.all.length k2) S1.all])).nilF.sw)
                    have hl3 : L3.length ≤ 3000000 := by omega
                    clear T3 HT hle hkl
                    go_wp2_with fail
                    go_meet
                    exact ⟨S3, D1, X3, [], g1, L3, [], S9.out, HL3.out, rfl, ⟨HT2.out.net.sub (fun _ h => h) (fun _ h => by cases h), (HT2.out.f C7.out.f).1, PM.out, by rw [HT2.out.all]; exact C7.out.few⟩, HT2.out.all, hl3, Nat.zero_le _, fun h => car_round HC2.out.net.s HC2.out.f HN2.out hi80 (X7E.out ▸ HD.out) HT2.out h⟩
      case rest =>
      as_aux_lemma =>
        obtain ⟨S4, D4, X4, K4, g4, L13, L14, hS, hX4, hK4, hC4, hA4, h13, h14, hN4⟩ := hcut
        obtain ⟨a3, k3, rfl, -, -, -⟩ := (hS.fr (L := L13) (List.mem_cons_self ..)).form2
        obtain ⟨a4, k4, rfl, -, -, -⟩ := (hS.fr (L := L14) (List.mem_cons_of_mem _ (List.mem_cons_self ..))).form2
        obtain ⟨a5', k5', rfl, -, -, -⟩ := (hS.st (ss := g4) (List.mem_cons_of_mem _ (List.mem_cons_of_mem _ (List.mem_cons_self ..)))).form2
        have ST := Lib.hid hS
        have hgl : g4.length ≤ S1.all.length := by have := hC4.net.gotLe; rw [hA4] at this; exact this
        have HX4 := Lib.hid hX4
        have HK4 := Lib.hid hK4
        have HC4 := Lib.hid hC4
        have HA4 := Lib.hid hA4
        have HN4 := Lib.hid hN4
        clear hS hX4 hK4 hC4 hA4 hN4
        have dg : decide ((g4.length : Int) > (S1.all.length : Int)) = false := decide_eq_false (by omega)
        have dg' : decide (S1.all.length < g4.length) = false := decide_eq_false (by omega)
        go_wp2_with fail
        clear dg dg'
        go_loopw [32] (fun vi wr => CarT W x y ⟨S4, Dk.new wi⟩ ⟨Sh.new wi qu 1 4, D4⟩ [frO (.slice a3 L13.length k3) L13, frO (.slice a4 L14.length k4) L14, stO (.slice a5' g4.length k5') g4, stO (.slice a2 S1.all.length k2) S1.all] g4.length vi wr) (fun vi _ => g4.length - (intOf vi).toNat)
        case atStart => exact ⟨0, rfl, Nat.zero_le _, ST.out⟩
        case round =>
          clear ST
          obtain ⟨k, rfl, hk, hS⟩ := hrel
          have ST := Lib.hid hS
          clear hS
          by_cases hkl : k < g4.length
          · obtain ⟨gb, fb, e9, y0⟩ := ST.out.stAt (ao := a5') (m := g4.length) (cap := k5') (ss := g4) (by simp [stO, frO]) hkl
            obtain ⟨gc, fc, e8, y1⟩ := ST.out.stAt (ao := a2) (m := S1.all.length) (cap := k2) (ss := S1.all) (by simp [stO, frO]) (i := k) (by omega)
            have hsm : S1.all[k]'(by omega) = g4[k] := by
              have h1 := HC4.out.net.link.got
              have h2 : g4[k]? = (S1.all.take (D4.next - 1))[k]? := by rw [h1, HA4.out]
              rw [List.getElem?_eq_getElem hkl, List.getElem?_take] at h2
              split at h2
              · rw [List.getElem?_eq_getElem (by omega)] at h2
                exact (Option.some.inj h2).symm
              · cases h2
            rw [hsm] at y1
            have GB := Lib.hid e9
            have GC := Lib.hid e8
            rw [e9, e8]
            have i0' : (0 : Int) ≤ (k : Int) := by omega
            have i1' : (k : Int) < (g4.length : Int) := by omega
            have i2' : (k : Int) < (S1.all.length : Int) := by omega
            generalize g4[k] = s0 at *
            clear hsm e9 e8
            go_wp2_with fail
            go_quiet (fail)
            go_wp2_with fail
            rw [← GB.out, ← GC.out]
            go_roundw
            case rel => exact ⟨k + 1, by go_num, by omega, ST.out.drewN _⟩
            case measure => simp only [intOf]; omega
          · obtain rfl : k = g4.length := by omega
            have dx : decide (((g4.length : Nat) : Int) < ((g4.length : Nat) : Int)) = false := decide_eq_false (by omega)
            have hal : S1.all.length ≤ i + 1 := hA1
            by_cases r1 : 2000 < L13.length
            · have d1 : decide ((L13.length : Int) > 2000) = true := decide_eq_true (by omega)
              have d2 : decide (2000 < L13.length) = true := decide_eq_true r1
              clear r1
              go_wp2_with fail
              go_ret
              exact ⟨rfl, ST.out.be⟩
            · have d1 : decide ((L13.length : Int) > 2000) = false := decide_eq_false (by omega)
              have d2 : decide (2000 < L13.length) = false := decide_eq_false r1
              by_cases r2 : 2000 < L14.length
              · have d3 : decide ((L14.length : Int) > 2000) = true := decide_eq_true (by omega)
                have d4 : decide (2000 < L14.length) = true := decide_eq_true r2
                clear r1 r2
                go_wp2_with fail
                go_ret
                exact ⟨rfl, ST.out.be⟩
              · have d3 : decide ((L14.length : Int) > 2000) = false := decide_eq_false (by omega)
                have d4 : decide (2000 < L14.length) = false := decide_eq_false r2
                go_wp2_with fail
                go_roundw
                case rel => exact ⟨i + 1, S4, D4, X4, K4, g4, L13, L14, by go_num, by omega, by rw [HA4.out]; exact ST.out, HX4.out, HK4.out, HC4.out.more (by omega) (by omega), by rw [HA4.out]; exact hal, by omega, by omega, fun h => HN4.out (by omega)⟩
                case measure => simp only [intOf]; omega
    · have hie : i = m + 80 := by omega
      as_aux_lemma =>
        have hdone := need_done (show Need S X 0 by have := HN.out (by omega); rw [show m + 80 - i = 0 by omega] at this; exact this) HC.out.net.s HC.out.net.link HC.out.net.d
        obtain ⟨e1, e2, e3, e4⟩ := hdone
        subst e1
        have QA := Lib.hid (show decide (S.out.length = 0 ∧ S.waits.length = 0 ∧ (Dk.new wi).held.length = 0) = true by rw [e2, e3]; rfl)
        have QB := Lib.hid (show decide ((Sh.new wi qu 1 4).out.length = 0 ∧ (Sh.new wi qu 1 4).waits.length = 0 ∧ D.held.length = 0) = true by rw [e4]; simp [Sh.new, Sh.out, Sh.waits])
        have QU := Lib.hid (st_quiet SR.out HC.out.net.s HC.out.net.n V0.out QA.out)
        clear e2 e3 e4 SR h13 h14 hA
        go_wp2_with (first
          | (go_at_call 10; refine QU.out.mono ?_; rintro e w5 ⟨rfl, hS5⟩; have QV := Lib.hid (st_quiet hS5.swap U0.out (by omega) HC.out.net.d QB.out); clear hS5 QU)
          | (go_at_call 10; refine QV.out.mono ?_; rintro e w6 ⟨rfl, hS6⟩; have BE := Lib.hid hS6.be; clear hS6))
        go_ret
        exact ⟨rfl, BE.out⟩

end Go.Proofs.Ytfbojcaedcimcaa
