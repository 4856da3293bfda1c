/-
  DockPlays.
-/
import Derived.Test.YthipdinpbihhmaaNduo
namespace Go.Proofs.Ythipdinpbihhmaa
open Go.RowKit

def PlyRel (W : World) (N p q r M win n : Nat) (v : Value) (wr : World) : Prop := ∃ i S, v = .int .i64 ((i : Nat) : Int) ∧ i ≤ n ∧ S.ok i ∧ S.win = win ∧ DuoD W N p q r M S S wr

theorem nums_at {S : Dk} (k : Nat) (h : k < S.held.length) (h2 : k < S.nums.length) : S.nums[k] = S.held[k].1 := by
  unfold Dk.nums at h2 ⊢
  rw [List.getElem_map]

set_option maxRecDepth 20000 in
set_option maxHeartbeats 16000000 in
theorem law_DockPlays (v0 : Int) (v1 : List (Nat × ByteArray)) (ao1 : Option Addr) (c1 : Nat) (W : World) (h1 : DtAt W ao1 c1 v1) :
    Calls Try.prog 4 #[.int .i64 v0, .slice ao1 v1.length c1] W (DkOk W) := by
  have A1 := Lib.hid h1
  clear h1
  obtain ⟨len, hlen⟩ : ∃ x, x = v1.length := ⟨_, rfl⟩
  rw [← hlen]
  have LN := Lib.hid hlen
  clear hlen
  go_enter Try.func4, Try.ntmps4
  go_wp2_with fail
  refine (dk_awake W).mono ?_
  rintro e w0 ⟨rfl, b0⟩
  have B0 := Lib.hid b0
  clear b0
  by_cases hb : v0 < 1 ∨ v0 > 16
  · have NB := Lib.hid (new_bad v0 w0 (by omega))
    cases d1 : decide (v0 < 1) <;> cases d2 : decide (v0 > 16)
    case false.false =>
      simp only [decide_eq_false_iff_not] at d1 d2
      omega
    all_goals
      clear hb
      go_wp2_with fail
      refine NB.out.mono ?_
      rintro e w' ⟨rfl, hw⟩
      have hw2 := hw.symm
      clear hw
      subst hw2
      go_wp2_with fail
      go_ret
      exact ⟨rfl, B0.out⟩
  · obtain ⟨win, rfl⟩ := Int.eq_ofNat_of_zero_le (show 0 ≤ v0 by omega)
    have hw : 1 ≤ win ∧ win ≤ 16 := by omega
    have d1 : decide ((win : Int) < 1) = false := decide_eq_false (by omega)
    have d2 : decide ((win : Int) > 16) = false := decide_eq_false (by omega)
    have HW := Lib.hid hw
    clear hb hw
    go_wp2_with fail
    refine (on_new (W := W) (N := W.heap.size) win HW.out.1 HW.out.2 B0.out B0.out.size rfl).mono ?_
    rintro e w1 ⟨p, q, M, rfl, h1, hM, -⟩
    have L1 := Lib.hid h1
    have HM := Lib.hid hM
    clear h1 B0 hM
    by_cases hl : 100 < len
    · have d3 : decide ((len : Int) > 100) = true := decide_eq_true (by omega)
      go_wp2_with fail
      go_ret
      exact ⟨rfl, L1.out.be⟩
    · have d3 : decide ((len : Int) > 100) = false := decide_eq_false (by omega)
      go_wp2_with fail
      refine (rd_new win w1).mono ?_
      rintro e w2 ⟨r, rfl, hr, hr1, hb2⟩
      have D2 := Lib.hid (duo_new L1.out rfl hr hb2 (by rw [HM.out]; exact Nat.le_refl _) hr1)
      clear hr hr1 hb2 L1 HM d1 d2 d3
      generalize w2.heap.size = M2 at *
      go_wp2_with fail
      go_loopw [8] (fun v wr => PlyRel W W.heap.size p q r M2 win len v wr) (fun v _ => len - (intOf v).toNat)
      case atStart => exact ⟨0, Dk.new win, rfl, Nat.zero_le _, Dk.ok_new HW.out, rfl, D2.out⟩
      case round =>
        clear D2
        obtain ⟨i, S, rfl, hi, hS, hwin, hD⟩ := hrel
        have D := Lib.hid hD
        have OK := Lib.hid hS
        have WN := Lib.hid hwin
        clear hD hS hwin
        have wk : IntKind.i64.wrap ((i : Int) + 1) = (i : Int) + 1 := wrapN (by omega)
        by_cases hlt : i < len
        · have hi0 : i < v1.length := by rw [← LN.out]; exact hlt
          obtain ⟨x0, x1⟩ := dI_at i v1 hi0
          obtain ⟨ba, fa, rfl, hba, -, k0⟩ := A1.out.1.cell _ _ x0
          obtain ⟨ba', fa', e', -, -, k1⟩ := A1.out.1.cell _ _ x1
          cases e'
          have hn := A1.out.2 v1[i] (List.getElem_mem _)
          unfold uN at k0
          have y0 : wr.cell? ⟨ba, fa + i * 2, none⟩ = some (.int .u64 ((v1[i].1 : Nat) : Int)) := (D.out.be.cell (p := ⟨ba, fa + i * 2, none⟩) hba).trans k0
          have y1 : wr.cell? ⟨ba, fa + i * 2 + 1, none⟩ = some (.string v1[i].2) := (D.out.be.cell (p := ⟨ba, fa + i * 2 + 1, none⟩) hba).trans k1
          generalize v1[i] = x at *
          obtain ⟨num, s⟩ := x
          simp only at y0 y1 hn
          have i0 : (0 : Int) ≤ (i : Int) := by omega
          have i1 : (i : Int) < (len : Int) := by omega
          clear k0 k1 x0 x1
          by_cases h50 : 50 < s.size
          · have d4 : decide ((s.size : Int) > 50) = true := decide_eq_true (by omega)
            go_wp2_with fail
            go_ret
            exact ⟨rfl, D.out.be⟩
          · have d4 : decide ((s.size : Int) > 50) = false := decide_eq_false (by omega)
            have Y0 := Lib.hid (fun (w : World) (h : Below W.heap.size W w) => (h.cell (p := ⟨ba, fa + i * 2, none⟩) hba).trans ((D.out.be.cell (p := ⟨ba, fa + i * 2, none⟩) hba).symm.trans y0))
            have Y1 := Lib.hid (fun (w : World) (h : Below W.heap.size W w) => (h.cell (p := ⟨ba, fa + i * 2 + 1, none⟩) hba).trans ((D.out.be.cell (p := ⟨ba, fa + i * 2 + 1, none⟩) hba).symm.trans y1))
            have hcv := fun (w : World) (s : ByteArray) => Lib.run_convert_string_bytes (P := Try.prog) w 9 31 5 s Try.underlying9 Try.underlying31 Try.underlying5
            obtain ⟨g, hg⟩ : ∃ g, (S.gave num s).length = g := ⟨_, rfl⟩
            obtain ⟨bb, hbb⟩ : ∃ b, S.may num = b := ⟨_, rfl⟩
            have OP := Lib.hid (duo_str (c := i) (D.out.drewN 1) OK.out (by omega) hn (by omega) hg hbb)
            have OD := Lib.hid (fun (w : World) (v : Value) (h : DuoD W W.heap.size p q r M2 (S.came num s) S w) (hu : UpR M2 w v (S.gave num s)) => duo_ref (c := i) h hu OK.out (by omega) hn hg hbb)
            have G := Lib.hid hg
            have y2 : wr.drew.cell? ⟨ba, fa + i * 2, none⟩ = some (.int .u64 (num : Int)) := y0
            have y3 : wr.drew.cell? ⟨ba, fa + i * 2 + 1, none⟩ = some (.string s) := y1
            have y4 : (Lib.bytesWorld wr.drew 5 s).cell? ⟨ba, fa + i * 2, none⟩ = some (.int .u64 (num : Int)) := (Below.cell (p := ⟨ba, fa + i * 2, none⟩) (below_new wr.drew s) (cell_lt y0)).trans y2
            clear hg hbb
            go_upto_region 14 with fail
            go_cut [9, 10] from 66 to 81 (fun v9 v10 wx => v10 = .bool bb ∧ ∃ a cap, v9 = .slice a g cap ∧ UpR M2 wx (.slice a g cap) (S.gave num s) ∧ DuoD W W.heap.size p q r M2 (S.came num s) S wx)
            case first =>
              go_region_law (go_simp; go_at_call 10; refine OP.out.mono ?_; rintro e w3 ⟨a3, c3, rfl, hu3, hd3⟩; have U3 := Lib.hid hu3; have D3 := Lib.hid hd3; clear hu3 hd3)
              all_goals go_wp2_with fail
              all_goals go_meet
              all_goals exact ⟨rfl, _, _, rfl, U3.out, D3.out⟩
            case rest =>
              obtain ⟨rfl, a3, c3, rfl, hu3, hd3⟩ := hcut
              have U3 := Lib.hid (hu3.below (drew_below wc))
              have D3 := Lib.hid (hd3.drewN 1)
              have z0 : wc.cell? ⟨ba, fa + i * 2, none⟩ = some (.int .u64 (num : Int)) := Y0.out wc hd3.be
              have z1 : wc.cell? ⟨ba, fa + i * 2 + 1, none⟩ = some (.string s) := Y1.out wc hd3.be
              have z2 : wc.drew.cell? ⟨ba, fa + i * 2, none⟩ = some (.int .u64 (num : Int)) := z0
              have z3 : wc.drew.cell? ⟨ba, fa + i * 2 + 1, none⟩ = some (.string s) := z1
              have OD2 := Lib.hid (OD.out _ _ D3.out U3.out)
              clear hu3 hd3 OP D y0 y1 y2 y3 y4 OD Y0 Y1 z0 z1 U3 D3
              go_upto_region 15 with fail
              go_cut [11, 12] from 82 to 96 (fun v11 v12 wx => v12 = .bool bb ∧ ∃ a cap, v11 = .slice a g cap ∧ SlV wx a cap ((S.gave num s).map Value.string) ∧ UpR M2 wx (.slice a3 g c3) (S.gave num s) ∧ DuoD W W.heap.size p q r M2 (S.came num s) (S.came num s) wx)
              case first =>
                go_region_law (go_simp; go_at_call 14; refine OD2.out.mono ?_; rintro e w4 ⟨a4, c4, rfl, hs4, hu4, hd4⟩; have S4 := Lib.hid hs4; have U4 := Lib.hid hu4; have D4 := Lib.hid hd4; clear hs4 hu4 hd4)
                all_goals go_wp2_with fail
                all_goals go_meet
                all_goals exact ⟨rfl, _, _, rfl, S4.out, U4.out, D4.out⟩
              case rest =>
                obtain ⟨rfl, a4, c4, rfl, hs4, hu4, hd4⟩ := hcut
                clear OD2 z2 z3
                obtain ⟨S2, hS2⟩ : ∃ S2, S.came num s = S2 := ⟨_, rfl⟩
                obtain ⟨ss, hss⟩ : ∃ ss, S.gave num s = ss := ⟨_, rfl⟩
                have K2 := Lib.hid (show S2.ok (i + 1) from hS2 ▸ OK.out.came s)
                have W2 := Lib.hid (show S2.win = win by rw [← hS2, Dk.came_win]; exact WN.out)
                have GS := Lib.hid (show ss.length = g by rw [← hss]; exact G.out)
                rw [hS2] at hd4
                rw [hss] at hs4 hu4
                have HLD := Lib.hid (duo_held hd4 K2.out hu4 hs4)
                clear hS2 hss G OK WN hd4 hs4 hu4
                go_upto_region 17 with fail
                refine HLD.out.mono ?_
                rintro e w5 ⟨a5, c5, rfl, hh5, hu5, hs5, hd5⟩
                clear HLD
                obtain ⟨nn, hnn⟩ : ∃ n, n = S2.nums.length := ⟨_, rfl⟩
                have NH : S2.held.length = nn := by rw [hnn]; unfold Dk.nums; rw [List.length_map]
                have BK : ∀ k, Below w5.heap.size w5 (w5.drewN k) := fun k => ⟨rfl, rfl, rfl, Nat.le_refl _, fun _ _ => rfl⟩
                have RW := Lib.hid (fun k => rows_any (hu5.below (BK k)) (hs5.below (BK k)) GS.out true (decide_eq_true rfl))
                have NX := Lib.hid (fun k => next_any (hd5.dk.below (BK k)))
                obtain ⟨ar, cr, hR⟩ := hd5.rd
                obtain ⟨v0, v1', v2⟩ := hR.cells
                rw [NH] at v2
                have D5 := Lib.hid hd5
                have H5 := Lib.hid hh5
                have RR := Lib.hid hR.row
                have HN := Lib.hid hnn
                have hfit := hh5.fit
                have hmax := hh5.max
                have hfit2 := hR.row.fit
                have hmax2 := hR.row.max
                unfold maxLen at hmax hmax2
                rw [List.length_map, ← hnn] at hfit
                rw [NH] at hfit2
                have NH2 := Lib.hid NH
                rw [← hnn]
                clear hd5 hh5 hR v0 hu5 hs5 hnn NH
                have e1 : (bb != bb) = false := by simp
                have e2 : ((S2.next : Int) != (S2.next : Int)) = false := by simp
                have e3 : ((nn : Int) != (nn : Int)) = false := by simp
                generalize S2.next = nx at *
                go_wp2_with fail
                go_quiet (first
                  | (go_at_call 12; exact Calls.quiet_of (RW.out _))
                  | (go_at_call 15; exact Calls.quiet_of_same (NX.out _)))
                go_wp2_with fail
                clear RW NX e1 e2 e3
                have D6 := Lib.hid (D5.out.drewN nq)
                have H6 := Lib.hid (H5.out.below (BK nq))
                have R6 := Lib.hid (RR.out.below (BK nq))
                have u1 : (w5.drewN nq).cell? ⟨r, 2, none⟩ = some (.slice ar nn cr) := v2
                clear v1' v2 D5 H5 RR BK
                generalize w5.drewN nq = w6 at *
                go_loopw [14] (fun v wx => ∃ k q', k ≤ nn ∧ v = .int .i64 ((k : Nat) : Int) ∧ wx = w6.drewN q') (fun v _ => nn - (intOf v).toNat)
                case atStart => exact ⟨0, 0, Nat.zero_le _, rfl, rfl⟩
                case round =>
                  obtain ⟨k, q', hk, rfl, rfl⟩ := hrel
                  by_cases hkn : k < nn
                  · have hk1 : k < S2.nums.length := by rw [← HN.out]; exact hkn
                    have hk2 : k < S2.held.length := by rw [NH2.out]; exact hkn
                    obtain ⟨x0, -⟩ := dI_at k S2.held hk2
                    obtain ⟨o1, f1, rfl, -, z1⟩ := H6.out.at k hk1
                    obtain ⟨o2, f2, rfl, -, -, z2⟩ := R6.out.cell _ _ x0
                    rw [nums_at k hk2 hk1] at z1
                    unfold uN at z1 z2
                    have t1 : (w6.drewN q').cell? ⟨o1, f1 + k, none⟩ = some (.int .u64 ((S2.held[k].1 : Nat) : Int)) := z1
                    have t2 : (w6.drewN q').cell? ⟨o2, f2 + k * 2, none⟩ = some (.int .u64 ((S2.held[k].1 : Nat) : Int)) := z2
                    have t3 : (w6.drewN q').cell? ⟨r, 2, none⟩ = some (.slice (some ⟨o2, f2, none⟩) nn cr) := u1
                    have a0 : (0 : Int) ≤ (k : Int) := by omega
                    have a1 : (k : Int) < (nn : Int) := by omega
                    have wk1 : IntKind.i64.wrap ((k : Int) + 1) = (k : Int) + 1 := wrapN (by have := K2.out.len.1; have := NH2.out; omega)
                    have hQ := Lib.hid (fun j => (show ∃ q2, (w6.drewN q').drewN j = w6.drewN q2 from ⟨q' + j, by rw [World.drewN_drewN]⟩))
                    clear z1 z2 x0
                    generalize S2.held[k].1 = num2 at *
                    have e1 : ((num2 : Int) != (num2 : Int)) = false := by simp
                    clear hk1 hk2
                    generalize w6.drewN q' = ww at *
                    go_wp2_with fail
                    go_quiet (fail)
                    go_wp2_with fail
                    go_roundw
                    case rel => exact (hQ.out _).elim fun q2 e => ⟨k + 1, q2, by omega, by go_num, e⟩
                    case measure => simp only [intOf]; omega
                  · obtain rfl : k = nn := by omega
                    have dk : decide ((k : Int) < (k : Int)) = false := decide_eq_false (by omega)
                    have RZ := Lib.hid (show PlyRel W W.heap.size p q r M2 win len (.int .i64 ((i : Int) + 1)) (w6.drewN q') from ⟨i + 1, S2, by go_num, by omega, K2.out, W2.out, D6.out.drewN q'⟩)
                    go_wp2_with fail
                    go_roundw
                    case rel => exact RZ.out
                    case measure => simp only [intOf]; omega
        · obtain rfl : i = len := by omega
          have dk : decide ((i : Int) < (i : Int)) = false := decide_eq_false (by omega)
          go_wp2_with fail
          go_ret
          exact ⟨rfl, D.out.be⟩

end Go.Proofs.Ythipdinpbihhmaa
