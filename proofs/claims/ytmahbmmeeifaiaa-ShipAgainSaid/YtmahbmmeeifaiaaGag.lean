/-
  What rings goes out as it is, no more and no less, and nothing is changed by it.
-/
import Derived.Test.YtmahbmmeeifaiaaGdr
namespace Go.Proofs.Ytmahbmmeeifaiaa
open Go.RowKit

def AgRel (W : World) (N p : Nat) (len : Nat) (i : Value) (wr : World) : Prop := ∃ j S, j ≤ len ∧ i = .int .i64 (j : Nat) ∧ ShOn W N p S [] wr ∧ S.ok j
/-- Alike but for the alarm. -/
def Same (S T : Sh) : Prop := T.all = S.all ∧ T.g = S.g ∧ T.win = S.win
theorem Same.out {S T : Sh} (h : Same S T) : T.out = S.out := by
  have h1 : T.n = S.n := by unfold Sh.n; rw [h.1, h.2.1, h.2.2]
  unfold Sh.out
  rw [h1, h.1, h.2.1]
theorem Same.waits {S T : Sh} (h : Same S T) : T.waits = S.waits := by
  have h1 : T.n = S.n := by unfold Sh.n; rw [h.1, h.2.1, h.2.2]
  unfold Sh.waits
  rw [h1, h.1, h.2.1]
def AgRel2 (W : World) (N p : Nat) (S : Sh) (x : Its) (n j : Nat) (i : Value) (wr : World) : Prop := ∃ k T, k ≤ n ∧ i = .int .i64 (k : Nat) ∧ Same S T ∧ ShOn W N p T [x] wr ∧ T.ok (j + k)

set_option maxRecDepth 20000 in
set_option maxHeartbeats 16000000 in
theorem law_ShipAgain (l : List ByteArray) (ao : Option Addr) (cap : Nat) (n0 : Int) (W : World) (hs : StrsAt W ao cap l) :
    Calls Try.prog 7 #[.slice ao l.length cap, .int .i64 n0] W (ShOk W) := by
  have HS := Lib.hid hs
  have hfit := hs.fit
  have hmax := hs.max
  unfold maxLen at hmax
  clear hs
  go_enter Try.func7, Try.ntmps7
  go_wp2_with fail
  refine (sh_awake W).mono ?_
  rintro e w0 ⟨rfl, hb0⟩
  have B0 := Lib.hid hb0
  clear hb0
  by_cases h0 : l.length < 1
  · have d0 : decide ((l.length : Int) < 1) = true := decide_eq_true (by omega)
    have HZ := Lib.hid h0
    clear h0
    go_wp2_with fail
    all_goals go_ret
    all_goals exact ⟨rfl, B0.out⟩
  have d0 : decide ((l.length : Int) < 1) = false := decide_eq_false (by omega)
  by_cases h1 : 10 < l.length
  · have d1 : decide ((l.length : Int) > 10) = true := decide_eq_true (by omega)
    have HZ := Lib.hid h0
    clear h0
    go_wp2_with fail
    go_ret
    exact ⟨rfl, B0.out⟩
  have d1 : decide ((l.length : Int) > 10) = false := decide_eq_false (by omega)
  have d1' : decide (10 < l.length) = false := decide_eq_false h1
  by_cases h2 : n0 < 1
  · have d2 : decide (n0 < 1) = true := decide_eq_true h2
    have HZ := Lib.hid h0
    clear h0 h2
    go_wp2_with fail
    go_ret
    exact ⟨rfl, B0.out⟩
  have d2 : decide (n0 < 1) = false := decide_eq_false h2
  by_cases h3 : n0 > 40
  · have d3 : decide (n0 > 40) = true := decide_eq_true h3
    have HZ := Lib.hid h0
    clear h0 h2 h3
    go_wp2_with fail
    go_ret
    exact ⟨rfl, B0.out⟩
  have d3 : decide (n0 > 40) = false := decide_eq_false h3
  obtain ⟨n, rfl⟩ : ∃ n : Nat, n0 = n := ⟨n0.toNat, by omega⟩
  have hn40 : n ≤ 40 := by omega
  have hl10 : l.length ≤ 10 := by omega
  have HZ := Lib.hid h0
  clear h0 h1 h2 h3
  go_wp2_with fail
  refine (so_newz (a := 4) (q := 8) (f := 1) (m := 4) rfl rfl rfl rfl (by decide) (by decide) (by decide) B0.out B0.out.size).mono ?_
  rintro e w1 ⟨p, rfl, hA1⟩
  have T1 := Lib.hid hA1
  have K0 := Lib.hid (show (Sh.new 4 8 1 4).ok 0 from Sh.new_ok (by decide) (by decide) (by decide))
  clear hA1 B0 d0 d1 d1' d2 d3
  go_wp2_with fail
  go_loopw [7] (fun i wr => AgRel W W.heap.size p l.length i wr) (fun i _ => l.length - (intOf i).toNat)
  case atStart => exact ⟨0, _, Nat.zero_le _, rfl, T1.out, K0.out⟩
  case round =>
    obtain ⟨j, S, hj, rfl, hT, hk⟩ := hrel
    by_cases hlt : j < l.length
    · obtain ⟨b0, off, rfl, hbW, -, x0⟩ := HS.out.cell j (.string l[j]) (by rw [List.getElem?_map, List.getElem?_eq_getElem hlt]; rfl)
      have c0 : wr.cell? ⟨b0, off + j, none⟩ = some (.string l[j]) := (hT.be.cell (p := ⟨b0, off + j, none⟩) hbW).trans x0
      have jb : (j : Int) < (l.length : Int) := by omega
      have j0 : (0 : Int) ≤ (j : Int) := by omega
      have T := Lib.hid hT
      have K := Lib.hid hk
      clear hT hk T1 K0 x0
      generalize l[j] = s at *
      by_cases h50 : 50 < s.size
      · have d9 : decide ((s.size : Int) > 50) = true := decide_eq_true (by omega)
        go_wp2_with fail
        go_ret
        exact ⟨rfl, T.out.be⟩
      · have d9 : decide ((s.size : Int) > 50) = false := decide_eq_false (by omega)
        have hcv := Lib.run_convert_string_bytes (P := Try.prog) wr 9 30 5 s Try.underlying9 Try.underlying30 Try.underlying5
        have E4 := Lib.hid (T.out.below (Joins.below_bytesWorld wr.heap.size wr 5 s (Nat.le_refl _)))
        have BD := Lib.hid (body_str3 wr s (by omega))
        have hj5 : j ≤ 500 := by omega
        go_wp2_with fail
        refine (so_pushb E4.out K.out hj5 BD.out (by omega) rfl).mono ?_
        rintro e w5 ⟨a5, c5, rfl, h5⟩
        have E5 := Lib.hid h5
        clear h5 E4 BD hcv T c0
        go_wp2_with fail
        go_roundw
        case rel => exact ⟨j + 1, S.pushed false s, by omega, by go_num, E5.out, K.out.pushed (by omega)⟩
        case measure => simp only [intOf]; omega
    · have hj5 : j ≤ 10 := by omega
      have T := Lib.hid hT
      have K := Lib.hid hk
      clear hT hk T1 K0
      obtain ⟨no, hno⟩ : ∃ no, S.out.length = no := ⟨_, rfl⟩
      obtain ⟨nw, hnw⟩ : ∃ nw, S.waits.length = nw := ⟨_, rfl⟩
      have NO := Lib.hid hno
      have NW := Lib.hid hnw
      clear hno hnw
      go_wp2_with fail
      refine (so_out T.out K.out (by omega)).mono ?_
      rintro e w2 ⟨a2, c2, rfl, h2, -⟩
      rw [NO.out] at h2 ⊢
      have T2 := Lib.hid h2
      clear h2 T
      go_wp2_with fail
      refine (so_waits T2.out K.out (by omega)).mono ?_
      rintro e w3 ⟨a3, c3, rfl, h3, -⟩
      have T3 := Lib.hid h3
      rw [NW.out]
      clear h3 T2
      go_wp2_with fail
      go_loopw [10] (fun i wr => AgRel2 W W.heap.size p S ⟨.slice a2 no c2, S.g, S.out⟩ n j i wr) (fun i _ => n - (intOf i).toNat)
      case atStart => exact ⟨0, S, Nat.zero_le _, rfl, ⟨rfl, rfl, rfl⟩, T3.out, K.out⟩
      case round =>
        obtain ⟨k, S1, hk5, rfl, hsm, hT1, hk1⟩ := hrel
        have T4 := Lib.hid hT1
        have K4 := Lib.hid hk1
        have SM := Lib.hid hsm
        clear hT1 hk1 hsm T3 K
        by_cases hlt5 : k < n
        · have d5 : decide ((k : Int) < (n : Int)) = true := decide_eq_true (by omega)
          have h500 : j + k ≤ 500 := by omega
          go_wp2_with fail
          refine (so_tick T4.out K4.out h500).mono ?_
          rintro e w5 ⟨a5, c5, rfl, h5⟩
          obtain ⟨nt, hnt⟩ : ∃ nt, S1.tickI.length = nt := ⟨_, rfl⟩
          rw [hnt] at h5 ⊢
          have T5 := Lib.hid h5
          have NT := Lib.hid hnt
          have KT := Lib.hid (show S1.tick.ok (j + k + 1) from K4.out.tick)
          have ST := Lib.hid (show Same S S1.tick from ⟨SM.out.1, SM.out.2.1, SM.out.2.2⟩)
          have NN := Lib.hid (show nt ≠ 0 → S1.tickI = S.out ∧ nt = no from fun h => by
            have h1 := hnt
            unfold Sh.tickI at h1 ⊢
            split at h1
            · rename_i hr
              rw [if_pos hr, SM.out.out]
              exact ⟨rfl, by rw [← h1, SM.out.out, NO.out]⟩
            · exact absurd h1.symm h)
          clear h5 hnt T4
          obtain ⟨bb, hbb⟩ : ∃ bb, ((nt : Int) != 0) = bb := ⟨_, rfl⟩
          have hbb2 : (nt != 0) = bb := by rw [← hbb]; exact Bool.eq_iff_iff.2 (by simp)
          have BB := Lib.hid hbb2
          have D2 := Lib.hid (show bb = true → ((nt : Int) != (no : Int)) = false ∧ (nt != no) = false from fun h => by
            have h1 : nt ≠ 0 := by
              rw [h] at hbb2
              simpa using hbb2
            have h2 := (NN.out h1).2
            subst h2
            exact ⟨by simp, by simp⟩)
          go_upto_region 20 with fail
          go_cut [81] from 72 to 81 (fun v wx => v = .bool false ∧ wx = w5)
          case first =>
            cases bb
            · go_wp2_with fail
              go_meet
              exact ⟨rfl, rfl⟩
            · obtain ⟨e1, e2⟩ := D2.out rfl
              go_wp2_with fail
              go_meet
              exact ⟨rfl, rfl⟩
          case rest =>
            obtain ⟨rfl, rfl⟩ := hcut
            clear hbb hbb2
            obtain ⟨ai, ci, LI, e1, e2, r1, bo⟩ := T5.out.it (x := ⟨.slice a5 nt c5, S1.g, S1.tickI⟩) (by simp)
            simp only [Value.slice.injEq] at e1
            obtain ⟨rfl, e1, rfl⟩ := e1
            rw [← e1] at r1
            obtain ⟨ai', ci', LJ, f1, f2, s1, bo2⟩ := T5.out.it (x := ⟨.slice a2 no c2, S.g, S.out⟩) (by simp)
            simp only [Value.slice.injEq] at f1
            obtain ⟨rfl, f1, rfl⟩ := f1
            rw [← f1] at s1
            have hf1 := r1.fit
            have hm1 := r1.max
            unfold maxLen at hm1
            have hf2 := s1.fit
            have hm2 := s1.max
            unfold maxLen at hm2
            have R1 := Lib.hid r1
            have R2 := Lib.hid s1
            have BO := Lib.hid bo
            have BO2 := Lib.hid bo2
            have EI := Lib.hid e2
            have EJ := Lib.hid f2
            have LE := Lib.hid e1
            have LF := Lib.hid f1
            clear r1 s1 bo bo2 e2 f2 e1 f1
            go_wp2_with fail
            go_loopw [12] (fun i2 wr2 => ∃ m q, m ≤ nt ∧ i2 = .int .i64 ((m : Nat) : Int) ∧ wr2 = wc.drewN q) (fun i2 _ => nt - (intOf i2).toNat)
            case atStart => exact ⟨0, 0, Nat.zero_le _, rfl, rfl⟩
            case round =>
              obtain ⟨m, q5, hm5, rfl, rfl⟩ := hrel
              by_cases hlt6 : m < nt
              · obtain ⟨t1, t2⟩ := NN.out (by omega)
                have hk1 : m < LI.length := by rw [← LE.out]; exact hlt6
                have hk2 : m < LJ.length := by rw [← LF.out]; omega
                obtain ⟨u0, u1⟩ := itC_at m S1.g LI hk1
                obtain ⟨v0, v1⟩ := itC_at m S.g LJ hk2
                obtain ⟨b1, o1, rfl, hb1, -, k0⟩ := R1.out.cell _ _ u0
                obtain ⟨b1', o1', e1, -, -, k1⟩ := R1.out.cell _ _ u1
                cases e1
                obtain ⟨b2, o2, rfl, hb2, -, m0⟩ := R2.out.cell _ _ v0
                obtain ⟨b2', o2', e2, -, -, m1⟩ := R2.out.cell _ _ v1
                cases e2
                have hs5 : LI[m].s = LJ[m].s := by
                  have h1 : (LI.map Bd.s)[m]? = some LI[m].s := by rw [List.getElem?_map, List.getElem?_eq_getElem hk1]; rfl
                  have h2 : (LJ.map Bd.s)[m]? = some LJ[m].s := by rw [List.getElem?_map, List.getElem?_eq_getElem hk2]; rfl
                  rw [EI.out, t1, ← EJ.out, h2] at h1
                  exact (Option.some.inj h1).symm
                have hgg : S1.g = S.g := SM.out.2.1
                obtain ⟨num, hnum⟩ : ∃ num, S.g + m + 1 = num := ⟨_, rfl⟩
                rw [hgg, hnum] at k0
                rw [hnum] at m0
                obtain ⟨bd, hbd⟩ : ∃ bd, LI[m] = bd := ⟨_, rfl⟩
                obtain ⟨bd2, hbd2⟩ : ∃ bd2, LJ[m] = bd2 := ⟨_, rfl⟩
                have hB := BO.out LI[m] (List.getElem_mem _)
                have hB2 := BO2.out LJ[m] (List.getElem_mem _)
                rw [hbd] at hs5 k1 hB
                rw [hbd2] at hs5 m1 hB2
                obtain ⟨ab, cb, sb⟩ := bd
                obtain ⟨ab2, cb2, sb2⟩ := bd2
                have hs' : sb = sb2 := hs5
                subst hs'
                have g0 : ∀ q, (wc.drewN q).cell? ⟨b1, o1 + m * 2, none⟩ = some (.int .u64 (num : Int)) := fun _ => k0
                have g1 : ∀ q, (wc.drewN q).cell? ⟨b1, o1 + m * 2 + 1, none⟩ = some (.slice ab sb.size cb) := fun _ => k1
                have g2 : ∀ q, (wc.drewN q).cell? ⟨b2, o2 + m * 2, none⟩ = some (.int .u64 (num : Int)) := fun _ => m0
                have g3 : ∀ q, (wc.drewN q).cell? ⟨b2, o2 + m * 2 + 1, none⟩ = some (.slice ab2 sb.size cb2) := fun _ => m1
                have g4 : wc.cell? ⟨b1, o1 + m * 2, none⟩ = some (.int .u64 (num : Int)) := k0
                have g5 : wc.cell? ⟨b1, o1 + m * 2 + 1, none⟩ = some (.slice ab sb.size cb) := k1
                have g6 : wc.cell? ⟨b2, o2 + m * 2, none⟩ = some (.int .u64 (num : Int)) := m0
                have g7 : wc.cell? ⟨b2, o2 + m * 2 + 1, none⟩ = some (.slice ab2 sb.size cb2) := m1
                have cv : ∀ q, (convert 30 9 (.slice ab sb.size cb)).run Try.prog (wc.drewN q) = .ok (.string sb) (wc.drewN q) := fun q => by
                  have := conv_any (w := wc.drewN q) (hB.1.below ⟨rfl, rfl, rfl, Nat.le_refl _, fun _ _ => rfl⟩) (bsN_len sb)
                  rw [strB_bsN] at this
                  exact this
                have cv2 : ∀ q, (convert 30 9 (.slice ab2 sb.size cb2)).run Try.prog (wc.drewN q) = .ok (.string sb) (wc.drewN q) := fun q => by
                  have := conv_any (w := wc.drewN q) (hB2.1.below ⟨rfl, rfl, rfl, Nat.le_refl _, fun _ _ => rfl⟩) (bsN_len sb)
                  rw [strB_bsN] at this
                  exact this
                have i5 : (0 : Int) ≤ (m : Int) := by omega
                have i6 : (m : Int) < (nt : Int) := by omega
                have i7 : (m : Int) < (no : Int) := by omega
                clear u0 u1 v0 v1 k0 k1 m0 m1 hs5 hbd hbd2 hB hB2 hk1 hk2 hnum hgg t1 t2
                go_wp2_with fail
                go_quiet (fail)
                go_wp2_with fail
                go_roundw
                case rel => exact ⟨m + 1, _, by omega, by go_num, rfl⟩
                case measure => simp only [intOf]; omega
              · obtain rfl : m = nt := by omega
                have dk : decide ((m : Int) < (m : Int)) = false := decide_eq_false (by omega)
                have T6 := Lib.hid ((T5.out.drewN q5).fewer (L' := [⟨.slice a2 no c2, S.g, S.out⟩]) (fun _ hx => List.mem_cons_of_mem _ hx))
                generalize wc.drewN q5 = w6 at *
                have OL := Lib.hid (show S1.tick.out.length = no by rw [ST.out.out]; exact NO.out)
                have WL := Lib.hid (show S1.tick.waits.length = nw by rw [ST.out.waits]; exact NW.out)
                have h501 : j + k + 1 ≤ 500 := by omega
                clear T5
                go_wp2_with fail
                refine (so_out T6.out KT.out h501).mono ?_
                rintro e w7 ⟨a7, c7, rfl, h7, -⟩
                have T7 := Lib.hid (h7.fewer (L' := [⟨.slice a2 no c2, S.g, S.out⟩]) (fun _ hx => List.mem_cons_of_mem _ hx))
                rw [OL.out]
                clear h7 T6
                go_wp2_with fail
                refine (so_waits T7.out KT.out h501).mono ?_
                rintro e w8 ⟨a8, c8, rfl, h8, -⟩
                have T8 := Lib.hid h8
                rw [WL.out]
                clear h8 T7
                go_wp2_with fail
                go_roundw
                case rel => exact ⟨k + 1, S1.tick, by omega, by go_num, ST.out, T8.out, KT.out⟩
                case measure => simp only [intOf]; omega
        · have d5 : decide ((k : Int) < (n : Int)) = false := decide_eq_false (by omega)
          go_wp2_with fail
          go_ret
          exact ⟨rfl, T4.out.be⟩

end Go.Proofs.Ytmahbmmeeifaiaa
