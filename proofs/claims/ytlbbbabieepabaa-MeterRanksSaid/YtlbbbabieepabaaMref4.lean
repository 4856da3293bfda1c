/-
  What the document's own meter tells: its finite ones, sums, means, ranks.
-/
import Derived.Test.YtlbbbabieepabaaMref3
namespace Go.Proofs.Ytlbbbabieepabaa
open Go.RowKit

set_option maxHeartbeats 2000000 in
theorem finite_any (W : World) (N r : Nat) (G : Nat → Prop) (xs : List Nat) (h : RefAt W N r G xs) (hn : xs.length ≤ 90) :
    Calls Try.prog 24 #[.pointer (some ⟨r, 0, none⟩)] W (ListPost W (finL xs)) := by
  obtain ⟨i0, hi0, hz0, hz1, hz2⟩ := info_parts Try.infoF
  have hrW := (h.low r h.inR).2
  obtain ⟨ao, cap, hc, hare⟩ := h.are
  have AR := Lib.hid hare
  clear h hare
  go_enter Try.func24, Try.ntmps24
  go_wp2_with fail
  go_loopw [3, 4] (fun s i wr => FiltRel W finB xs s i wr) (fun _ i _ => xs.length - (intOf i).toNat)
  case atStart => exact ⟨0, [], none, 0, Nat.zero_le _, rfl, rfl, World.ownsRow_nil .., Below.refl _ _, rfl⟩
  case round =>
    obtain ⟨k, ys, a, c, hk, rfl, rfl, hO, hB, hy⟩ := hrel
    have hyl : ys.length ≤ 90 := by rw [hy]; exact Nat.le_trans (List.length_filter_le ..) (Nat.le_trans (List.length_take_le ..) (by omega))
    have k0 := (hB.cell (p := ⟨r, 0, none⟩) hrW).trans hc
    have HO := Lib.hid hO
    have HB := Lib.hid hB
    have HY := Lib.hid hy
    clear hO hB hy
    by_cases hlt : k < xs.length
    · obtain ⟨b, off, rfl, hbW, hcx⟩ := AR.out.2 k hlt
      have hx := AR.out.1 xs[k] (List.getElem_mem hlt)
      have k1 := (HB.out.cell (p := ⟨b, off + k, none⟩) hbW).trans hcx
      have c0 := fin_cls xs[k] hx
      have NX := Lib.hid (fun (p : finB xs[k] = true) {v2 : Value} {w2 : World} {o : Obj} (h1 : w2.ownsRow W.heap.size 28 1 v2 (ys.length + 1) (ys.map fV ++ [fV xs[k]])) (h2 : (wr.alloc o).grownBy w2 (Value.slice a ys.length c).ownBlock) => filt_next hlt HB.out HO.out HY.out p h1 h2)
      have NF := Lib.hid (fun (p : finB xs[k] = false) => (show FiltRel W finB xs (.slice a ys.length c) (.int .i64 ((k + 1 : Nat) : Int)) wr from ⟨k + 1, ys, a, c, by omega, rfl, rfl, HO.out, HB.out, by rw [filter_take finB xs k hlt, p, HY.out]; simp⟩))
      generalize hq : xs[k] = q at *
      clear hq hcx
      cases d1 : decide (2 ≤ cls q)
      · have R := Lib.hid (NF.out (by rw [c0, d1]; rfl))
        clear c0
        go_wp2_with (go_at_call 15; refine (rclass_any q _ hx).mono ?_; rintro e w' ⟨rfl, rfl⟩)
        go_roundw
        case rel => exact R.out
        case measure => simp [intOf]; omega
      · have e1 : (2 : Int) ≤ cls q := of_decide_eq_true d1
        cases d2 : decide (cls q ≤ 5)
        · have R := Lib.hid (NF.out (by rw [c0, d1, d2]; rfl))
          clear c0
          go_wp2_with (go_at_call 15; refine (rclass_any q _ hx).mono ?_; rintro e w' ⟨rfl, rfl⟩)
          go_roundw
          case rel => exact R.out
          case measure => simp [intOf]; omega
        · have e2 : cls q ≤ (5 : Int) := of_decide_eq_true d2
          have P := Lib.hid (show finB q = true by rw [c0, d1, d2]; rfl)
          clear c0
          go_wp2_with (first
            | (go_at_call 15; refine (rclass_any q _ hx).mono ?_; rintro e w' ⟨rfl, rfl⟩)
            | (at_builtin; refine wpList_append_own _ rfl (.tmp 29) (.tmp 37) 34 rfl W.heap.size 28 i0 (.float .f64 0) 1 8 Try.underlying34 hi0 hz0 hz1 hz2 rfl (by decide) _ _ _ rfl (World.ownsRow.alloc HO.out _) ⟨wr.heap.size, 0, none⟩ 1 1 [fV q] rfl rfl (World.news_of_block (heap_alloc_new _ _)) (by simp [fV, Value.oneCell']) (by unfold maxLen; omega) (by omega) (by have := HB.out.size; simp; omega) ?_
               intro v2 w2 hown2 hgr2 _
               have R := Lib.hid (NX.out P.out hown2 hgr2)
               clear hown2 hgr2))
          go_roundw
          case rel => exact R.out
          case measure => simp [intOf]; omega
    · have E := Lib.hid (filt_end (by omega) AR.out.1 HB.out HO.out HY.out)
      go_wp2_with fail
      go_ret
      exact E.out

/-- A float that is like c, somewhere above what was. -/
def RefFloat (W : World) (c : Nat) (e : Ending) (w' : World) : Prop := ∃ r, e = .returned (.float .f64 r) ∧ Hid (Sim r c) ∧ Hid (r < 18446744073709551616) ∧ Below W.heap.size W w'

theorem sumN_take (ys : List Nat) (k : Nat) (h : k < ys.length) : sumN (ys.take (k + 1)) = plusN (sumN (ys.take k)) ys[k] := by
  rw [List.take_succ_eq_append_getElem h, sumN_snoc]

set_option maxHeartbeats 2000000 in
theorem rsum_any (W : World) (N r : Nat) (G : Nat → Prop) (xs : List Nat) (h : RefAt W N r G xs) (hn : xs.length ≤ 90) :
    Calls Try.prog 26 #[.pointer (some ⟨r, 0, none⟩)] W (RefFloat W (sumN (numsL xs))) := by
  have H := Lib.hid h
  clear h
  go_enter Try.func26, Try.ntmps26
  go_wp2_with fail
  refine (numbers_any W N r G xs H.out hn).mono ?_
  rintro e w1 ⟨v, rfl, hv, hb⟩
  have hyl : (numsL xs).length ≤ 90 := Nat.le_trans (List.length_filter_le ..) hn
  generalize numsL xs = ys at *
  obtain ⟨ao, cap, rfl, hare⟩ := hv.are
  have AR := Lib.hid hare
  have B1 := Lib.hid hb
  clear hv hare hb
  go_wp2_with fail
  go_loopw [3, 5] (fun s i wr => ∃ (k s' q : Nat), k ≤ ys.length ∧ i = .int .i64 (k : Nat) ∧ s = .float .f64 s' ∧ Hid (Sim s' (sumN (ys.take k))) ∧ Hid (s' < 18446744073709551616) ∧ wr = w1.drewN q) (fun _ i _ => ys.length - (intOf i).toNat)
  case atStart => exact ⟨0, 0, 0, Nat.zero_le _, rfl, rfl, Sim.refl _, (show (0 : Nat) < 18446744073709551616 by decide), rfl⟩
  case round =>
    obtain ⟨k, s', q, hk, rfl, rfl, S, L, rfl⟩ := hrel
    by_cases hlt : k < ys.length
    · obtain ⟨b, off, rfl, hbW, hcx⟩ := AR.out.2 k hlt
      have T := Lib.hid (sumN_take ys k hlt)
      generalize hq : ys[k] = x at *
      clear hq
      obtain ⟨r2, q2, e2, s2, l2⟩ := op_run .add rfl 28 s' x (w1.drewN q)
      rw [World.drewN_drewN] at e2
      have R2 : Hid (Sim r2 (sumN (ys.take (k + 1)))) := by rw [T.out]; exact s2.trans (opN_sim .add rfl S.out (Sim.refl x))
      have L2 := Lib.hid l2
      clear s2 l2
      go_wp2_with fail
      go_roundw
      case rel => exact ⟨k + 1, r2, q + q2, by omega, by go_num, rfl, R2, L2, rfl⟩
      case measure => simp [intOf]; omega
    · have R2 : Hid (Sim s' (sumN ys)) := by have := S.out; rwa [show k = ys.length by omega, List.take_length] at this
      go_wp2_with fail
      go_ret
      exact ⟨s', rfl, R2, L, below_drewN B1.out q⟩

set_option maxHeartbeats 2000000 in
theorem rmean_any (W : World) (N r : Nat) (G : Nat → Prop) (xs : List Nat) (h : RefAt W N r G xs) (hn : xs.length ≤ 90) :
    Calls Try.prog 27 #[.pointer (some ⟨r, 0, none⟩)] W (RefFloat W (meanN (numsL xs))) := by
  have H := Lib.hid h
  clear h
  go_enter Try.func27, Try.ntmps27
  go_wp2_with fail
  refine (numbers_any W N r G xs H.out hn).mono ?_
  rintro e w1 ⟨v, rfl, hv, hb⟩
  have H1 := Lib.hid (H.out.below hb)
  obtain ⟨ao, cap, rfl, _⟩ := hv.are
  have B1 := Lib.hid hb
  clear hv hb H
  by_cases h0 : (numsL xs).length = 0
  · have d : (((numsL xs).length : Int) == 0) = true := by rw [h0]; rfl
    have H0 := Lib.hid h0
    clear h0
    go_wp2_with (go_at_call 12; refine (nan_any _).mono ?_; rintro e w' ⟨rfl, rfl⟩)
    go_ret
    exact ⟨nanW, rfl, by unfold meanN; rw [if_pos H0.out]; exact Sim.refl _, (show nanW < 18446744073709551616 by decide), B1.out⟩
  · have d : (((numsL xs).length : Int) == 0) = false := by rw [beq_eq_false_iff_ne]; omega
    have H0 := Lib.hid h0
    clear h0
    go_wp2_with fail
    refine (rsum_any w1 N r G xs H1.out hn).mono ?_
    rintro e w2 ⟨s, rfl, S, L, hb2⟩
    obtain ⟨r2, q2, e2, s2, l2⟩ := op_run .quo rfl 28 s (floatOfInt .f64 ((numsL xs).length : Nat)) w2
    have B2 := Lib.hid (B1.out.trans (hb2.mono B1.out.size))
    have R2 : Hid (Sim r2 (meanN (numsL xs))) := by unfold meanN; rw [if_neg H0.out]; exact s2.trans (opN_sim .quo rfl S.out (Sim.refl _))
    have L2 := Lib.hid l2
    clear s2 l2 hb2
    go_wp2_with fail
    go_ret
    exact ⟨r2, rfl, R2, L2, below_drewN B2.out _⟩

theorem smoothN_take (ys : List Nat) (k : Nat) (h : k < ys.length) : smoothN (ys.take (k + 1)) = if k = 0 then ys[k] else smoothS (smoothN (ys.take k)) ys[k] := by
  rw [List.take_succ_eq_append_getElem h, smoothN_snoc, List.length_take, Nat.min_eq_left (by omega)]

set_option maxHeartbeats 2000000 in
theorem rsmooth_any (W : World) (N r : Nat) (G : Nat → Prop) (xs : List Nat) (h : RefAt W N r G xs) (hn : xs.length ≤ 90) :
    Calls Try.prog 30 #[.pointer (some ⟨r, 0, none⟩)] W (RefFloat W (smoothN (finL xs))) := by
  have H := Lib.hid h
  clear h
  go_enter Try.func30, Try.ntmps30
  go_wp2_with fail
  refine (finite_any W N r G xs H.out hn).mono ?_
  rintro e w1 ⟨v, rfl, hv, hb⟩
  have hyl : (finL xs).length ≤ 90 := Nat.le_trans (List.length_filter_le ..) hn
  generalize finL xs = ys at *
  obtain ⟨ao, cap, rfl, hare⟩ := hv.are
  have AR := Lib.hid hare
  have B1 := Lib.hid hb
  clear hv hare hb
  go_wp2_with fail
  go_loopw [4, 5] (fun s i wr => ∃ (k s' q : Nat), k ≤ ys.length ∧ i = .int .i64 (k : Nat) ∧ s = .float .f64 s' ∧ Hid (Sim s' (smoothN (ys.take k))) ∧ Hid (s' < 18446744073709551616) ∧ wr = w1.drewN q) (fun _ i _ => ys.length - (intOf i).toNat)
  case atStart => exact ⟨0, 0, 0, Nat.zero_le _, rfl, rfl, Sim.refl _, (show (0 : Nat) < 18446744073709551616 by decide), rfl⟩
  case round =>
    obtain ⟨k, s', q, hk, rfl, rfl, S, L, rfl⟩ := hrel
    by_cases hlt : k < ys.length
    · obtain ⟨b, off, rfl, hbW, hcx⟩ := AR.out.2 k hlt
      have hx := Lib.hid (AR.out.1 ys[k] (List.getElem_mem hlt))
      have T := Lib.hid (smoothN_take ys k hlt)
      generalize hq : ys[k] = x at *
      clear hq
      by_cases h0 : k = 0
      · have d : ((k : Int) == 0) = true := by rw [h0]; rfl
        have R2 : Hid (Sim x (smoothN (ys.take (k + 1)))) := by rw [T.out, if_pos h0]; exact Sim.refl _
        clear h0
        go_wp2_with fail
        go_roundw
        case rel => exact ⟨k + 1, x, q, by omega, by go_num, rfl, R2, hx, rfl⟩
        case measure => simp [intOf]; omega
      · have d : ((k : Int) == 0) = false := by rw [beq_eq_false_iff_ne]; omega
        obtain ⟨r1, q1, e1, s1, l1⟩ := op_run .sub rfl 28 x s' (w1.drewN q)
        rw [World.drewN_drewN] at e1
        obtain ⟨r2, q2, e2, s2, l2⟩ := op_run .quo rfl 28 r1 eightW (w1.drewN (q + q1))
        rw [World.drewN_drewN] at e2
        obtain ⟨r3, q3, e3, s3, l3⟩ := op_run .add rfl 28 s' r2 (w1.drewN (q + q1 + q2))
        rw [World.drewN_drewN] at e3
        have e2' : (binOp .quo 28 (.float .f64 r1) (.float .f64 4620693217682128896)).run Try.prog (w1.drewN (q + q1)) = .ok (.float .f64 r2) (w1.drewN (q + q1 + q2)) := e2
        have R2 : Hid (Sim r3 (smoothN (ys.take (k + 1)))) := by
          rw [T.out, if_neg h0]
          refine s3.trans (opN_sim .add rfl S.out ?_)
          exact s2.trans (opN_sim .quo rfl (s1.trans (opN_sim .sub rfl (Sim.refl x) S.out)) (Sim.refl _))
        have L3 := Lib.hid l3
        clear h0 s1 s2 s3 l1 l2 l3 e2
        go_wp2_with fail
        go_roundw
        case rel => exact ⟨k + 1, r3, q + q1 + q2 + q3, by omega, by go_num, rfl, R2, L3, rfl⟩
        case measure => simp [intOf]; omega
    · have R2 : Hid (Sim s' (smoothN ys)) := by have := S.out; rwa [show k = ys.length by omega, List.take_length] at this
      go_wp2_with fail
      go_ret
      exact ⟨s', rfl, R2, L, below_drewN B1.out q⟩

theorem rankN_take (xs : List Nat) (x k : Nat) (h : k < xs.length) : rankN (xs.take (k + 1)) x = rankN (xs.take k) x + (if decide (keyN xs[k] < keyN x) then 1 else 0) := by
  unfold rankN
  rw [List.take_succ_eq_append_getElem h, List.countP_append]
  simp [List.countP_cons]

set_option maxHeartbeats 2000000 in
theorem rrank_any (W : World) (N r : Nat) (G : Nat → Prop) (xs : List Nat) (x : Nat) (h : RefAt W N r G xs) (hx : x < 18446744073709551616) (hn : xs.length ≤ 90) :
    Calls Try.prog 31 #[.pointer (some ⟨r, 0, none⟩), .float .f64 x] W fun e w' => e = .returned (.int .i64 (rankN xs x : Nat)) ∧ W = w' := by
  obtain ⟨ao, cap, hc, hare⟩ := h.are
  have AR := Lib.hid hare
  clear h hare
  go_enter Try.func31, Try.ntmps31
  go_wp2_with fail
  go_loop [5, 6] (fun n i => ∃ k : Nat, k ≤ xs.length ∧ i = .int .i64 (k : Nat) ∧ n = .int .i64 (rankN (xs.take k) x : Nat)) (fun _ i => xs.length - (intOf i).toNat)
  case atStart => exact ⟨0, Nat.zero_le _, rfl, rfl⟩
  case round =>
    obtain ⟨k, hk, rfl, rfl⟩ := hrel
    have hr : rankN (xs.take k) x ≤ 90 := Nat.le_trans List.countP_le_length (Nat.le_trans (List.length_take_le ..) (by omega))
    by_cases hlt : k < xs.length
    · obtain ⟨b, off, rfl, hbW, hcx⟩ := AR.out.2 k hlt
      have hb := AR.out.1 xs[k] (List.getElem_mem hlt)
      have T := Lib.hid (rankN_take xs x k hlt)
      generalize hq : xs[k] = q at *
      clear hq
      have cn := cmp_neg q x
      generalize hrr : rankN (xs.take k) x = rr at *
      have RR := Lib.hid hrr
      clear hrr
      cases hd : decide (keyN q < keyN x)
      · rw [hd] at cn
        have E := Lib.hid (show rankN (xs.take (k + 1)) x = rr by rw [T.out, hd]; simp)
        clear hd
        go_wp2_with (go_at_call 32; refine (rcmp_any q x _ hb hx).mono ?_; rintro e w' ⟨rfl, rfl⟩)
        go_round
        case rel => exact ⟨k + 1, by omega, by go_num, by rw [E.out]⟩
        case measure => simp [intOf]; omega
      · rw [hd] at cn
        have E := Lib.hid (show rankN (xs.take (k + 1)) x = rr + 1 by rw [T.out, hd]; simp)
        clear hd
        go_wp2_with (go_at_call 32; refine (rcmp_any q x _ hb hx).mono ?_; rintro e w' ⟨rfl, rfl⟩)
        go_round
        case rel => exact ⟨k + 1, by omega, by go_num, by rw [E.out]; go_num⟩
        case measure => simp [intOf]; omega
    · have e : rankN (xs.take k) x = rankN xs x := by rw [show k = xs.length by omega, List.take_length]
      rw [e]
      clear e
      go_wp2_with fail
      go_ret
      exact ⟨rfl, rfl⟩

end Go.Proofs.Ytlbbbabieepabaa
