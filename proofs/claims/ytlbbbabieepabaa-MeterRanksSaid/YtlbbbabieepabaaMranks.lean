/-
  Of small whole numbers: sums, means, ranks: the walk of the statement.
-/
import Derived.Test.YtlbbbabieepabaaMint2
import Derived.Test.YtlbbbabieepabaaMsays
namespace Go.Proofs.Ytlbbbabieepabaa
open Go.RowKit

/-- A row of small whole numbers that came in, told place by place: nil or not. -/
def AreI (w : World) (ao : Option Addr) (zs : List Int) : Prop := Smalls zs ∧ ∀ i (hi : i < zs.length), ∃ b off, ao = some ⟨b, off, none⟩ ∧ b < w.heap.size ∧ w.cell? ⟨b, off + i, none⟩ = some (.int .i16 zs[i])
def IsSmalls (w : World) (v : Value) (zs : List Int) : Prop := ∃ ao cap, v = .slice ao zs.length cap ∧ AreI w ao zs

def RanksRel (W : World) (zs : List Int) (p : Nat) (s i : Value) (w : World) : Prop :=
  ∃ (k : Nat) (F : Nat → Prop), k ≤ zs.length ∧ i = .int .i64 (k : Nat) ∧ s = .int .i64 (sumI (zs.take k)) ∧ MeterAt w W.heap.size p F ((zs.take k).map fI) ∧ Below W.heap.size W w

theorem small_take {zs : List Int} (hs : Smalls zs) (k : Nat) : Smalls (zs.take k) := fun x hx => hs x (List.mem_of_mem_take hx)
theorem maps_lt {zs : List Int} (hs : Smalls zs) : ∀ y ∈ zs.map fI, y < 18446744073709551616 := by
  intro y hy
  obtain ⟨x, hx, rfl⟩ := List.mem_map.1 hy
  exact (small_whole (hs x hx)).lt

set_option maxRecDepth 100000 in
set_option maxHeartbeats 8000000 in
theorem law_MeterRanks (v : Value) (x y : Nat) (W : World) (zs : List Int) (hv : IsSmalls W v zs) (hx : x < 18446744073709551616) (hy : y < 18446744073709551616) :
    Calls Try.prog 5 #[v, .float .f64 x, .float .f64 y] W fun e w' => e = .returned (.bool true) ∧ Below W.heap.size W w' := by
  obtain ⟨ao, cap, rfl, hzs⟩ := hv
  have X := Lib.hid hzs
  clear hzs
  by_cases h1 : zs.length < 1
  · have d : decide ((zs.length : Int) < 1) = true := by simp; omega
    have t1 : (zs.length : Int) < 1 := by omega
    go_enter Try.func5, Try.ntmps5
    go_wp2_with fail
    refine (awake_any W).mono ?_
    rintro e w0 ⟨rfl, hb0⟩
    have B0 := Lib.hid hb0
    clear hb0
    go_wp2_with fail
    go_ret
    exact ⟨rfl, B0.out⟩
  by_cases h2 : zs.length ≤ 60
  · have t1 : ¬ (zs.length : Int) < 1 := by omega
    have t2 : ¬ (60 : Int) < (zs.length : Int) := by omega
    have OK := Lib.hid (ranks_ok zs X.out.1 (by intro e; rw [e] at h1; simp at h1) h2)
    go_enter Try.func5, Try.ntmps5
    go_wp2_with fail
    refine (awake_any W).mono ?_
    rintro e w0 ⟨rfl, hb0⟩
    have B0 := Lib.hid hb0
    clear hb0
    go_wp2_with fail
    refine (new_any w0 W.heap.size B0.out.size).mono ?_
    rintro e w1 ⟨rfl, hA1, hb1⟩
    have R0 : Hid (RanksRel W zs w0.heap.size (.int .i64 0) (.int .i64 ((0 : Nat) : Int)) w1) := ⟨0, _, Nat.zero_le _, rfl, rfl, hA1, B0.out.trans (hb1.mono B0.out.size)⟩
    generalize w0.heap.size = p at *
    clear hA1 hb1
    go_wp2_with fail
    go_loopw [8, 9] (fun s i wr => RanksRel W zs p s i wr) (fun _ i _ => zs.length - (intOf i).toNat)
    case atStart => exact R0.out
    case round =>
      obtain ⟨k, F, hk, rfl, rfl, hA, hW⟩ := hrel
      have HA := Lib.hid hA
      have HW := Lib.hid hW
      have hsk := sumI_le (zs.take k) (small_take X.out.1 k)
      have hlk : (zs.take k).length ≤ 60 := Nat.le_trans (List.length_take_le ..) (by omega)
      clear hA hW
      by_cases hlt : k < zs.length
      · obtain ⟨b, off, rfl, hbW, hc⟩ := X.out.2 k hlt
        have hz := X.out.1 zs[k] (List.getElem_mem hlt)
        have TL := Lib.hid (maps_lt (small_take X.out.1 k))
        have hL : zs.take (k + 1) = zs.take k ++ [zs[k]] := List.take_succ_eq_append_getElem hlt
        have hS : sumI (zs.take (k + 1)) = sumI (zs.take k) + zs[k] := by rw [hL, sumI_snoc]
        have HM := Lib.hid (show (zs.take (k + 1)).map fI = (zs.take k).map fI ++ [fI zs[k]] by rw [hL, List.map_append]; rfl)
        have HS := Lib.hid hS
        have C := Lib.hid hc
        have hcx := (HW.out.cell (p := ⟨b, off + k, none⟩) hbW).trans hc
        have ZL := Lib.hid ((small_whole hz).lt)
        clear hL hS hc
        generalize hq : zs[k] = z at *
        generalize hsu : sumI (zs.take k) = su at *
        clear hq hsu
        have b1 : -2000000 ≤ su := by omega
        have b2 : su ≤ 2000000 := by omega
        clear hsk
        go_wp2_with fail
        refine (add_over HA.out (fI z) ZL.out TL.out (by simp; omega) (Nat.le_refl _) HW.out).mono ?_
        rintro e w2 ⟨rfl, F', hA', _, hW'⟩
        rw [← HM.out] at hA'
        have hcx2 := (hW'.cell (p := ⟨b, off + k, none⟩) hbW).trans C.out
        have R : Hid (RanksRel W zs p (.int .i64 (su + z)) (.int .i64 ((k + 1 : Nat) : Int)) w2) := ⟨k + 1, F', by omega, rfl, by rw [HS.out], hA', hW'⟩
        clear hA' hW' hcx
        go_wp2_with fail
        go_roundw
        case rel => exact R.out
        case measure => simp [intOf]; omega
      · have hke : k = zs.length := by omega
        have eL : zs.take k = zs := by rw [hke, List.take_length]
        have HA := Lib.hid (show MeterAt wr W.heap.size p F (zs.map fI) by have := HA.out; rwa [eL] at this)
        rw [eL] at hsk
        rw [eL]
        have LN := Lib.hid (show (zs.map fI).length ≤ 90 by simp; omega)
        have b1 : -2000000 ≤ sumI zs := by omega
        have b2 : sumI zs ≤ 2000000 := by omega
        clear hsk hlk eL hke
        generalize hsu : sumI zs = su at *
        have SU := Lib.hid hsu
        clear hsu
        go_wp2_with fail
        refine (float_known (sum_any wr _ _ _ _ HA.out)).mono ?_
        rintro e w' ⟨r1, rfl, s1, l1, rfl⟩
        have o1 : (FloatKind.f64.format.order r1 (floatOfInt .f64 su) != some .eq) = false := by
          have h := s1.out
          rw [OK.out.nums, OK.out.sum] at h
          rw [h.eq OK.out.sumNan]
          have h2 := order_same OK.out.sumLt OK.out.sumLt OK.out.sumNan OK.out.sumNan rfl
          rw [SU.out] at h2 ⊢
          show (!(FloatKind.f64.format.order (fI su) (fI su) == some .eq)) = false
          rw [h2]; rfl
        go_wp2_with fail
        refine (float_drew (mean_any wr _ _ _ _ HA.out)).mono ?_
        rintro e w' ⟨r2, q2, rfl, s2, l2, rfl⟩
        have m2 := Lib.hid (show r2 = meanN (zs.map fI) by have h := s2.out; rw [OK.out.nums] at h; exact h.eq OK.out.meanNan)
        have A2 := Lib.hid (HA.out.drewN q2)
        have W2 := Lib.hid (below_drewN HW.out q2)
        generalize wr.drewN q2 = w2 at *
        clear HA HW
        go_wp2_with fail
        refine (least_any w2 _ _ _ _ A2.out).mono ?_
        rintro e w' ⟨rfl, rfl⟩
        rw [OK.out.nums]
        have o2 : (FloatKind.f64.format.order r2 (minN (zs.map fI)) == some .lt) = false := by rw [m2.out]; exact not_lt (by rw [← m2.out]; exact l2.out) OK.out.leastLt OK.out.meanNan OK.out.leastNan OK.out.mean1
        go_wp2_with fail
        refine (float_drew (mean_any w2 _ _ _ _ A2.out)).mono ?_
        rintro e w' ⟨r3, q3, rfl, s3, l3, rfl⟩
        have m3 := Lib.hid (show r3 = meanN (zs.map fI) by have h := s3.out; rw [OK.out.nums] at h; exact h.eq OK.out.meanNan)
        have A3 := Lib.hid (A2.out.drewN q3)
        have W3 := Lib.hid (below_drewN W2.out q3)
        generalize w2.drewN q3 = w3 at *
        clear A2 W2
        go_wp2_with fail
        refine (most_any w3 _ _ _ _ A3.out).mono ?_
        rintro e w' ⟨rfl, rfl⟩
        rw [OK.out.nums]
        have o3 : (FloatKind.f64.format.order r3 (maxN (zs.map fI)) == some .gt) = false := by rw [m3.out]; exact not_gt (by rw [← m3.out]; exact l3.out) OK.out.mostLt OK.out.meanNan OK.out.mostNan OK.out.mean2
        go_wp2_with fail
        refine (float_known (smooth_any w3 _ _ _ _ A3.out)).mono ?_
        rintro e w' ⟨r4, rfl, s4, l4, rfl⟩
        have m4 := Lib.hid (show r4 = smoothN (zs.map fI) by have h := s4.out; rw [OK.out.fins] at h; exact h.eq OK.out.smoothNan)
        have o4 : (FloatKind.f64.format.order r4 (minN (zs.map fI)) == some .lt) = false := by rw [m4.out]; exact not_lt OK.out.smoothLt OK.out.leastLt OK.out.smoothNan OK.out.leastNan OK.out.smooth1
        go_wp2_with fail
        refine (least_any w3 _ _ _ _ A3.out).mono ?_
        rintro e w' ⟨rfl, rfl⟩
        rw [OK.out.nums]
        go_wp2_with fail
        refine (float_known (smooth_any w3 _ _ _ _ A3.out)).mono ?_
        rintro e w' ⟨r5, rfl, s5, l5, rfl⟩
        have m5 := Lib.hid (show r5 = smoothN (zs.map fI) by have h := s5.out; rw [OK.out.fins] at h; exact h.eq OK.out.smoothNan)
        have o5 : (FloatKind.f64.format.order r5 (maxN (zs.map fI)) == some .gt) = false := by rw [m5.out]; exact not_gt OK.out.smoothLt OK.out.mostLt OK.out.smoothNan OK.out.mostNan OK.out.smooth2
        go_wp2_with fail
        refine (most_any w3 _ _ _ _ A3.out).mono ?_
        rintro e w' ⟨rfl, rfl⟩
        rw [OK.out.nums]
        go_wp2_with fail
        refine (rcmp_any x y w3 hx hy).mono ?_
        rintro e w' ⟨rfl, rfl⟩
        have cp := cmp_pos x y
        clear o1 o2 o3 o4 o5 s1 s2 s3 s4 s5 l1 l2 l3 l4 l5 m2 m3 m4 m5
        by_cases hk2 : keyN y < keyN x
        · have d : decide (cmpN x y ≤ 0) = false := by
            have : decide (0 < cmpN x y) = true := by rw [cp]; simpa using hk2
            have := of_decide_eq_true this
            simp; omega
          clear hk2 cp
          go_wp2_with fail
          refine (least_any w3 _ _ _ _ A3.out).mono ?_
          rintro e w' ⟨rfl, rfl⟩
          rw [OK.out.nums]
          go_wp2_with fail
          refine (rank_any w3 _ _ _ _ (minN (zs.map fI)) A3.out OK.out.leastLt LN.out).mono ?_
          rintro e w' ⟨rfl, q8, rfl⟩
          rw [OK.out.nums, OK.out.rank0]
          go_wp2_with (go_at_call 13; refine (inf_pos _).mono ?_; rintro e w' ⟨rfl, rfl⟩)
          refine (rank_any (w3.drewN q8) _ _ _ _ 9218868437227405312 (A3.out.drewN q8) (by decide) LN.out).mono ?_
          rintro e w' ⟨rfl, q9, rfl⟩
          rw [OK.out.nums, OK.out.rankAll]
          go_wp2_with fail
          go_ret
          exact ⟨rfl, below_drewN W3.out _⟩
        · have t : cmpN x y ≤ 0 := by
            have : decide (0 < cmpN x y) = false := by rw [cp]; simpa using hk2
            have := of_decide_eq_false this
            omega
          have hrk := rank_le (zs.map fI) (show keyN x ≤ keyN y by omega)
          have RL := Lib.hid hrk
          clear hk2 cp hrk
          go_wp2_with fail
          refine (rank_any w3 _ _ _ _ x A3.out hx LN.out).mono ?_
          rintro e w' ⟨rfl, q6, rfl⟩
          rw [OK.out.nums]
          have A6 := Lib.hid (A3.out.drewN q6)
          have W6 := Lib.hid (below_drewN W3.out q6)
          generalize w3.drewN q6 = w6 at *
          clear A3 W3
          go_wp2_with fail
          refine (rank_any w6 _ _ _ _ y A6.out hy LN.out).mono ?_
          rintro e w' ⟨rfl, q7, rfl⟩
          rw [OK.out.nums]
          have hrk := RL.out
          generalize rankN (zs.map fI) x = rx at *
          generalize rankN (zs.map fI) y = ry at *
          have t2 : ¬ (ry : Int) < (rx : Int) := by omega
          have A3 := Lib.hid (A6.out.drewN q7)
          have W3 := Lib.hid (below_drewN W6.out q7)
          generalize w6.drewN q7 = w3 at *
          clear A6 W6 hrk
          go_wp2_with fail
          refine (least_any w3 _ _ _ _ A3.out).mono ?_
          rintro e w' ⟨rfl, rfl⟩
          rw [OK.out.nums]
          go_wp2_with fail
          refine (rank_any w3 _ _ _ _ (minN (zs.map fI)) A3.out OK.out.leastLt LN.out).mono ?_
          rintro e w' ⟨rfl, q8, rfl⟩
          rw [OK.out.nums, OK.out.rank0]
          go_wp2_with (go_at_call 13; refine (inf_pos _).mono ?_; rintro e w' ⟨rfl, rfl⟩)
          refine (rank_any (w3.drewN q8) _ _ _ _ 9218868437227405312 (A3.out.drewN q8) (by decide) LN.out).mono ?_
          rintro e w' ⟨rfl, q9, rfl⟩
          rw [OK.out.nums, OK.out.rankAll]
          go_wp2_with fail
          go_ret
          exact ⟨rfl, below_drewN W3.out _⟩
  · have t1 : ¬ (zs.length : Int) < 1 := by omega
    have t2 : (60 : Int) < (zs.length : Int) := by omega
    go_enter Try.func5, Try.ntmps5
    go_wp2_with fail
    refine (awake_any W).mono ?_
    rintro e w0 ⟨rfl, hb0⟩
    have B0 := Lib.hid hb0
    clear hb0
    go_wp2_with fail
    go_ret
    exact ⟨rfl, B0.out⟩

end Go.Proofs.Ytlbbbabieepabaa
