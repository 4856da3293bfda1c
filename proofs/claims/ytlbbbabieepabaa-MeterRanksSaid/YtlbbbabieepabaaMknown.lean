/-
  What the chapter tells of none, of no numbers, of ends: the walk of the statement.
-/
import Derived.Test.YtlbbbabieepabaaMrefs
namespace Go.Proofs.Ytlbbbabieepabaa
open Go.RowKit

theorem cls_sim {r c : Nat} (h : Sim r c) : cls r = cls c := by
  rcases h with rfl | ⟨h1, h2⟩
  · rfl
  · unfold cls; rw [h1, h2]; rfl

/-- A float's class, known by what it is like. -/
theorem rclass_sim {r c : Nat} (h : Sim r c) (hr : r < 18446744073709551616) (n : Int) (hn : cls c = n) (w : World) : Calls Try.prog 15 #[.float .f64 r] w fun e w' => e = .returned (.int .i64 n) ∧ w = w' := by
  have := rclass_any r w hr
  rwa [cls_sim h, hn] at this

theorem count_of (W : World) (N p : Nat) (F : Nat → Prop) (l : List Nat) (a b c : Nat) (hA : MeterAt W N p F l) (h1 : l.length = a) (h2 : (numsL l).length = b) (h3 : (finL l).length = c) : Calls Try.prog 10 #[.pointer (some ⟨p, 0, none⟩)] W fun e w' =>
    e = .returned (.tuple #[.int .i64 (a : Nat), .int .i64 (b : Nat), .int .i64 (c : Nat)]) ∧ ∃ q, w' = W.drewN q := count_b W N p F l a b c hA h1 h2 h3

def infW : Nat := 9218868437227405312
def ninW : Nat := 18442240474082181120
def mzW : Nat := 9223372036854775808

set_option maxRecDepth 100000 in
set_option maxHeartbeats 4000000 in
theorem law_MeterKnown (W : World) : Calls Try.prog 3 #[] W fun e w' => e = .returned (.bool true) ∧ Below W.heap.size W w' := by
  go_enter Try.func3, Try.ntmps3
  go_wp2_with fail
  refine (awake_any W).mono ?_
  rintro e w0 ⟨rfl, hb0⟩
  have B0 := Lib.hid hb0
  clear hb0
  go_wp2_with fail
  refine (new_any w0 w0.heap.size (Nat.le_refl _)).mono ?_
  rintro e w1 ⟨rfl, hA1, hb1⟩
  have E1 := Lib.hid hA1
  have B1 := Lib.hid (B0.out.trans (hb1.mono B0.out.size))
  have P1 := Lib.hid (fun k (h : k = w0.heap.size) => (show k < w1.heap.size from (hA1.low k h).2))
  generalize w0.heap.size = pe at *
  clear hA1 hb1 B0
  go_wp2_with fail
  refine (count_of w1 _ _ _ [] 0 0 0 E1.out rfl rfl rfl).mono ?_
  rintro e w' ⟨rfl, q1, rfl⟩
  have E1' := Lib.hid (E1.out.drewN q1)
  have B1' := Lib.hid (below_drewN B1.out q1)
  have hsz : (w1.drewN q1).heap.size = w1.heap.size := rfl
  generalize w1.drewN q1 = w2 at *
  rw [← hsz] at P1
  clear E1 B1 hsz
  go_wp2_with fail
  refine (new_any w2 w2.heap.size (Nat.le_refl _)).mono ?_
  rintro e w3 ⟨rfl, hA3, hb3⟩
  have M3 := Lib.hid hA3
  have E3 := Lib.hid (E1'.out.under P1.out hb3)
  have B3 := Lib.hid (B1'.out.trans (hb3.mono B1'.out.size))
  have S3 := Lib.hid B1'.out.size
  generalize w2.heap.size = pm at *
  clear hA3 hb3 E1' B1'
  go_wp2_with (go_at_call 12; refine (nan_any _).mono ?_; rintro e w' ⟨rfl, rfl⟩)
  refine (add_over M3.out nanW (by decide) (by simp) (by simp) S3.out B3.out).mono ?_
  rintro e w4 ⟨rfl, F4, hA4, hu4, hb4⟩
  have M4 := Lib.hid hA4
  have E4 := Lib.hid (E3.out.under P1.out hu4)
  have B4 := Lib.hid hb4
  clear hA4 hu4 hb4 M3 E3 B3
  go_wp2_with (go_at_call 13; refine (inf_pos _).mono ?_; rintro e w' ⟨rfl, rfl⟩)
  refine (add_over M4.out infW (by decide) (by decide) (by simp) S3.out B4.out).mono ?_
  rintro e w5 ⟨rfl, F5, hA5, hu5, hb5⟩
  have M5 := Lib.hid hA5
  have E5 := Lib.hid (E4.out.under P1.out hu5)
  have B5 := Lib.hid hb5
  clear hA5 hu5 hb5 M4 E4 B4
  go_wp2_with (go_at_call 14; refine (copysign_any 0 13830554455654793216 _ (by decide) (by decide)).mono ?_; rintro e w' ⟨rfl, rfl⟩)
  rw [show copyN 0 13830554455654793216 = mzW by decide +kernel]
  refine (add_over M5.out mzW (by decide) (by decide) (by simp) S3.out B5.out).mono ?_
  rintro e w6 ⟨rfl, F6, hA6, hu6, hb6⟩
  have M6 := Lib.hid hA6
  have E6 := Lib.hid (E5.out.under P1.out hu6)
  have B6 := Lib.hid hb6
  clear hA6 hu6 hb6 M5 E5 B5
  go_wp2_with fail
  refine (count_of w6 _ _ _ _ 3 2 1 M6.out rfl (by decide +kernel) (by decide +kernel)).mono ?_
  rintro e w' ⟨rfl, q2, rfl⟩
  have M7 := Lib.hid (M6.out.drewN q2)
  have E7 := Lib.hid (E6.out.drewN q2)
  have B7 := Lib.hid (below_drewN B6.out q2)
  generalize w6.drewN q2 = w7 at *
  clear M6 E6 B6
  have PE := Lib.hid (fun k (h : k = pe) => (show k < w7.heap.size from (E7.out.low k h).2))
  have PM := Lib.hid (fun k (h : F6 k) => (show k < w7.heap.size from (M7.out.low k h).2))
  go_wp2_with fail
  refine (new_any w7 w7.heap.size (Nat.le_refl _)).mono ?_
  rintro e w8 ⟨rfl, hA8, hb8⟩
  have N8 := Lib.hid hA8
  have E8 := Lib.hid (E7.out.under PE.out hb8)
  have M8 := Lib.hid (M7.out.under PM.out hb8)
  have B8 := Lib.hid (B7.out.trans (hb8.mono B7.out.size))
  have S8 := Lib.hid B7.out.size
  generalize w7.heap.size = pn at *
  clear hA8 hb8 E7 M7 B7
  go_wp2_with (go_at_call 13; refine (inf_pos _).mono ?_; rintro e w' ⟨rfl, rfl⟩)
  refine (add_over N8.out infW (by decide) (by simp) (by simp) S8.out B8.out).mono ?_
  rintro e w9 ⟨rfl, F9, hA9, hu9, hb9⟩
  have N9 := Lib.hid hA9
  have E9 := Lib.hid (E8.out.under PE.out hu9)
  have M9 := Lib.hid (M8.out.under PM.out hu9)
  have B9 := Lib.hid hb9
  clear hA9 hu9 hb9 N8 E8 M8 B8
  go_wp2_with (go_at_call 13; refine (inf_neg _).mono ?_; rintro e w' ⟨rfl, rfl⟩)
  refine (add_over N9.out ninW (by decide) (by decide) (by simp) S8.out B9.out).mono ?_
  rintro e wa ⟨rfl, Fa, hAa, hua, hba⟩
  have Na := Lib.hid hAa
  have Ea := Lib.hid (E9.out.under PE.out hua)
  have Ma := Lib.hid (M9.out.under PM.out hua)
  have Ba := Lib.hid hba
  clear hAa hua hba N9 E9 M9 B9
  go_wp2_with fail
  refine (float_drew (mean_any wa _ _ _ _ Ea.out)).mono ?_
  rintro e w' ⟨r1, t1, rfl, s1, l1, rfl⟩
  go_wp2_with fail
  refine (rclass_sim s1.out l1.out 0 (by decide +kernel) _).mono ?_
  rintro e w' ⟨rfl, rfl⟩
  go_wp2_with fail
  refine (float_known (sum_any (wa.drewN t1) _ _ _ _ (Ea.out.drewN _))).mono ?_
  rintro e w' ⟨r2, rfl, s2, l2, rfl⟩
  go_wp2_with fail
  refine (rclass_sim s2.out l2.out 4 (by decide +kernel) _).mono ?_
  rintro e w' ⟨rfl, rfl⟩
  go_wp2_with fail
  refine (least_any (wa.drewN t1) _ _ _ _ (Ea.out.drewN _)).mono ?_
  rintro e w' ⟨rfl, rfl⟩
  go_wp2_with fail
  refine (rclass_sim (Sim.refl _) (by decide +kernel) 6 (by decide +kernel) _).mono ?_
  rintro e w' ⟨rfl, rfl⟩
  go_wp2_with fail
  refine (most_any (wa.drewN t1) _ _ _ _ (Ea.out.drewN _)).mono ?_
  rintro e w' ⟨rfl, rfl⟩
  go_wp2_with fail
  refine (rclass_sim (Sim.refl _) (by decide +kernel) 1 (by decide +kernel) _).mono ?_
  rintro e w' ⟨rfl, rfl⟩
  go_wp2_with fail
  refine (float_known (smooth_any (wa.drewN t1) _ _ _ _ (Ea.out.drewN _))).mono ?_
  rintro e w' ⟨r3, rfl, s3, l3, rfl⟩
  go_wp2_with fail
  refine (rclass_sim s3.out l3.out 4 (by decide +kernel) _).mono ?_
  rintro e w' ⟨rfl, rfl⟩
  go_wp2_with fail
  refine (float_known (sum_any (wa.drewN t1) _ _ _ _ (Ma.out.drewN _))).mono ?_
  rintro e w' ⟨r4, rfl, s4, l4, rfl⟩
  go_wp2_with fail
  refine (rclass_sim s4.out l4.out 6 (by decide +kernel) _).mono ?_
  rintro e w' ⟨rfl, rfl⟩
  go_wp2_with fail
  refine (least_any (wa.drewN t1) _ _ _ _ (Ma.out.drewN _)).mono ?_
  rintro e w' ⟨rfl, rfl⟩
  go_wp2_with fail
  refine (rclass_sim (Sim.refl _) (by decide +kernel) 3 (by decide +kernel) _).mono ?_
  rintro e w' ⟨rfl, rfl⟩
  go_wp2_with fail
  refine (most_any (wa.drewN t1) _ _ _ _ (Ma.out.drewN _)).mono ?_
  rintro e w' ⟨rfl, rfl⟩
  go_wp2_with fail
  refine (rclass_sim (Sim.refl _) (by decide +kernel) 6 (by decide +kernel) _).mono ?_
  rintro e w' ⟨rfl, rfl⟩
  go_wp2_with fail
  refine (float_known (smooth_any (wa.drewN t1) _ _ _ _ (Ma.out.drewN _))).mono ?_
  rintro e w' ⟨r5, rfl, s5, l5, rfl⟩
  go_wp2_with fail
  refine (rclass_sim s5.out l5.out 3 (by decide +kernel) _).mono ?_
  rintro e w' ⟨rfl, rfl⟩
  go_wp2_with (go_at_call 12; refine (nan_any _).mono ?_; rintro e w' ⟨rfl, rfl⟩)
  refine (rank_any (wa.drewN t1) _ _ _ _ nanW (Ma.out.drewN _) (by decide) (by decide)).mono ?_
  rintro e w' ⟨rfl, t6, rfl⟩
  rw [show rankN (numsL ([] ++ [nanW] ++ [infW] ++ [mzW])) nanW = 2 by decide +kernel]
  go_wp2_with fail
  refine (rank_any (wa.drewN (t1 + t6)) _ _ _ _ 0 (Ma.out.drewN _) (by decide) (by decide)).mono ?_
  rintro e w' ⟨rfl, t7, rfl⟩
  rw [show rankN (numsL ([] ++ [nanW] ++ [infW] ++ [mzW])) 0 = 1 by decide +kernel]
  go_wp2_with fail
  refine (float_known (sum_any (wa.drewN (t1 + t6 + t7)) _ _ _ _ (Na.out.drewN _))).mono ?_
  rintro e w' ⟨r8, rfl, s8, l8, rfl⟩
  go_wp2_with fail
  refine (rclass_sim s8.out l8.out 0 (by decide +kernel) _).mono ?_
  rintro e w' ⟨rfl, rfl⟩
  go_wp2_with fail
  refine (float_drew (mean_any (wa.drewN (t1 + t6 + t7)) _ _ _ _ (Na.out.drewN _))).mono ?_
  rintro e w' ⟨r9, t9, rfl, s9, l9, rfl⟩
  go_wp2_with fail
  refine (rclass_sim s9.out l9.out 0 (by decide +kernel) _).mono ?_
  rintro e w' ⟨rfl, rfl⟩
  go_wp2_with fail
  go_ret
  exact ⟨rfl, below_drewN Ba.out _⟩

end Go.Proofs.Ytlbbbabieepabaa
