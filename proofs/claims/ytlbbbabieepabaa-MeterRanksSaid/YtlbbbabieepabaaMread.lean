/-
  What a meter tells.
-/
import Derived.Test.YtlbbbabieepabaaMadd2
import Derived.Lib.SlicesSearch
namespace Go.Proofs.Ytlbbbabieepabaa
open Go.RowKit

def NewPost (W : World) (N : Nat) (e : Ending) (w' : World) : Prop :=
  e = .returned (.pointer (some ⟨W.heap.size, 0, none⟩)) ∧ MeterAt w' N W.heap.size (fun k => k = W.heap.size) [] ∧ Below W.heap.size W w'

theorem new_mem (W : World) (N : Nat) (hN : N ≤ W.heap.size) (a b : Nat) (ha : a < 18446744073709551616) (hb : b < 18446744073709551616) (t : TypeId) :
    Mem (W.alloc (.cells #[.int .i64 0, .int .i64 0, .int .i64 0, .float .f64 0, .float .f64 a, .float .f64 b, .float .f64 0, .slice none 0 0] t)) N W.heap.size (fun k => k = W.heap.size) ⟨0, 0, 0, 0, a, b, 0⟩ (.slice none 0 0) [] [] := by
  refine ⟨⟨?_, ?_, ?_, ?_, ?_, ?_, ?_, ?_, fun i => ?_⟩, World.ownsRow_nil .., trivial, rfl, fun k hk => by simp [Value.ownBlock] at hk, fun k f => ?_, by simp [Value.ownBlock], ⟨show (0 : Nat) < 18446744073709551616 by decide, ha, hb, show (0 : Nat) < 18446744073709551616 by decide⟩⟩
  all_goals try simp
  subst f
  simp
  exact hN

set_option maxHeartbeats 1000000 in
theorem new_any (W : World) (N : Nat) (hN : N ≤ W.heap.size) : Calls Try.prog 9 #[] W (NewPost W N) := by
  have HN := Lib.hid hN
  go_enter Try.func9, Try.ntmps9
  go_wp2_with (first | (go_at_call 34; refine (min_none _ _ _).mono ?_; rintro e w' ⟨rfl, rfl⟩) | (go_at_call 35; refine (max_none _ _ _).mono ?_; rintro e w' ⟨rfl, rfl⟩))
  go_ret
  exact ⟨rfl, ⟨_, _, _, _, new_mem W N HN.out _ _ (by decide +kernel) (by decide +kernel) _, ⟨rfl, rfl, rfl, Sim.refl _, rfl, rfl, Sim.refl _, by simp [numsL], by simp⟩⟩, (Below.refl _ _).alloc (Nat.le_refl _) _⟩

def CountPost (W : World) (l : List Nat) (e : Ending) (w' : World) : Prop :=
  e = .returned (.tuple #[.int .i64 (l.length : Nat), .int .i64 ((numsL l).length : Nat), .int .i64 ((finL l).length : Nat)]) ∧ ∃ q, w' = W.drewN q

set_option maxHeartbeats 1000000 in
theorem count_any (W : World) (N p : Nat) (F : Nat → Prop) (l : List Nat) (hA : MeterAt W N p F l) : Calls Try.prog 10 #[.pointer (some ⟨p, 0, none⟩)] W (CountPost W l) := by
  obtain ⟨s, v, vs, rs, hM, hI⟩ := hA
  have c0 := hM.cells.c0
  have c1 := hM.cells.c1
  have c2 := hM.cells.c2
  rw [hI.all] at c0
  rw [hI.nums] at c1
  rw [hI.fin] at c2
  clear hM hI
  go_enter Try.func10, Try.ntmps10
  go_wp2_with fail
  go_quiet (fail)
  go_wp2_with fail
  refine bodyPost_ret (v := .tuple #[.int .i64 (l.length : Nat), .int .i64 ((numsL l).length : Nat), .int .i64 ((finL l).length : Nat)]) (by simp [results, Try.results10, go_sem]) rfl ⟨rfl, _, rfl⟩

def FloatPost (W : World) (c : Nat) (e : Ending) (w' : World) : Prop := ∃ r q, e = .returned (.float .f64 r) ∧ Sim r c ∧ r < 18446744073709551616 ∧ w' = W.drewN q
def FloatIs (W : World) (c : Nat) (e : Ending) (w' : World) : Prop := ∃ r, e = .returned (.float .f64 r) ∧ Sim r c ∧ r < 18446744073709551616 ∧ W = w'

set_option maxHeartbeats 1000000 in
theorem sum_any (W : World) (N p : Nat) (F : Nat → Prop) (l : List Nat) (hA : MeterAt W N p F l) : Calls Try.prog 17 #[.pointer (some ⟨p, 0, none⟩)] W (FloatIs W (sumN (numsL l))) := by
  obtain ⟨s, v, vs, rs, hM, hI⟩ := hA
  have c3 := hM.cells.c3
  have A := Lib.hid hI.sum
  have B := Lib.hid hM.lts
  clear hM hI
  go_enter Try.func17, Try.ntmps17
  go_wp2
  go_ret
  exact ⟨_, rfl, A.out, B.out.1, rfl⟩

set_option maxHeartbeats 1000000 in
theorem least_any (W : World) (N p : Nat) (F : Nat → Prop) (l : List Nat) (hA : MeterAt W N p F l) : Calls Try.prog 18 #[.pointer (some ⟨p, 0, none⟩)] W fun e w' => e = .returned (.float .f64 (minN (numsL l))) ∧ W = w' := by
  obtain ⟨s, v, vs, rs, hM, hI⟩ := hA
  have c4 := hM.cells.c4
  rw [hI.least] at c4
  clear hM hI
  go_enter Try.func18, Try.ntmps18
  go_wp2
  go_ret
  exact ⟨rfl, rfl⟩

set_option maxHeartbeats 1000000 in
theorem most_any (W : World) (N p : Nat) (F : Nat → Prop) (l : List Nat) (hA : MeterAt W N p F l) : Calls Try.prog 19 #[.pointer (some ⟨p, 0, none⟩)] W fun e w' => e = .returned (.float .f64 (maxN (numsL l))) ∧ W = w' := by
  obtain ⟨s, v, vs, rs, hM, hI⟩ := hA
  have c5 := hM.cells.c5
  rw [hI.most] at c5
  clear hM hI
  go_enter Try.func19, Try.ntmps19
  go_wp2
  go_ret
  exact ⟨rfl, rfl⟩

set_option maxHeartbeats 1000000 in
theorem smooth_any (W : World) (N p : Nat) (F : Nat → Prop) (l : List Nat) (hA : MeterAt W N p F l) : Calls Try.prog 20 #[.pointer (some ⟨p, 0, none⟩)] W (FloatIs W (smoothN (finL l))) := by
  obtain ⟨s, v, vs, rs, hM, hI⟩ := hA
  have c6 := hM.cells.c6
  have A := Lib.hid hI.smooth
  have B := Lib.hid hM.lts
  clear hM hI
  go_enter Try.func20, Try.ntmps20
  go_wp2
  go_ret
  exact ⟨_, rfl, A.out, B.out.2.2.2, rfl⟩

set_option maxHeartbeats 1000000 in
theorem mean_any (W : World) (N p : Nat) (F : Nat → Prop) (l : List Nat) (hA : MeterAt W N p F l) : Calls Try.prog 16 #[.pointer (some ⟨p, 0, none⟩)] W (FloatPost W (meanN (numsL l))) := by
  obtain ⟨s, v, vs, rs, hM, hI⟩ := hA
  have c1 := hM.cells.c1
  have c3 := hM.cells.c3
  rw [hI.nums] at c1
  have A := Lib.hid hI.sum
  clear hM hI
  by_cases h0 : (numsL l).length = 0
  · have d : (((numsL l).length : Int) == 0) = true := by rw [h0]; rfl
    have H0 := Lib.hid h0
    clear h0
    go_enter Try.func16, Try.ntmps16
    go_wp2_with (go_at_call 12; refine (nan_any _).mono ?_; rintro e w' ⟨rfl, rfl⟩)
    go_ret
    exact ⟨nanW, 0, rfl, by unfold meanN; rw [if_pos H0.out]; exact Sim.refl _, by decide, rfl⟩
  · have d : (((numsL l).length : Int) == 0) = false := by rw [beq_eq_false_iff_ne]; omega
    have H0 := Lib.hid h0
    clear h0
    obtain ⟨r, q, e1, s1, l1⟩ := op_run .quo rfl 28 s.sum (floatOfInt .f64 ((numsL l).length : Nat)) W.drew
    have S1 := Lib.hid s1
    clear s1
    go_enter Try.func16, Try.ntmps16
    go_wp2_with fail
    go_region
    all_goals go_wp2
    all_goals go_ret
    all_goals exact ⟨r, _, rfl, by unfold meanN; rw [if_neg H0.out]; exact S1.out.trans (opN_sim .quo rfl A.out (Sim.refl _)), l1, rfl⟩

end Go.Proofs.Ytlbbbabieepabaa
