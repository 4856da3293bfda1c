/-
  mat.New.
-/
import Derived.Test.YtfiamomadicbpaaCfil
import Derived.Test.YtfiamomadicbpaaWreg
namespace Go.Proofs.Ytfiamomadicbpaa
open Go.RowKit

theorem vnew_at (W : World) {z : Int} {n : Nat} (hz : (n : Int) = z) (h : n ≤ 16) : Calls Try.prog 28 #[.int .i64 z] W fun e w' => ∃ a cap, e = .returned (.slice a n cap) ∧ Below W.heap.size W w' ∧ w'.ownsRow W.heap.size 30 1 (.slice a (List.replicate n 0).length cap) (List.replicate n 0).length ((List.replicate n 0).map qV) := by
  refine (vnew_any W z (n := n) (by unfold newN; omega)).mono ?_
  rintro e w' ⟨a, c, rfl, -, hb, -, ho⟩
  exact ⟨a, c, by rw [List.length_replicate], hb, ho⟩

theorem zerosM_is {n : Nat} {K : List Rd} (hl : K.length = n) (h : ∀ r ∈ K, r.l = List.replicate n 0) : mOf K = zerosM n :=
  List.ext_getElem (by rw [mOf_len, hl]; simp [zerosM]) fun i h1 h2 => by
    rw [mOf_len] at h1
    rw [mOf_at h1, h _ (List.getElem_mem _)]
    simp [zerosM]

def NwR (U : World) (p n : Nat) (z : Int) (s i : Value) (wr : World) : Prop :=
  ∃ (k : Nat) (K : List Rd), k ≤ n ∧ i = .int .i64 (k : Nat) ∧ K.length = k ∧ (∀ r ∈ K, r.l = List.replicate n 0) ∧ FillV U wr p z s K (List.replicate (n - k) ⟨none, 0, []⟩)

set_option maxRecDepth 20000 in
set_option maxHeartbeats 4000000 in
theorem mnew_yes {W : World} {n : Nat} {z : Int} (hz : (n : Int) = z) (h1 : 1 ≤ n) (h2 : n ≤ 16) :
    Calls Try.prog 8 #[.int .i64 z] W fun e w' => ∃ a' cap', e = .returned (.tuple #[.agg #[.int .i64 z, .slice a' n cap'], .int .i64 0]) ∧ SqR (fun _ => False) W n (zerosM n) a' cap' w' := by
  obtain ⟨U, hU⟩ : ∃ U, U = W.alloc (.cells #[.int .i64 0, .slice none 0 0] 25) := ⟨_, rfl⟩
  have hb : Below W.heap.size W U := by rw [hU]; exact box_b W _
  have T1 : Cel 2 U W.heap.size (mkC 0 (.slice none 0 0)) := by rw [hU]; exact box_new W 0 _ _
  have CS := Lib.hid (msized_any (W := U) (z := z) (r := true) (decide_eq_true ⟨by omega, by omega⟩))
  have hmk := make_rows n hz (by omega)
  obtain ⟨w0, hw0⟩ : ∃ w0, w0 = (U.alloc (.cells (madeCells #[.slice none 0 0] n) 39)).alloc (.cells #[.int .i64 z, .slice (some ⟨U.heap.size, 0, none⟩) n n] 25) := ⟨_, rfl⟩
  have I0 : NwR U (U.heap.size + 1) n z (.slice (some ⟨U.heap.size, 0, none⟩) n n) (.int .i64 0) w0 := by
    have hp := (ParSq.start (own_made U n (by omega)) (by simp)).below (box_b _ (.cells #[.int .i64 z, .slice (some ⟨U.heap.size, 0, none⟩) n n] 25))
    have hc := box_new (U.alloc (.cells (madeCells #[.slice none 0 0] n) 39)) z (.slice (some ⟨U.heap.size, 0, none⟩) n n) 25
    rw [show (U.alloc (.cells (madeCells #[.slice none 0 0] n) 39)).heap.size = U.heap.size + 1 by simp] at hc
    rw [← hw0] at hp hc
    refine ⟨0, [], Nat.zero_le _, rfl, rfl, by simp, hp, hc, ⟨by simp [Value.ownBlock], by simp⟩, by omega, ?_⟩
    rw [hw0]
    exact below_alloc (box_b U _) _
  have HI := Lib.hid I0
  have HU := Lib.hid hU.symm
  have HW0 := Lib.hid hw0.symm
  have HB := Lib.hid hb
  have HT := Lib.hid T1
  have HZ := Lib.hid hz
  have hcell : w0.cell? ⟨U.heap.size + 1, 1, none⟩ = some (.slice (some ⟨U.heap.size, 0, none⟩) n n) := by
    obtain ⟨k, K, -, -, -, -, hF⟩ := I0
    exact hF.c.c 1 (by decide)
  clear hU hw0 hb T1 I0 hz
  go_enter Try.func8, Try.ntmps8
  go_wp2_with fail
  rw [HU.out]
  go_wp2_with (go_at_call 27; refine CS.out.mono ?_; rintro e w' ⟨rfl, rfl⟩)
  rw [HW0.out]
  clear HU HW0 hmk CS hcell
  go_loopw [17] (fun i wr => NwR U (U.heap.size + 1) n z (.slice (some ⟨U.heap.size, 0, none⟩) n n) i wr) (fun i _ => n - (intOf i).toNat)
  case atStart => exact HI.out
  case round =>
    obtain ⟨k, K, hk, rfl, hl, hK, hF⟩ := hrel
    clear HI
    by_cases hlt : k < n
    · rw [show n - k = (n - (k + 1)) + 1 by omega, List.replicate_succ] at hF
      have c1 : wr.cell? ⟨U.heap.size + 1, 1, none⟩ = some (.slice (some ⟨U.heap.size, 0, none⟩) n n) := hF.c.c 1 (by decide)
      have c1d : wr.drew.cell? ⟨U.heap.size + 1, 1, none⟩ = some (.slice (some ⟨U.heap.size, 0, none⟩) n n) := c1
      have CN := Lib.hid (vnew_at wr.drew HZ.out h2)
      have FIN := Lib.hid (fun (w3 : World) (a : Option Addr) (c : Nat) (g1 : Below wr.drew.heap.size wr.drew w3) (g2 : w3.ownsRow wr.drew.heap.size 30 1 (.slice a (List.replicate n 0).length c) (List.replicate n 0).length ((List.replicate n 0).map qV)) =>
        show ∃ c9, w3.cell? ⟨U.heap.size, k, none⟩ = some c9 ∧ w3.frozen? ⟨U.heap.size, k, none⟩ = false ∧ w3.cell? ⟨U.heap.size + 1, 1, none⟩ = some (.slice (some ⟨U.heap.size, 0, none⟩) n n) ∧ NwR U (U.heap.size + 1) n z (.slice (some ⟨U.heap.size, 0, none⟩) n n) (.int .i64 ((k + 1 : Nat) : Int)) (w3.setCell ⟨U.heap.size, k, none⟩ (.slice a n c)) from by
          obtain ⟨g, cap, e, x1, x2, x3, x4⟩ := hF.drew.next g1 g2 (zeros_lt n)
          simp only [Value.slice.injEq, Option.some.injEq, Addr.mk.injEq, and_true] at e
          obtain ⟨rfl, -⟩ := e
          rw [hl] at x1 x2 x4
          rw [List.length_replicate] at x4
          exact ⟨_, x1, x2, x3, k + 1, _, by omega, rfl, by simp [hl], fun r hr => (List.mem_append.1 hr).elim (hK r) (fun h => by rw [List.mem_singleton.1 h]), x4⟩)
      have j0 : (0 : Int) ≤ (k : Int) := by omega
      have j1 : (k : Int) < (n : Int) := by omega
      clear hF hl hK
      go_wp2_with fail
      go_region_law (go_simp; go_at_call 28; refine CN.out.mono ?_; rintro e w3 ⟨a3, c3, rfl, hb3, ho3⟩; obtain ⟨c9, k1, k2, k4, k3⟩ := FIN.out w3 a3 c3 hb3 ho3; have R := Lib.hid k3; clear hb3 ho3 k3)
      all_goals
        try go_simp
        go_wp2_with fail
        go_roundw
        case rel => exact R.out
        case measure => simp only [intOf]; omega
    · obtain rfl : k = n := by omega
      have dk : decide ((k : Int) < (k : Int)) = false := decide_eq_false (by omega)
      rw [Nat.sub_self, List.replicate_zero] at hF
      obtain ⟨⟨d0, d1, f0, f1, e0, e1⟩, r0, r1, hR⟩ := hF.fin hl (zerosM_is hl hK) HT.out HB.out (Nat.le_refl _)
      have R := Lib.hid hR
      clear hR hF hl hK
      go_wp2_with fail
      refine bodyPost_ret (v := .tuple #[.agg #[.int .i64 z, .slice (some ⟨U.heap.size, 0, none⟩) k k], .int .i64 0]) (by simp [results, Try.results8, go_sem, r0, r1]) rfl ?_
      exact ⟨_, _, rfl, R.out⟩

set_option maxRecDepth 20000 in
set_option maxHeartbeats 4000000 in
theorem mnew_no {W : World} {z : Int} (h : z < 1 ∨ z > 16) :
    Calls Try.prog 8 #[.int .i64 z] W fun e w' => e = .returned (.tuple #[.agg #[.int .i64 0, .slice none 0 0], .int .i64 1]) ∧ Below W.heap.size W w' := by
  obtain ⟨U, hU⟩ : ∃ U, U = W.alloc (.cells #[.int .i64 0, .slice none 0 0] 25) := ⟨_, rfl⟩
  have hb : Below W.heap.size W U := by rw [hU]; exact box_b W _
  have T1 : Cel 2 U W.heap.size (mkC 0 (.slice none 0 0)) := by rw [hU]; exact box_new W 0 _ _
  have CS := Lib.hid (msized_any (W := U) (z := z) (r := false) (decide_eq_false (by omega)))
  have d0 : U.cell? ⟨W.heap.size, 0, none⟩ = some (.int .i64 0) := T1.c 0 (by decide)
  have d1 : U.cell? ⟨W.heap.size, 1, none⟩ = some (.slice none 0 0) := T1.c 1 (by decide)
  have f0 := T1.fz 0
  have f1 := T1.fz 1
  have T2 := (T1.put 0 (.int .i64 0)).put 1 (.slice none 0 0)
  have r0 : ((U.setCell ⟨W.heap.size, 0, none⟩ (.int .i64 0)).setCell ⟨W.heap.size, 1, none⟩ (.slice none 0 0)).cell? ⟨W.heap.size, 0, none⟩ = some (.int .i64 0) := T2.c 0 (by decide)
  have r1 : ((U.setCell ⟨W.heap.size, 0, none⟩ (.int .i64 0)).setCell ⟨W.heap.size, 1, none⟩ (.slice none 0 0)).cell? ⟨W.heap.size, 1, none⟩ = some (.slice none 0 0) := T2.c 1 (by decide)
  have R := Lib.hid ((hb.setCell (Nat.le_refl _) _ : Below W.heap.size W (U.setCell ⟨W.heap.size, 0, none⟩ (.int .i64 0))).setCell (p := ⟨W.heap.size, 1, none⟩) (Nat.le_refl _) (.slice none 0 0))
  have HU := Lib.hid hU.symm
  clear hU hb T1 T2 h
  go_enter Try.func8, Try.ntmps8
  go_wp2_with fail
  rw [HU.out]
  go_wp2_with (go_at_call 27; refine CS.out.mono ?_; rintro e w' ⟨rfl, rfl⟩)
  refine bodyPost_ret (v := .tuple #[.agg #[.int .i64 0, .slice none 0 0], .int .i64 1]) (by simp [results, Try.results8, go_sem, r0, r1]) rfl ?_
  exact ⟨rfl, R.out⟩

end Go.Proofs.Ytfiamomadicbpaa
