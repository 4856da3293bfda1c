/-
  Step by step as the chapter says: the walk of the statement.
-/
import Derived.Test.YtlbbbabieepabaaMref4
namespace Go.Proofs.Ytlbbbabieepabaa
open Go.RowKit

/-- Both meters have taken in the same. -/
structure Both (W w : World) (pm r : Nat) (F G : Nat → Prop) (l : List Nat) : Prop where
  m : MeterAt w W.heap.size pm F l
  r : RefAt w W.heap.size r G l
  apart : ∀ k, F k → ¬ G k
  below : Below W.heap.size W w

section
variable {W w w' : World} {pm r : Nat} {F G : Nat → Prop} {l : List Nat}
theorem Both.under (h : Both W w pm r F G l) (hb : Below w.heap.size w w') : Both W w' pm r F G l :=
  ⟨h.m.keep (Keep.ofBelow (F := fun _ => False) hb) (fun _ _ f => f), h.r.below hb, h.apart, h.below.trans (hb.mono h.below.size)⟩
theorem Both.drewN (h : Both W w pm r F G l) (q : Nat) : Both W (w.drewN q) pm r F G l :=
  ⟨h.m.drewN q, h.r.carry (Nat.le_refl _) (fun _ _ => rfl), h.apart, below_drewN h.below q⟩
end

theorem sim_key {a b : Nat} (h : Sim a b) : sameN a b = true := by
  unfold sameN
  rcases h with rfl | ⟨h1, h2⟩
  · simp
  · unfold keyN; rw [h1, h2]; simp
theorem rsame_true {a b : Nat} (w : World) (ha : a < 18446744073709551616) (hb : b < 18446744073709551616) (h : Sim a b) :
    Calls Try.prog 25 #[.float .f64 a, .float .f64 b] w fun e w' => e = .returned (.bool true) ∧ w = w' := by
  have := rsame_any a b w ha hb
  rwa [sim_key h] at this

theorem rank_nums (l : List Nat) (x : Nat) : rankN (numsL l) x = rankN l x := by
  unfold rankN numsL
  induction l with
  | nil => rfl
  | cons a t ih =>
    cases hn : nanB a
    · rw [List.filter_cons_of_pos (by simp [hn]), List.countP_cons, List.countP_cons, ih]
    · rw [List.filter_cons_of_neg (by simp [hn]), List.countP_cons, ih]
      have : decide (keyN a < keyN x) = false := by
        unfold keyN
        rw [hn]
        simp
        by_cases h : nanB x = true
        · simp [h]
        · by_cases h2 : sgnB x = true <;> simp [h, h2] <;> first | omega | (unfold sgnB at h2; simp at h2; omega)
      rw [this]; simp

def SaysRel (W : World) (xs : List Nat) (pm r : Nat) (i : Value) (w : World) : Prop := ∃ (k : Nat) (F G : Nat → Prop), k ≤ xs.length ∧ i = .int .i64 (k : Nat) ∧ Both W w pm r F G (xs.take k)

theorem both_m {W w w' : World} {pm r x : Nat} {F G : Nat → Prop} {l : List Nat} {e : Ending} (h : Both W w pm r F G l) (hp : AddPost w W.heap.size pm F l x e w') :
    e = .returned (.tuple #[]) ∧ ∃ F', MeterAt w' W.heap.size pm F' (l ++ [x]) ∧ RefAt w' W.heap.size r G l ∧ (∀ k, F' k → ¬ G k) ∧ Below W.heap.size W w' := by
  obtain ⟨he, F', h1, h2, h3⟩ := hp
  have hG := h.r.low
  have hF := h.m.low
  refine ⟨he, F', h1, h.r.keep h2 (fun k g f => h.apart k f g), fun k f g => ?_, h2.belowAt h.below h.below.size (fun k f => (hF k f).1)⟩
  rcases h3 k f with f | hk
  · exact h.apart k f g
  · have := hG k g; omega

theorem both_r {W w w' : World} {pm r x : Nat} {F G : Nat → Prop} {l l2 : List Nat} {e : Ending} (hm : MeterAt w W.heap.size pm F l2) (hr : RefAt w W.heap.size r G l) (hd : ∀ k, F k → ¬ G k) (hb : Below W.heap.size W w) (hl : l2 = l ++ [x]) (hp : RAddPost w W.heap.size r l x e w') :
    e = .returned (.tuple #[]) ∧ ∃ G', Both W w' pm r F G' l2 := by
  obtain ⟨he, G', h1, h2, h3⟩ := hp
  subst hl
  have hF := hm.low
  have hG := hr.low
  refine ⟨he, G', hm.keep h2 (fun k f e => hd k f (e ▸ hr.inR)), h1, fun k f g => ?_, h2.belowAt hb hb.size (fun k e => by subst e; exact (hG _ hr.inR).1)⟩
  rcases h3 k g with e | hk
  · exact hd k f (e ▸ hr.inR)
  · have := hF k f; omega

theorem ref_new (W w : World) (hb : Below W.heap.size W w) (t : TypeId) : RefAt (w.alloc (.cells #[.slice none 0 0] t)) W.heap.size w.heap.size (fun k => k = w.heap.size) [] := by
  have hs := hb.size
  refine ⟨fun k e => ?_, rfl, by simp, by simp, .slice none 0 0, by simp, Or.inl ⟨rfl, rfl⟩⟩
  subst e
  simp
  exact hs

set_option maxRecDepth 100000 in
set_option maxHeartbeats 8000000 in
theorem law_MeterSays (v : Value) (x : Nat) (W : World) (xs : List Nat) (hv : IsFloats W v xs) (hx : x < 18446744073709551616) :
    Calls Try.prog 4 #[v, .float .f64 x] W fun e w' => e = .returned (.bool true) ∧ Below W.heap.size W w' := by
  obtain ⟨ao, cap, rfl, hxs⟩ := hv.are
  have X := Lib.hid hxs
  clear hv hxs
  by_cases hlen : xs.length ≤ 60
  · have t1 : ¬ (60 : Int) < (xs.length : Int) := by omega
    go_enter Try.func4, Try.ntmps4
    go_wp2_with fail
    refine (awake_any W).mono ?_
    rintro e w0 ⟨rfl, hb0⟩
    have B0 := Lib.hid hb0
    clear hb0
    go_wp2_with fail
    refine (new_any w0 W.heap.size B0.out.size).mono ?_
    rintro e w1 ⟨rfl, hA1, hb1⟩
    have R0 : Hid (SaysRel W xs w0.heap.size w1.heap.size (.int .i64 ((0 : Nat) : Int)) (w1.alloc (.cells #[.slice none 0 0] 37))) := by
      have hb := B0.out.trans (hb1.mono B0.out.size)
      refine ⟨0, _, _, Nat.zero_le _, rfl, hA1.carry (by simp) (fun k f => Below.heap_alloc _ _ _ (hA1.low k f).2), ref_new W w1 hb _, fun k f g => ?_, hb.alloc hb.size _⟩
      have := (hA1.low k f).2
      omega
    generalize w0.heap.size = pm at *
    clear hA1 hb1
    go_wp2_with fail
    go_loopw [7] (fun i wr => SaysRel W xs pm w1.heap.size i wr) (fun i _ => xs.length - (intOf i).toNat)
    case atStart => exact R0.out
    case round =>
      obtain ⟨k, F, G, hk, rfl, hBo⟩ := hrel
      have BO := Lib.hid hBo
      clear hBo
      generalize w1.heap.size = r at *
      by_cases hlt : k < xs.length
      · obtain ⟨b, off, rfl, hbW, hc⟩ := X.out.2 k hlt
        have hxk := X.out.1 xs[k] (List.getElem_mem hlt)
        have hta : (xs.take k).length ≤ 60 := by simp; omega
        have TL := Lib.hid (fun y (hy : y ∈ xs.take k) => X.out.1 y (List.mem_of_mem_take hy))
        have hL : xs.take (k + 1) = xs.take k ++ [xs[k]] := List.take_succ_eq_append_getElem hlt
        have hlen2 : (xs.take (k + 1)).length = k + 1 := by simp; omega
        have TL2 := Lib.hid (fun y (hy : y ∈ xs.take (k + 1)) => X.out.1 y (List.mem_of_mem_take hy))
        have C := Lib.hid hc
        generalize hq : xs[k] = q at *
        generalize hLL : xs.take (k + 1) = L at *
        have ELL := Lib.hid hLL
        clear hLL
        have HL := Lib.hid hL
        have HN := Lib.hid hlen2
        clear hq hL hlen2 hc
        have hcx := (BO.out.below.cell (p := ⟨b, off + k, none⟩) hbW).trans C.out
        go_wp2_with fail
        refine ((add_any wr _ _ _ (xs.take k) q BO.out.m hxk TL.out (by omega)).mono fun e w' h => both_m BO.out h).mono ?_
        rintro e w3 ⟨rfl, F3, hm3, hr3, hd3, hb3⟩
        have hcx3 := (hb3.cell (p := ⟨b, off + k, none⟩) hbW).trans C.out
        rw [← HL.out] at hm3
        have M3 := Lib.hid hm3
        have RR3 := Lib.hid hr3
        have D3 := Lib.hid hd3
        have BB3 := Lib.hid hb3
        clear hm3 hr3 hd3 hb3 hcx
        go_wp2_with fail
        refine ((radd_any w3 _ _ _ (xs.take k) q RR3.out hxk (by omega)).mono fun e w' h => both_r M3.out RR3.out D3.out BB3.out HL.out h).mono ?_
        rintro e w4 ⟨rfl, G4, h4⟩
        have A4 := Lib.hid h4
        clear h4 hcx3
        generalize hnn : (numsL L).length = nn
        generalize hff : (finL L).length = ff
        have NN := Lib.hid hnn
        have FF := Lib.hid hff
        have nb : nn ≤ 61 := by rw [← hnn]; exact Nat.le_trans (List.length_filter_le ..) (by have := HN.out; omega)
        have fb : ff ≤ 61 := by rw [← hff]; exact Nat.le_trans (List.length_filter_le ..) (by have := HN.out; omega)
        have LB := Lib.hid (show L.length ≤ 90 by have := HN.out; omega)
        have T := Lib.hid (min_lt _ (numsL_lt TL2.out))
        have T' := Lib.hid (max_lt _ (numsL_lt TL2.out))
        clear hnn hff
        go_wp2_with fail
        refine (count_b w4 _ _ _ L (k + 1) nn ff A4.out.m HN.out NN.out FF.out).mono ?_
        rintro e w' ⟨rfl, q1, rfl⟩
        have A5 := Lib.hid (A4.out.drewN q1)
        generalize w4.drewN q1 = w5 at *
        clear A4
        go_wp2_with fail
        refine (numbers_any w5 _ _ _ L A5.out.r LB.out).mono ?_
        rintro e w6 ⟨v6, rfl, hv6, hb6⟩
        have A6 := Lib.hid (A5.out.under hb6)
        obtain ⟨a6, c6, rfl⟩ := hv6.slice
        rw [NN.out]
        clear hv6 hb6 A5
        go_wp2_with fail
        refine (finite_any w6 _ _ _ L A6.out.r LB.out).mono ?_
        rintro e w7 ⟨v7, rfl, hv7, hb7⟩
        have A7 := Lib.hid (A6.out.under hb7)
        obtain ⟨a7, c7, rfl⟩ := hv7.slice
        rw [FF.out]
        clear hv7 hb7 A6
        go_wp2_with fail
        refine (float_known (sum_any w7 _ _ _ L A7.out.m)).mono ?_
        rintro e w' ⟨r1, rfl, s1, l1, rfl⟩
        go_wp2_with fail
        refine (rsum_any w7 _ _ _ L A7.out.r LB.out).mono ?_
        rintro e w8 ⟨r2, rfl, s2, l2, hb8⟩
        have A8 := Lib.hid (A7.out.under hb8)
        clear hb8 A7
        go_wp2_with fail
        refine (rsame_true w8 l1.out l2.out (s1.out.trans s2.out.symm)).mono ?_
        rintro e w' ⟨rfl, rfl⟩
        clear s1 s2 l1 l2
        go_wp2_with fail
        refine (float_drew (mean_any w8 _ _ _ L A8.out.m)).mono ?_
        rintro e w' ⟨r3, q3, rfl, s3, l3, rfl⟩
        have A9 := Lib.hid (A8.out.drewN q3)
        generalize w8.drewN q3 = w9 at *
        clear A8
        go_wp2_with fail
        refine (rmean_any w9 _ _ _ L A9.out.r LB.out).mono ?_
        rintro e w10 ⟨r4, rfl, s4, l4, hb10⟩
        have A10 := Lib.hid (A9.out.under hb10)
        clear hb10 A9
        go_wp2_with fail
        refine (rsame_true w10 l3.out l4.out (s3.out.trans s4.out.symm)).mono ?_
        rintro e w' ⟨rfl, rfl⟩
        clear s3 s4 l3 l4
        go_wp2_with fail
        refine (least_any w10 _ _ _ L A10.out.m).mono ?_
        rintro e w' ⟨rfl, rfl⟩
        go_wp2_with fail
        refine (numbers_any w10 _ _ _ L A10.out.r LB.out).mono ?_
        rintro e w11 ⟨v11, rfl, hv11, hb11⟩
        have A11 := Lib.hid (A10.out.under hb11)
        have V11 := Lib.hid hv11
        clear hv11 hb11 A10
        go_wp2_with fail
        refine (rmin_any v11 (numsL L) w11 V11.out (by rw [NN.out]; omega)).mono ?_
        rintro e w' ⟨rfl, rfl⟩
        go_wp2_with fail
        refine (rsame_true w11 T.out T.out (Sim.refl _)).mono ?_
        rintro e w' ⟨rfl, rfl⟩
        go_wp2_with fail
        refine (most_any w11 _ _ _ L A11.out.m).mono ?_
        rintro e w' ⟨rfl, rfl⟩
        go_wp2_with fail
        refine (numbers_any w11 _ _ _ L A11.out.r LB.out).mono ?_
        rintro e w12 ⟨v12, rfl, hv12, hb12⟩
        have A12 := Lib.hid (A11.out.under hb12)
        have V12 := Lib.hid hv12
        clear hv12 hb12 A11 V11
        go_wp2_with fail
        refine (rmax_any v12 (numsL L) w12 V12.out (by rw [NN.out]; omega)).mono ?_
        rintro e w' ⟨rfl, rfl⟩
        go_wp2_with fail
        refine (rsame_true w12 T'.out T'.out (Sim.refl _)).mono ?_
        rintro e w' ⟨rfl, rfl⟩
        go_wp2_with fail
        refine (float_known (smooth_any w12 _ _ _ L A12.out.m)).mono ?_
        rintro e w' ⟨r5, rfl, s5, l5, rfl⟩
        go_wp2_with fail
        refine (rsmooth_any w12 _ _ _ L A12.out.r LB.out).mono ?_
        rintro e w13 ⟨r6, rfl, s6, l6, hb13⟩
        have A13 := Lib.hid (A12.out.under hb13)
        clear hb13 A12 V12
        go_wp2_with fail
        refine (rsame_true w13 l5.out l6.out (s5.out.trans s6.out.symm)).mono ?_
        rintro e w' ⟨rfl, rfl⟩
        clear s5 s6 l5 l6
        go_wp2_with fail
        refine (rank_any w13 _ _ _ L x A13.out.m hx LB.out).mono ?_
        rintro e w' ⟨rfl, q14, rfl⟩
        rw [rank_nums]
        have A14 := Lib.hid (A13.out.drewN q14)
        generalize w13.drewN q14 = w14 at *
        clear A13
        go_wp2_with fail
        refine (rrank_any w14 _ _ _ L x A14.out.r hx LB.out).mono ?_
        rintro e w' ⟨rfl, rfl⟩
        generalize rankN L x = rk
        have RE : Hid (SaysRel W xs pm r (.int .i64 ((k + 1 : Nat) : Int)) w14) := by
          refine ⟨k + 1, F3, G4, by omega, rfl, ?_⟩
          rw [ELL.out]
          exact A14.out
        go_wp2_with fail
        go_roundw
        case rel => exact RE.out
        case measure => simp [intOf]; omega
      · have HB := Lib.hid BO.out.below
        go_wp2_with fail
        go_ret
        exact ⟨rfl, HB.out⟩
  · have t1 : (60 : Int) < (xs.length : Int) := by omega
    go_enter Try.func4, Try.ntmps4
    go_wp2_with fail
    refine (awake_any W).mono ?_
    rintro e w0 ⟨rfl, hb0⟩
    have B0 := Lib.hid hb0
    clear hb0
    go_wp2_with fail
    go_ret
    exact ⟨rfl, B0.out⟩

end Go.Proofs.Ytlbbbabieepabaa
