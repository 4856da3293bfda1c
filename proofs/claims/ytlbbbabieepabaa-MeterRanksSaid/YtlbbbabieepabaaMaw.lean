/-
  That the document's own example holds: what each statement asks first.
-/
import Derived.Test.YtlbbbabieepabaaMrank
namespace Go.Proofs.Ytlbbbabieepabaa
open Go.RowKit

theorem Sim.eq {r c : Nat} (h : Sim r c) (hc : nanB c = false) : r = c := by
  rcases h with h | ⟨_, h⟩
  · exact h
  · rw [hc] at h; cases h
theorem Keep.belowAt {F : Nat → Prop} {W a b : World} {N : Nat} (h : Keep F a b) (hb : Below N W a) (hN : N ≤ a.heap.size) (hF : ∀ k, F k → N ≤ k) : Below N W b := hb.trans (h.below hN hF)
theorem below_drewN {W a : World} {N : Nat} (h : Below N W a) (q : Nat) : Below N W (a.drewN q) := ⟨h.os, h.tape, h.output, h.size, h.block⟩
theorem MeterAt.drewN {w : World} {N p : Nat} {F : Nat → Prop} {l : List Nat} (h : MeterAt w N p F l) (q : Nat) : MeterAt (w.drewN q) N p F l := h.carry (Nat.le_refl _) (fun _ _ => rfl)

def oneW : Nat := 4607182418800017408
def threeW : Nat := 4613937818241073152

theorem aw_mean : meanN (numsL [oneW, threeW]) = 4611686018427387904 := by decide +kernel
theorem aw_smooth : smoothN (finL [oneW, threeW]) = 4608308318706860032 := by decide +kernel
theorem aw_rank : rankN (numsL [oneW, threeW]) 4611686018427387904 = 1 := by decide +kernel

theorem add_known {W : World} {N p : Nat} {F : Nat → Prop} {l : List Nat} (hA : MeterAt W N p F l) (x : Nat) (hx : x < 18446744073709551616) (hl : ∀ y ∈ l, y < 18446744073709551616) (hn : l.length ≤ 90) :
    Calls Try.prog 11 #[.pointer (some ⟨p, 0, none⟩), .float .f64 x] W (AddPost W N p F l x) := add_any W N p F l x hA hx hl hn

set_option maxHeartbeats 1000000 in
theorem awake_any (W : World) : Calls Try.prog 8 #[] W fun e w' => e = .returned (.bool true) ∧ Below W.heap.size W w' := by
  have o1 : (FloatKind.f64.format.order 4611686018427387904 4611686018427387904 == some .eq) = true := by decide +kernel
  have o2 : (FloatKind.f64.format.order 4608308318706860032 4608308318706860032 == some .eq) = true := by decide +kernel
  go_enter Try.func8, Try.ntmps8
  go_wp2_with fail
  refine (new_any W W.heap.size (Nat.le_refl _)).mono ?_
  rintro e w1 ⟨rfl, hA1, hb1⟩
  have A1 := Lib.hid hA1
  have B1 := Lib.hid hb1
  clear hA1 hb1
  go_wp2_with fail
  refine (add_any w1 _ _ _ [] oneW A1.out (by decide) (by simp) (by simp)).mono ?_
  rintro e w2 ⟨rfl, F2, hA2, hk2, hF2⟩
  have hf2 : ∀ k, F2 k → W.heap.size ≤ k := fun k f => (hA2.low k f).1
  have hb2 : Below W.heap.size W w2 := hk2.belowAt B1.out B1.out.size (fun k f => by omega)
  have A2 := Lib.hid hA2
  have B2 := Lib.hid hb2
  have C2 := Lib.hid hf2
  clear hA2 hb2 hf2 hk2 hF2
  go_wp2_with fail
  refine (add_any w2 _ _ _ [oneW] threeW A2.out (by decide) (by decide) (by simp)).mono ?_
  rintro e w3 ⟨rfl, F3, hA3, hk3, hF3⟩
  have hb3 : Below W.heap.size W w3 := hk3.belowAt B2.out B2.out.size C2.out
  have A3 := Lib.hid hA3
  have B3 := Lib.hid hb3
  clear hA3 hb3 hk3 hF3
  go_wp2_with fail
  refine (mean_any w3 _ _ _ _ A3.out).mono ?_
  rintro e w4 ⟨r, q, rfl, hr, _, rfl⟩
  obtain rfl := hr.trans (Or.inl aw_mean) |>.eq (by decide +kernel)
  clear hr
  go_wp2_with fail
  refine (smooth_any (w3.drewN q) _ _ _ _ (A3.out.drewN q)).mono ?_
  rintro e w4 ⟨r, rfl, hr, _, rfl⟩
  obtain rfl := hr.trans (Or.inl aw_smooth) |>.eq (by decide +kernel)
  clear hr
  go_wp2_with fail
  refine (rank_any (w3.drewN q) _ _ _ _ 4611686018427387904 (A3.out.drewN q) (by decide) (by decide)).mono ?_
  rintro e w4 ⟨rfl, q2, rfl⟩
  rw [show rankN (numsL ([oneW] ++ [threeW])) 4611686018427387904 = 1 from aw_rank]
  go_wp2_with fail
  go_ret
  exact ⟨rfl, below_drewN B3.out _⟩

end Go.Proofs.Ytlbbbabieepabaa
