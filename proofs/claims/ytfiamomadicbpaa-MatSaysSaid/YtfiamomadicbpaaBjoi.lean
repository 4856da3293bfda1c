/-
  Rows of counts put together.
-/
import Derived.Test.YtfiamomadicbpaaBmak
namespace Go.Proofs.Ytfiamomadicbpaa
open Go.RowKit

def JoinRel (W : World) (r : List Nat) (v : Value) (wr : World) : Prop :=
  ∃ k : Nat, k ≤ r.length ∧ v = .int .i64 (k : Nat) ∧ RowQ wr W.heap.size (fillL r k) ∧ Below W.heap.size W wr

theorem JoinRel.step {W wr : World} {r : List Nat} {k v : Nat} (hk : k < r.length) (hR : RowQ wr W.heap.size (fillL r k)) (hb : Below W.heap.size W wr) (hv : v = atN r k) :
    JoinRel W r (.int .i64 ((k + 1 : Nat) : Int)) (wr.setCell ⟨W.heap.size, k, none⟩ (.int .u64 (v : Int))) := by
  subst hv
  refine ⟨k + 1, by omega, rfl, (hR.set k _).conv ?_, hb.setCell (Nat.le_refl _) _⟩
  rw [atN_of hk]
  exact fillL_set r hk

set_option maxRecDepth 20000 in
set_option maxHeartbeats 2000000 in
theorem vjoin_any {W : World} {a1 a2 : Option Addr} {c1 c2 n m : Nat} {xs ys : List Nat} (h1 : SlAt qV QM W a1 c1 xs) (h2 : SlAt qV QM W a2 c2 ys) (hn : xs.length = n) (hm : ys.length = m) (hl : n ≤ 100000) (hl2 : m ≤ 100000) {r : List Nat} (hr : joinL xs ys = r) :
    Calls Try.prog 35 #[.slice a1 n c1, .slice a2 m c2] W (NewQ W r) := by
  have A := Lib.hid h1
  have B := Lib.hid h2
  have HN := Lib.hid hn
  have HM := Lib.hid hm
  have hlr : r.length = max n m := by rw [← hr, joinL_length, hn, hm]
  have hlt : ∀ x ∈ r, x < QM := by rw [← hr]; exact joinL_lt (by decide) h1.lt h2.lt
  have hat : ∀ k, atN r k = max (atN xs k) (atN ys k) := fun k => by rw [← hr]; exact joinL_at ..
  clear h1 h2 hn hm hr
  obtain ⟨l, hl0⟩ : ∃ l, l = r.length := ⟨_, rfl⟩
  have HL := Lib.hid hl0
  have HX := Lib.hid hlt
  have HA := Lib.hid hat
  have hl3 : l ≤ 100000 := by omega
  have hcase : (((m : Int) > (n : Int)) ∧ (n : Int) < (m : Int) ∧ n < m ∧ ((l : Int) = (m : Int))) ∨ ((¬ ((m : Int) > (n : Int))) ∧ ¬ (n : Int) < (m : Int) ∧ ¬ n < m ∧ ((l : Int) = (n : Int))) := by omega
  have S0 := Lib.hid (show JoinRel W r (.int .i64 0) (W.alloc (.cells (madeCells #[.int .u64 0] l) 30)) from
    ⟨0, Nat.zero_le _, rfl, by rw [fillL_zero, ← hl0]; exact RowQ.made W l, below_alloc (Below.refl _ _) _⟩)
  clear hl0 hlt hat hlr
  rcases hcase with ⟨e1, e2, e3, e4⟩ | ⟨e1, e2, e3, e4⟩
  all_goals
    have hmk := make_vec l e4 (by omega)
    clear e4
    go_enter Try.func35, Try.ntmps35
    go_wp2_with fail
    clear hmk e1 e2 e3
    generalize W.alloc (.cells (madeCells #[.int .u64 0] l) 30) = w0 at *
    go_loopw [15] (fun v wr => JoinRel W r v wr) (fun v _ => l - (intOf v).toNat)
    case atStart => exact S0.out
    case round =>
      obtain ⟨k, hk, rfl, hR, hb⟩ := hrel
      rw [← HL.out] at hk
      by_cases hlt : k < l
      · have i0 : (0 : Int) ≤ (k : Int) := by omega
        have i1 : (k : Int) < (l : Int) := by omega
        have kr : k < r.length := by rw [← HL.out]; exact hlt
        have C1 := Lib.hid (vat_any (z := (k : Int)) (A.out.below hb) HN.out (atZ_nat xs k))
        have C2 := Lib.hid (vat_any (z := (k : Int)) (B.out.below hb) HM.out (atZ_nat ys k))
        have d0 := hR.at (i := k) (by rw [fillL_length _ (Nat.le_of_lt kr)]; exact kr)
        have f0 := hR.fz k
        have R := Lib.hid (fun v (hv : v = atN r k) => JoinRel.step kr hR hb hv)
        rw [HA.out] at R
        clear hR hb kr
        generalize atN xs k = x at *
        generalize atN ys k = y at *
        generalize atN (fillL r k) k = u at *
        have hcase : ((y : Int) > (x : Int) ∧ (x : Int) < (y : Int) ∧ x < y ∧ y = max x y) ∨ (¬ (y : Int) > (x : Int) ∧ ¬ (x : Int) < (y : Int) ∧ ¬ x < y ∧ x = max x y) := by omega
        go_wp2_with fail
        refine C1.out.mono ?_
        rintro e w' ⟨rfl, rfl⟩
        go_wp2_with fail
        refine C2.out.mono ?_
        rintro e w' ⟨rfl, rfl⟩
        clear C1 C2
        rcases hcase with ⟨e1, e2, e3, e4⟩ | ⟨e1, e2, e3, e4⟩
        all_goals
          have R2 := Lib.hid (R.out _ e4)
          clear R e4
          go_wp2_with fail
          go_roundw
          case rel => exact R2.out
          case measure => simp only [intOf]; omega
      · obtain rfl : k = l := by omega
        have R := Lib.hid (show NewQ W r (.returned (.slice (some ⟨W.heap.size, 0, none⟩) k k)) wr from by
          have h := hR.conv (show fillL r k = r by rw [HL.out]; exact fillL_all r)
          have h2 := h.sl HX.out (by rw [← HL.out]; unfold maxLen; omega)
          rw [← HL.out] at h2
          exact ⟨_, k, by rw [← HL.out], h2, hb, (fun ad e => by cases e; exact Nat.le_refl _), by
            have h3 := h.own (Nat.le_refl _) (by rw [← HL.out]; unfold maxLen; omega)
            rw [← HL.out] at h3 ⊢
            exact h3⟩)
        clear hR hb
        go_wp2_with fail
        go_ret
        exact R.out

end Go.Proofs.Ytfiamomadicbpaa
