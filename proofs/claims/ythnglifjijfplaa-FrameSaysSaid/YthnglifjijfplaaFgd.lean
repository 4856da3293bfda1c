/-
  Which frames may be: the program's own.
-/
import Derived.Test.YthnglifjijfplaaFfrm
namespace Go.Proofs.Ythnglifjijfplaa
open Go.RowKit

set_option maxRecDepth 20000 in
set_option maxHeartbeats 4000000 in
theorem fgood_any (f : Frm) (a : Option Addr) (c : Nat) (W : World) (hs : SlAt bV 256 W a c f.bod) :
    Calls Try.prog 16 #[.agg (frmA f a c)] W fun e w' => e = .returned (.bool (goodF f)) ∧ Below W.heap.size W w' := by
  have X1 := Fun.new hs 27
  have hfit := hs.fit
  have hmax := hs.max
  unfold maxLen at hmax
  clear hs
  cases hA : f.ack
  · by_cases hn : f.num = 0
    · have G := Lib.hid (show goodF f = false by simp [goodF, hA, hn])
      go_enter Try.func16, Try.ntmps16
      go_wp2_with fail
      generalize W.alloc (.cells (frmA f a c) 27) = w1 at X1 ⊢
      obtain ⟨j0, j1, j2⟩ := X1.out.bx
      rw [hA] at j0
      rw [hn] at j1
      clear hA hn
      go_wp2_with fail
      go_ret
      exact ⟨by rw [G.out]; rfl, X1.out.be⟩
    · have G := Lib.hid (show goodF f = decide (f.bod.length ≤ 30000) by simp [goodF, hA]; omega)
      go_enter Try.func16, Try.ntmps16
      go_wp2_with fail
      generalize W.alloc (.cells (frmA f a c) 27) = w1 at X1 ⊢
      obtain ⟨j0, j1, j2⟩ := X1.out.bx
      rw [hA] at j0
      clear hA
      have hn' : decide ((0 : Int) < (f.num : Int)) = true := decide_eq_true (by omega)
      have hn2 : decide (0 < f.num) = true := decide_eq_true (by omega)
      clear hn
      go_wp2_with fail
      go_ret
      exact ⟨by rw [G.out]; simp; omega, X1.out.be⟩
  · have G := Lib.hid (show goodF f = decide (f.bod = []) by simp [goodF, hA])
    have E := Lib.hid (nil_test f.bod)
    go_enter Try.func16, Try.ntmps16
    go_wp2_with fail
    generalize W.alloc (.cells (frmA f a c) 27) = w1 at X1 ⊢
    obtain ⟨j0, j1, j2⟩ := X1.out.bx
    rw [hA] at j0
    clear hA
    go_wp2_with fail
    go_ret
    exact ⟨by rw [G.out]; exact ret_b E.out, X1.out.be⟩
theorem fgood_is {f : Frm} {a : Option Addr} {c : Nat} {W : World} {r : Bool} (hs : SlAt bV 256 W a c f.bod) (h : goodF f = r) :
    Calls Try.prog 16 #[.agg (frmA f a c)] W fun e w' => e = .returned (.bool r) ∧ Below W.heap.size W w' := by
  subst h; exact fgood_any f a c W hs

end Go.Proofs.Ythnglifjijfplaa
