/-
  Texts of this claim, put together.
-/
import Derived.Test.YtfbojcaedcimcaaMab
import Derived.Lib.Hide
import Derived.Deep.QuietTactic
import Derived.BigQuiet

/-
  Which is less; two in order; the middle of three.
-/
namespace Go.Proofs.Ytfbojcaedcimcaa
open Go.RowKit

theorem isnan_any (x : Int) (W : World) : Calls Try.prog 83 #[.int .u64 x] W fun e w' => e = .returned (.bool false) ∧ w' = W := by
  have h : (x != x) = false := by simp
  go_enter Try.func83, Try.ntmps83
  go_wp2_with fail
  go_ret
  exact ⟨by simp, rfl⟩

theorem less_any (x y : Int) (b : Bool) (hb : decide (x < y) = b) (W : World) : Calls Try.prog 73 #[.int .u64 x, .int .u64 y] W fun e w' => e = .returned (.bool b) ∧ w' = W := by
  go_enter Try.func73, Try.ntmps73
  go_wp2_with (go_at_call 83; refine (isnan_any _ _).mono ?_; rintro e w' ⟨rfl, rfl⟩)
  go_ret
  exact ⟨by first | rfl | simp [← hb], rfl⟩

def lo (f : Nat → Nat) (a b : Nat) : Nat := if f b < f a then b else a
def hi (f : Nat → Nat) (a b : Nat) : Nat := if f b < f a then a else b

theorem one_put (V : Nat → Value) (u v : Value) (e : u = v) : ∀ o, o < 1 → updc V 0 u o = (fun _ => v) o := by
  intro o ho
  obtain rfl : o = 0 := by omega
  unfold updc
  rw [if_pos rfl, e]

/-- What is left by what counts how often it exchanged. -/
def CntPost (s k m : Nat) (v : Value) (W : World) (e : Ending) (w : World) : Prop :=
  e = .returned v ∧ ∃ k', k' ≤ k + m ∧ Cel 1 w s (fun _ => .int .i64 ((k' : Nat) : Int)) ∧ Keep (fun j => j = s) W w

theorem order2_any {n g s k a b cap : Nat} {f : Nat → Nat} {W : World} (hr : Row n W g f) (hs : Cel 1 W s (fun _ => .int .i64 ((k : Nat) : Int))) (ha : a < n) (hb : b < n) (hk : k < 100) :
    Calls Try.prog 84 #[.slice (some ⟨g, 0, none⟩) n cap, .int .i64 (a : Nat), .int .i64 (b : Nat), .pointer (some ⟨s, 0, none⟩)] W
      (CntPost s k 1 (.tuple #[.int .i64 (lo f a b : Nat), .int .i64 (hi f a b : Nat)]) W) := by
  have ca := hr.at ha
  have cb := hr.at hb
  have cs := hs.c 0 (by omega)
  have fs := hs.fz 0
  have P0 := Lib.hid (fun q => show CntPost s k 1 (.tuple #[.int .i64 (a : Nat), .int .i64 (b : Nat)]) W (.returned (.tuple #[.int .i64 (a : Nat), .int .i64 (b : Nat)])) (W.drewN q) from
    ⟨rfl, k, by omega, hs.drewN q, (Keep.refl _ W).drewN q⟩)
  have P1 := Lib.hid (fun q => show CntPost s k 1 (.tuple #[.int .i64 (b : Nat), .int .i64 (a : Nat)]) W (.returned (.tuple #[.int .i64 (b : Nat), .int .i64 (a : Nat)])) ((W.drewN q).setCell ⟨s, 0, none⟩ (.int .i64 ((k : Int) + 1))) from
    ⟨rfl, k + 1, by omega, ((hs.drewN q).put 0 _).conv (one_put _ _ _ (by simp)), ((Keep.refl _ W).drewN q).put 0 _⟩)
  have ia : (a : Int) < (n : Int) := by omega
  have ib : (b : Int) < (n : Int) := by omega
  have ia0 : (0 : Int) ≤ (a : Int) := by omega
  have ib0 : (0 : Int) ≤ (b : Int) := by omega
  have kw : IntKind.i64.wrap ((k : Int) + 1) = (k : Int) + 1 := wrapN (by omega)
  clear hr hs
  go_enter Try.func84, Try.ntmps84
  unfold lo hi
  by_cases h : f b < f a
  · have hl : decide (((f b : Nat) : Int) < ((f a : Nat) : Int)) = true := decide_eq_true (by omega)
    rw [if_pos h, if_pos h]
    clear h
    generalize f a = x at *
    generalize f b = y at *
    go_wp2_with fail
    go_quiet ((go_at_call 73; exact Calls.quiet_of_same (less_any _ _ _ hl _)))
    go_wp2_with fail
    go_ret2
    exact P1.out _
  · have hl : decide (((f b : Nat) : Int) < ((f a : Nat) : Int)) = false := decide_eq_false (by omega)
    rw [if_neg h, if_neg h]
    clear h
    generalize f a = x at *
    generalize f b = y at *
    go_wp2_with fail
    go_quiet ((go_at_call 73; exact Calls.quiet_of_same (less_any _ _ _ hl _)))
    go_wp2_with fail
    go_ret2
    exact P0.out _

end Go.Proofs.Ytfbojcaedcimcaa

/-
  How many bits a small number has.
-/
namespace Go.Proofs.Ytfbojcaedcimcaa
open Go.RowKit

def LenPost (x : Nat) (W : World) (e : Ending) (w : World) : Prop := ∃ L : Nat, e = .returned (.int .i64 (L : Nat)) ∧ (0 < x → 1 ≤ L) ∧ L ≤ 8 ∧ w = W

set_option maxRecDepth 20000 in
set_option maxHeartbeats 2000000 in
theorem len64_any (x : Nat) (W : World) (hx : x < 16) : Calls Try.prog 77 #[.int .u64 (x : Nat)] W (LenPost x W) := by
  have h : x = 0 ∨ x = 1 ∨ x = 2 ∨ x = 3 ∨ x = 4 ∨ x = 5 ∨ x = 6 ∨ x = 7 ∨ x = 8 ∨ x = 9 ∨ x = 10 ∨ x = 11 ∨ x = 12 ∨ x = 13 ∨ x = 14 ∨ x = 15 := by omega
  clear hx
  rcases h with rfl | rfl | rfl | rfl | rfl | rfl | rfl | rfl | rfl | rfl | rfl | rfl | rfl | rfl | rfl | rfl
  · go_enter Try.func77, Try.ntmps77
    go_wp2_with fail
    go_ret
    exact ⟨0, by kernel_rfl, by decide, by decide, rfl⟩
  · go_enter Try.func77, Try.ntmps77
    go_wp2_with fail
    go_ret
    exact ⟨1, by kernel_rfl, by decide, by decide, rfl⟩
  · go_enter Try.func77, Try.ntmps77
    go_wp2_with fail
    go_ret
    exact ⟨2, by kernel_rfl, by decide, by decide, rfl⟩
  · go_enter Try.func77, Try.ntmps77
    go_wp2_with fail
    go_ret
    exact ⟨2, by kernel_rfl, by decide, by decide, rfl⟩
  · go_enter Try.func77, Try.ntmps77
    go_wp2_with fail
    go_ret
    exact ⟨3, by kernel_rfl, by decide, by decide, rfl⟩
  · go_enter Try.func77, Try.ntmps77
    go_wp2_with fail
    go_ret
    exact ⟨3, by kernel_rfl, by decide, by decide, rfl⟩
  · go_enter Try.func77, Try.ntmps77
    go_wp2_with fail
    go_ret
    exact ⟨3, by kernel_rfl, by decide, by decide, rfl⟩
  · go_enter Try.func77, Try.ntmps77
    go_wp2_with fail
    go_ret
    exact ⟨3, by kernel_rfl, by decide, by decide, rfl⟩
  · go_enter Try.func77, Try.ntmps77
    go_wp2_with fail
    go_ret
    exact ⟨4, by kernel_rfl, by decide, by decide, rfl⟩
  · go_enter Try.func77, Try.ntmps77
    go_wp2_with fail
    go_ret
    exact ⟨4, by kernel_rfl, by decide, by decide, rfl⟩
  · go_enter Try.func77, Try.ntmps77
    go_wp2_with fail
    go_ret
    exact ⟨4, by kernel_rfl, by decide, by decide, rfl⟩
  · go_enter Try.func77, Try.ntmps77
    go_wp2_with fail
    go_ret
    exact ⟨4, by kernel_rfl, by decide, by decide, rfl⟩
  · go_enter Try.func77, Try.ntmps77
    go_wp2_with fail
    go_ret
    exact ⟨4, by kernel_rfl, by decide, by decide, rfl⟩
  · go_enter Try.func77, Try.ntmps77
    go_wp2_with fail
    go_ret
    exact ⟨4, by kernel_rfl, by decide, by decide, rfl⟩
  · go_enter Try.func77, Try.ntmps77
    go_wp2_with fail
    go_ret
    exact ⟨4, by kernel_rfl, by decide, by decide, rfl⟩
  · go_enter Try.func77, Try.ntmps77
    go_wp2_with fail
    go_ret
    exact ⟨4, by kernel_rfl, by decide, by decide, rfl⟩

theorem len_any (x : Nat) (W : World) (hx : x < 16) : Calls Try.prog 65 #[.int .u64 (x : Nat)] W (LenPost x W) := by
  have w1 : IntKind.u64.wrap (x : Int) = (x : Int) := by
    simp only [IntKind.wrap, IntKind.bits, IntKind.signed]
    simp
    omega
  have L := Lib.hid (len64_any x W hx)
  clear hx
  go_enter Try.func65, Try.ntmps65
  go_wp2_with (go_at_call 77; refine L.out.mono ?_; rintro e w' ⟨v, rfl, h1, h2, rfl⟩)
  go_ret
  exact ⟨v, rfl, h1, h2, rfl⟩

end Go.Proofs.Ytfbojcaedcimcaa
