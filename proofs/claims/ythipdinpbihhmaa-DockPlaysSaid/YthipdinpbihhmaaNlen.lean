/-
  How many bits a small number has.
-/
import Derived.Test.YthipdinpbihhmaaNless
namespace Go.Proofs.Ythipdinpbihhmaa
open Go.RowKit

def LenPost (x : Nat) (W : World) (e : Ending) (w : World) : Prop := ∃ L : Nat, e = .returned (.int .i64 (L : Nat)) ∧ (0 < x → 1 ≤ L) ∧ L ≤ 8 ∧ w = W

set_option maxRecDepth 20000 in
set_option maxHeartbeats 2000000 in
theorem len64_any (x : Nat) (W : World) (hx : x < 16) : Calls Try.prog 38 #[.int .u64 (x : Nat)] W (LenPost x W) := by
  have h : x = 0 ∨ x = 1 ∨ x = 2 ∨ x = 3 ∨ x = 4 ∨ x = 5 ∨ x = 6 ∨ x = 7 ∨ x = 8 ∨ x = 9 ∨ x = 10 ∨ x = 11 ∨ x = 12 ∨ x = 13 ∨ x = 14 ∨ x = 15 := by omega
  clear hx
  rcases h with rfl | rfl | rfl | rfl | rfl | rfl | rfl | rfl | rfl | rfl | rfl | rfl | rfl | rfl | rfl | rfl
  · go_enter Try.func38, Try.ntmps38
    go_wp2_with fail
    go_ret
    exact ⟨0, by kernel_rfl, by decide, by decide, rfl⟩
  · go_enter Try.func38, Try.ntmps38
    go_wp2_with fail
    go_ret
    exact ⟨1, by kernel_rfl, by decide, by decide, rfl⟩
  · go_enter Try.func38, Try.ntmps38
    go_wp2_with fail
    go_ret
    exact ⟨2, by kernel_rfl, by decide, by decide, rfl⟩
  · go_enter Try.func38, Try.ntmps38
    go_wp2_with fail
    go_ret
    exact ⟨2, by kernel_rfl, by decide, by decide, rfl⟩
  · go_enter Try.func38, Try.ntmps38
    go_wp2_with fail
    go_ret
    exact ⟨3, by kernel_rfl, by decide, by decide, rfl⟩
  · go_enter Try.func38, Try.ntmps38
    go_wp2_with fail
    go_ret
    exact ⟨3, by kernel_rfl, by decide, by decide, rfl⟩
  · go_enter Try.func38, Try.ntmps38
    go_wp2_with fail
    go_ret
    exact ⟨3, by kernel_rfl, by decide, by decide, rfl⟩
  · go_enter Try.func38, Try.ntmps38
    go_wp2_with fail
    go_ret
    exact ⟨3, by kernel_rfl, by decide, by decide, rfl⟩
  · go_enter Try.func38, Try.ntmps38
    go_wp2_with fail
    go_ret
    exact ⟨4, by kernel_rfl, by decide, by decide, rfl⟩
  · go_enter Try.func38, Try.ntmps38
    go_wp2_with fail
    go_ret
    exact ⟨4, by kernel_rfl, by decide, by decide, rfl⟩
  · go_enter Try.func38, Try.ntmps38
    go_wp2_with fail
    go_ret
    exact ⟨4, by kernel_rfl, by decide, by decide, rfl⟩
  · go_enter Try.func38, Try.ntmps38
    go_wp2_with fail
    go_ret
    exact ⟨4, by kernel_rfl, by decide, by decide, rfl⟩
  · go_enter Try.func38, Try.ntmps38
    go_wp2_with fail
    go_ret
    exact ⟨4, by kernel_rfl, by decide, by decide, rfl⟩
  · go_enter Try.func38, Try.ntmps38
    go_wp2_with fail
    go_ret
    exact ⟨4, by kernel_rfl, by decide, by decide, rfl⟩
  · go_enter Try.func38, Try.ntmps38
    go_wp2_with fail
    go_ret
    exact ⟨4, by kernel_rfl, by decide, by decide, rfl⟩
  · go_enter Try.func38, Try.ntmps38
    go_wp2_with fail
    go_ret
    exact ⟨4, by kernel_rfl, by decide, by decide, rfl⟩

theorem len_any (x : Nat) (W : World) (hx : x < 16) : Calls Try.prog 27 #[.int .u64 (x : Nat)] W (LenPost x W) := by
  have w1 : IntKind.u64.wrap (x : Int) = (x : Int) := by
    simp only [IntKind.wrap, IntKind.bits, IntKind.signed]
    simp
    omega
  have L := Lib.hid (len64_any x W hx)
  clear hx
  go_enter Try.func27, Try.ntmps27
  go_wp2_with (go_at_call 38; refine L.out.mono ?_; rintro e w' ⟨v, rfl, h1, h2, rfl⟩)
  go_ret
  exact ⟨v, rfl, h1, h2, rfl⟩

end Go.Proofs.Ythipdinpbihhmaa
