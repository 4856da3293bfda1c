/-
  A reader begins.
-/
import Derived.Test.YthnglifjijfplaaPrb
namespace Go.Proofs.Ythnglifjijfplaa
open Go.RowKit

def NewRdPost (W : World) (bs : List Nat) (e : Ending) (w' : World) : Prop :=
  ∃ p S, e = .returned (.pointer (some ⟨p, 0, none⟩)) ∧ RdAt w' p S (some bs) ∧ Below W.heap.size W w' ∧ W.heap.size ≤ p ∧ ∀ k, S k → W.heap.size ≤ k ∧ k < p

theorem new_rd {W w1 : World} {bs : List Nat} {a : Option Addr} {cap : Nat} {t : TypeId} (hs : SlAt bV 256 w1 a cap bs) (hb : Below W.heap.size W w1) (hf : ∀ ad, a = some ad → W.heap.size ≤ ad.block ∧ ad.block < w1.heap.size) :
    NewRdPost W bs (.returned (.pointer (some ⟨w1.heap.size, 0, none⟩))) (w1.alloc (.cells #[.slice a bs.length cap, .bool false] t)) := by
  refine ⟨w1.heap.size, fun k => W.heap.size ≤ k ∧ k < w1.heap.size, rfl, ⟨a, cap, ?_⟩, hb.alloc hb.size _, hb.size, fun k h => h⟩
  exact ⟨by simp, by simp, fun i => by simp, by simp, hs.below ((Below.refl _ _).alloc (Nat.le_refl _) _), (fun ad e _ => hf ad e), fun h => by omega⟩

set_option maxHeartbeats 2000000 in
theorem rnew_any (W : World) (bs : List Nat) (ao : Option Addr) (cap : Nat) (hs : SlAt bV 256 W ao cap bs) (hl : bs.length ≤ 2000000) :
    Calls Try.prog 12 #[.slice ao bs.length cap] W (NewRdPost W bs) := by
  have HS := Lib.hid hs
  clear hs
  go_enter Try.func12, Try.ntmps12
  go_wp2_with fail
  refine (clone_any bs ao cap W HS.out hl).mono ?_
  rintro e w1 ⟨a1, cap1, rfl, hs1, hb1, hf1⟩
  have R := Lib.hid (new_rd (t := 57) hs1 hb1 hf1)
  clear hs1 hb1 hf1
  go_wp2_with fail
  go_ret
  exact R.out

end Go.Proofs.Ythnglifjijfplaa
