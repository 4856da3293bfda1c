/-
  One post, all else below N as it was: post.Post[int].
-/
import Derived.Test.YtedfiejocajpkaaYany
import Derived.Test.YtedfiejocajpkaaYnew
import Derived.Test.YtedfiejocajpkaaYon0
namespace Go.Proofs.Ytedfiejocajpkaa
open Go.RowKit

section
variable {W w : World} {N p n room : Nat} {B : Nat → List Int}

theorem pi_on_new (n room : Nat) (hb : Below N W w) (hN : N ≤ W.heap.size) (hn : 0 < n ∧ n ≤ 16) (hr : 0 < room ∧ room ≤ 64) :
    Calls Try.prog 8 #[.int .i64 (n : Int), .int .i64 (room : Int)] w fun E w' => ∃ p, E = .returned (.tuple #[.pointer (some ⟨p, 0, none⟩), .int .i64 0]) ∧ PoOn iV W N p n room (fun _ => []) w' := by
  have hNw : N ≤ w.heap.size := Nat.le_trans hN hb.size
  refine (pi_new n room w N hNw hn hr).mono ?_
  rintro E w' ⟨p, F, rfl, hA, hB, _⟩
  exact ⟨p, rfl, F, hA, hb.trans (hB.mono hNw)⟩
theorem pi_on_put {k : Int} {x : Int} {r : Bool} (h : PoOn iV W N p n room B w) (hr : canB n room B k = r) :
    Calls Try.prog 15 #[.pointer (some ⟨p, 0, none⟩), .int .i64 k, .int .i64 x] w fun E w' => E = .returned (.bool r) ∧ PoOn iV W N p n room (putB n room B k x) w' := by
  subst hr
  obtain ⟨F, hA, hB⟩ := h
  exact (pi_put hA k x).mono fun _ _ h => h.on hA hB
theorem pi_on_get {k : Int} {x : Int} {r : Bool} (h : PoOn iV W N p n room B w) (hx : topB 0 n B k = x) (hr : hasB n B k = r) :
    Calls Try.prog 17 #[.pointer (some ⟨p, 0, none⟩), .int .i64 k] w fun E w' => E = .returned (.tuple #[.int .i64 x, .bool r]) ∧ PoOn iV W N p n room (popB n B k) w' := by
  subst hx hr
  obtain ⟨F, hA, hB⟩ := h
  exact (pi_get hA k).mono fun _ _ h => h.on hA hB
theorem pi_on_any {m : Nat} {k : Int} {x : Int} {r : Bool} (h : PoOn iV W N p n room B w) (hm : m ≤ n) (hz : ∀ j, j < m → B j = []) (hx : m < n → B m ≠ []) (hk : (if m < n then (m : Int) else 0) = k) (hy : topB 0 n B (m : Int) = x) (hr : hasB n B (m : Int) = r) :
    Calls Try.prog 19 #[.pointer (some ⟨p, 0, none⟩)] w fun E w' => E = .returned (.tuple #[.int .i64 k, .int .i64 x, .bool r]) ∧ PoOn iV W N p n room (popB n B (m : Int)) w' := by
  subst hk hy hr
  obtain ⟨F, hA, hB⟩ := h
  exact (pi_any hA m hm hz hx).mono fun _ _ h => h.on hA hB
theorem pi_on_either {a b k : Int} {x : Int} {r : Bool} (h : PoOn iV W N p n room B w) (hk : eiN n B a b = k) (hx : eiX 0 n B a b = x) (hr : (hasB n B a || hasB n B b) = r) :
    Calls Try.prog 21 #[.pointer (some ⟨p, 0, none⟩), .int .i64 a, .int .i64 b] w fun E w' => E = .returned (.tuple #[.int .i64 k, .int .i64 x, .bool r]) ∧ PoOn iV W N p n room (eiB n B a b) w' := by
  subst hk hx hr
  obtain ⟨F, hA, hB⟩ := h
  exact (pi_either hA a b).mono fun _ _ h => h.on hA hB
theorem pi_on_len {k z : Int} (h : PoOn iV W N p n room B w) (hz : (lenB n B k : Int) = z) :
    Calls Try.prog 23 #[.pointer (some ⟨p, 0, none⟩), .int .i64 k] w fun E w' => E = .returned (.int .i64 z) ∧ w' = w := by
  subst hz
  obtain ⟨F, hA, hB⟩ := h
  exact pi_len hA k
end

end Go.Proofs.Ytedfiejocajpkaa
