/-
  One post, all else below N as it was: post.Post[string].
-/
import Derived.Test.YtedfiejocajpkaaZany
import Derived.Test.YtedfiejocajpkaaZnew
import Derived.Test.YtedfiejocajpkaaYon0
namespace Go.Proofs.Ytedfiejocajpkaa
open Go.RowKit

section
variable {W w : World} {N p n room : Nat} {B : Nat → List ByteArray}

theorem ps_on_new (n room : Nat) (hb : Below N W w) (hN : N ≤ W.heap.size) (hn : 0 < n ∧ n ≤ 16) (hr : 0 < room ∧ room ≤ 64) :
    Calls Try.prog 9 #[.int .i64 (n : Int), .int .i64 (room : Int)] w fun E w' => ∃ p, E = .returned (.tuple #[.pointer (some ⟨p, 0, none⟩), .int .i64 0]) ∧ PoOn sV W N p n room (fun _ => []) w' := by
  have hNw : N ≤ w.heap.size := Nat.le_trans hN hb.size
  refine (ps_new n room w N hNw hn hr).mono ?_
  rintro E w' ⟨p, F, rfl, hA, hB, _⟩
  exact ⟨p, rfl, F, hA, hb.trans (hB.mono hNw)⟩
theorem ps_on_put {k : Int} {x : ByteArray} {r : Bool} (h : PoOn sV W N p n room B w) (hr : canB n room B k = r) :
    Calls Try.prog 10 #[.pointer (some ⟨p, 0, none⟩), .int .i64 k, .string x] w fun E w' => E = .returned (.bool r) ∧ PoOn sV W N p n room (putB n room B k x) w' := by
  subst hr
  obtain ⟨F, hA, hB⟩ := h
  exact (ps_put hA k x).mono fun _ _ h => h.on hA hB
theorem ps_on_get {k : Int} {x : ByteArray} {r : Bool} (h : PoOn sV W N p n room B w) (hx : topB ⟨#[]⟩ n B k = x) (hr : hasB n B k = r) :
    Calls Try.prog 11 #[.pointer (some ⟨p, 0, none⟩), .int .i64 k] w fun E w' => E = .returned (.tuple #[.string x, .bool r]) ∧ PoOn sV W N p n room (popB n B k) w' := by
  subst hx hr
  obtain ⟨F, hA, hB⟩ := h
  exact (ps_get hA k).mono fun _ _ h => h.on hA hB
theorem ps_on_any {m : Nat} {k : Int} {x : ByteArray} {r : Bool} (h : PoOn sV W N p n room B w) (hm : m ≤ n) (hz : ∀ j, j < m → B j = []) (hx : m < n → B m ≠ []) (hk : (if m < n then (m : Int) else 0) = k) (hy : topB ⟨#[]⟩ n B (m : Int) = x) (hr : hasB n B (m : Int) = r) :
    Calls Try.prog 13 #[.pointer (some ⟨p, 0, none⟩)] w fun E w' => E = .returned (.tuple #[.int .i64 k, .string x, .bool r]) ∧ PoOn sV W N p n room (popB n B (m : Int)) w' := by
  subst hk hy hr
  obtain ⟨F, hA, hB⟩ := h
  exact (ps_any hA m hm hz hx).mono fun _ _ h => h.on hA hB
theorem ps_on_either {a b k : Int} {x : ByteArray} {r : Bool} (h : PoOn sV W N p n room B w) (hk : eiN n B a b = k) (hx : eiX ⟨#[]⟩ n B a b = x) (hr : (hasB n B a || hasB n B b) = r) :
    Calls Try.prog 12 #[.pointer (some ⟨p, 0, none⟩), .int .i64 a, .int .i64 b] w fun E w' => E = .returned (.tuple #[.int .i64 k, .string x, .bool r]) ∧ PoOn sV W N p n room (eiB n B a b) w' := by
  subst hk hx hr
  obtain ⟨F, hA, hB⟩ := h
  exact (ps_either hA a b).mono fun _ _ h => h.on hA hB
theorem ps_on_len {k z : Int} (h : PoOn sV W N p n room B w) (hz : (lenB n B k : Int) = z) :
    Calls Try.prog 14 #[.pointer (some ⟨p, 0, none⟩), .int .i64 k] w fun E w' => E = .returned (.int .i64 z) ∧ w' = w := by
  subst hz
  obtain ⟨F, hA, hB⟩ := h
  exact ps_len hA k
end

end Go.Proofs.Ytedfiejocajpkaa
