/-
  What chapter 15 tells of two rows.
-/
import Derived.Test.YtfiamomadicbpaaBjoi
import Derived.Test.YtfiamomadicbpaaBref
namespace Go.Proofs.Ytfiamomadicbpaa
open Go.RowKit

/-- A call that makes memory of its own. -/
def VOk (W : World) (e : Ending) (w' : World) : Prop := e = .returned (.bool true) ∧ Below W.heap.size W w'

def NewN (W : World) (xs : List Nat) (n : Nat) (e : Ending) (w' : World) : Prop :=
  ∃ a cap, e = .returned (.slice a n cap) ∧ SlAt qV QM w' a cap xs ∧ Below W.heap.size W w' ∧ (∀ ad, a = some ad → W.heap.size ≤ ad.block) ∧ w'.ownsRow W.heap.size 30 1 (.slice a n cap) n (xs.map qV)
def NewNb (W : World) (xs : List Nat) (n : Nat) (b : Bool) (e : Ending) (w' : World) : Prop :=
  ∃ a cap, e = .returned (.tuple #[.slice a n cap, .bool b]) ∧ SlAt qV QM w' a cap xs ∧ Below W.heap.size W w' ∧ (∀ ad, a = some ad → W.heap.size ≤ ad.block) ∧ w'.ownsRow W.heap.size 30 1 (.slice a n cap) n (xs.map qV)

theorem cl_new (W : World) {z : Int} {xs : List Nat} {n : Nat} (hz : newN z = n) (hx : List.replicate n 0 = xs) : Calls Try.prog 28 #[.int .i64 z] W (NewN W xs n) :=
  (vnew_any W z hz).mono fun e w ⟨a, cap, h1, h2, h3, h4, h5⟩ => ⟨a, cap, by rw [h1, List.length_replicate], hx ▸ h2, h3, h4, by rw [List.length_replicate, hx] at h5; exact h5⟩
theorem cl_up {W : World} {a : Option Addr} {cap n : Nat} {xs : List Nat} {z : Int} (h : SlAt qV QM W a cap xs) (hn : xs.length = n) (hl : n ≤ 100000) {b : Bool} (hb : mayUp xs z = b) {r : List Nat} (hr : upR xs z = r) {k : Nat} (hk : r.length = k) :
    Calls Try.prog 33 #[.slice a n cap, .int .i64 z] W (NewNb W r k b) :=
  (vup_any h hn hl hb hr).mono fun e w ⟨a, cap, h1, h2, h3, h4, h5⟩ => ⟨a, cap, by rw [h1, hk], h2, h3, h4, by rw [hk] at h5; exact h5⟩
theorem cl_join {W : World} {a1 a2 : Option Addr} {c1 c2 n m : Nat} {xs ys : List Nat} (h1 : SlAt qV QM W a1 c1 xs) (h2 : SlAt qV QM W a2 c2 ys) (hn : xs.length = n) (hm : ys.length = m) (hl : n ≤ 100000) (hl2 : m ≤ 100000) {r : List Nat} (hr : joinL xs ys = r) {k : Nat} (hk : r.length = k) :
    Calls Try.prog 35 #[.slice a1 n c1, .slice a2 m c2] W (NewN W r k) :=
  (vjoin_any h1 h2 hn hm hl hl2 hr).mono fun e w ⟨a, cap, h1, h2, h3, h4, h5⟩ => ⟨a, cap, by rw [h1, hk], h2, h3, h4, by rw [hk] at h5; exact h5⟩

theorem cl_rjoin {W : World} {a1 a2 : Option Addr} {c1 c2 n m : Nat} {xs ys : List Nat} (h1 : SlAt qV QM W a1 c1 xs) (h2 : SlAt qV QM W a2 c2 ys) (hn : xs.length = n) (hm : ys.length = m) (hl : n ≤ 100000) (hl2 : m ≤ 100000) {r : List Nat} (hr : joinL xs ys = r) {k : Nat} (hk : r.length = k) :
    Calls Try.prog 41 #[.slice a1 n c1, .slice a2 m c2] W (NewN W r k) :=
  (rjoin_any h1 h2 hn hm hl hl2 hr).mono fun e w ⟨a, cap, h1, h2, h3, h4, h5⟩ => ⟨a, cap, by rw [h1, hk], h2, h3, h4, by rw [hk] at h5; exact h5⟩
theorem size_one (w : World) (cs : Array Value) (t : TypeId) : (w.alloc (.cells cs t)).heap.size = w.heap.size + 1 := by simp
theorem nil_sl (W : World) : SlAt qV QM W none 0 [] := SlAt.none _ _ _


end Go.Proofs.Ytfiamomadicbpaa
