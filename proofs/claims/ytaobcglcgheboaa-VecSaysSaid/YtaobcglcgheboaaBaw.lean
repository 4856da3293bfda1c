/-
  What chapter 15 tells of two rows.
-/
import Derived.Test.YtaobcglcgheboaaBjoi
namespace Go.Proofs.Ytaobcglcgheboaa
open Go.RowKit

/-- A call that makes memory of its own. -/
def VOk (W : World) (e : Ending) (w' : World) : Prop := e = .returned (.bool true) ∧ Below W.heap.size W w'

def NewN (W : World) (xs : List Nat) (n : Nat) (e : Ending) (w' : World) : Prop :=
  ∃ a cap, e = .returned (.slice a n cap) ∧ SlAt qV QM w' a cap xs ∧ Below W.heap.size W w' ∧ ∀ ad, a = some ad → W.heap.size ≤ ad.block
def NewNb (W : World) (xs : List Nat) (n : Nat) (b : Bool) (e : Ending) (w' : World) : Prop :=
  ∃ a cap, e = .returned (.tuple #[.slice a n cap, .bool b]) ∧ SlAt qV QM w' a cap xs ∧ Below W.heap.size W w' ∧ ∀ ad, a = some ad → W.heap.size ≤ ad.block

theorem cl_new (W : World) {z : Int} {xs : List Nat} {n : Nat} (hz : newN z = n) (hx : List.replicate n 0 = xs) : Calls Try.prog 14 #[.int .i64 z] W (NewN W xs n) :=
  (vnew_any W z hz).mono fun e w ⟨a, cap, h1, h2, h3⟩ => ⟨a, cap, by rw [h1, List.length_replicate], hx ▸ h2, h3⟩
theorem cl_up {W : World} {a : Option Addr} {cap n : Nat} {xs : List Nat} {z : Int} (h : SlAt qV QM W a cap xs) (hn : xs.length = n) (hl : n ≤ 100000) {b : Bool} (hb : mayUp xs z = b) {r : List Nat} (hr : upR xs z = r) {k : Nat} (hk : r.length = k) :
    Calls Try.prog 9 #[.slice a n cap, .int .i64 z] W (NewNb W r k b) :=
  (vup_any h hn hl hb hr).mono fun e w ⟨a, cap, h1, h2, h3⟩ => ⟨a, cap, by rw [h1, hk], h2, h3⟩
theorem cl_join {W : World} {a1 a2 : Option Addr} {c1 c2 n m : Nat} {xs ys : List Nat} (h1 : SlAt qV QM W a1 c1 xs) (h2 : SlAt qV QM W a2 c2 ys) (hn : xs.length = n) (hm : ys.length = m) (hl : n ≤ 100000) (hl2 : m ≤ 100000) {r : List Nat} (hr : joinL xs ys = r) {k : Nat} (hk : r.length = k) :
    Calls Try.prog 12 #[.slice a1 n c1, .slice a2 m c2] W (NewN W r k) :=
  (vjoin_any h1 h2 hn hm hl hl2 hr).mono fun e w ⟨a, cap, h1, h2, h3⟩ => ⟨a, cap, by rw [h1, hk], h2, h3⟩

theorem size_one (w : World) (cs : Array Value) (t : TypeId) : (w.alloc (.cells cs t)).heap.size = w.heap.size + 1 := by simp
theorem nil_sl (W : World) : SlAt qV QM W none 0 [] := SlAt.none _ _ _

set_option maxRecDepth 20000 in
set_option maxHeartbeats 4000000 in
theorem vawake_any (W : World) : Calls Try.prog 8 #[] W (VOk W) := by
  go_enter Try.func8, Try.ntmps8
  go_wp2_with fail
  refine (cl_new W (z := 2) (xs := [0, 0]) (n := 2) rfl rfl).mono ?_
  rintro e w1 ⟨a1, c1, rfl, h1, hb, -⟩
  have B1 := Lib.hid hb
  have S1 := Lib.hid h1
  clear h1 hb
  go_wp2_with fail
  refine (cl_up (z := 1) (b := true) (r := [0, 1]) (k := 2) (n := 2) S1.out rfl (by omega) (by decide) (by decide) rfl).mono ?_
  rintro e w2 ⟨a2, c2, rfl, h2, hb, -⟩
  have B2 := Lib.hid (B1.out.trans (hb.mono B1.out.size))
  have S2 := Lib.hid h2
  clear h2 hb S1 B1
  go_wp2_with fail
  have L3 := Lib.hid (sl_lit w2 [1, 0] #[.int .u64 1, .int .u64 0] 27 2 rfl rfl (by simp) (by unfold maxLen; omega))
  have B3 := Lib.hid (B2.out.alloc B2.out.size (.cells #[.int .u64 1, .int .u64 0] 27))
  have S3 := Lib.hid (S2.out.below ((Below.refl _ w2).alloc (Nat.le_refl _) (.cells #[.int .u64 1, .int .u64 0] 27)))
  have Z3 := Lib.hid (size_one w2 #[.int .u64 1, .int .u64 0] 27)
  generalize w2.alloc (.cells #[.int .u64 1, .int .u64 0] 27) = w3 at *
  have L4 := Lib.hid (sl_lit w3 [0, 1] #[.int .u64 0, .int .u64 1] 27 2 rfl rfl (by simp) (by unfold maxLen; omega))
  have B4 := Lib.hid (B3.out.alloc B3.out.size (.cells #[.int .u64 0, .int .u64 1] 27))
  have K4 := Lib.hid ((Below.refl _ w3).alloc (Nat.le_refl _) (.cells #[.int .u64 0, .int .u64 1] 27))
  have S4 := Lib.hid (S3.out.below K4.out)
  have L34 := Lib.hid (L3.out.below K4.out)
  rw [Z3.out] at L4
  clear S2 B2 S3 L3 B3 K4 Z3
  generalize w3.alloc (.cells #[.int .u64 0, .int .u64 1] 27) = w4 at *
  refine (vcmp_any (z := 2) (n := 2) (m := 2) L34.out L4.out rfl rfl (by decide)).mono ?_
  rintro e w' ⟨rfl, rfl⟩
  clear L34 L4
  go_wp2_with fail
  have L5 := Lib.hid (sl_lit w4 [0, 1] #[.int .u64 0, .int .u64 1] 27 2 rfl rfl (by simp) (by unfold maxLen; omega))
  have B5 := Lib.hid (B4.out.alloc B4.out.size (.cells #[.int .u64 0, .int .u64 1] 27))
  have S5 := Lib.hid (S4.out.below ((Below.refl _ w4).alloc (Nat.le_refl _) (.cells #[.int .u64 0, .int .u64 1] 27)))
  clear S4 B4
  generalize w4.alloc (.cells #[.int .u64 0, .int .u64 1] 27) = w5 at *
  refine (longs_any (r := true) (n := 2) (m := 2) S5.out L5.out rfl rfl (by decide)).mono ?_
  rintro e w6 ⟨rfl, q, hw⟩
  have S6 := Lib.hid (S5.out.drewN q)
  have B6 := Lib.hid (drewN_b B5.out q)
  rw [← hw] at S6 B6
  clear hw S5 B5 L5
  go_wp2_with fail
  refine (vat_any (z := 1) (v := 1) (n := 2) S6.out rfl (by decide)).mono ?_
  rintro e w' ⟨rfl, rfl⟩
  go_wp2_with fail
  go_ret
  exact ⟨rfl, B6.out⟩

end Go.Proofs.Ytaobcglcgheboaa
