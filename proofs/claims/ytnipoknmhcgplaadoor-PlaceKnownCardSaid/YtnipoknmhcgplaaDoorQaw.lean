/-
  What the document tells of a small one.
-/
import Derived.Test.YtnipoknmhcgplaaDoorQkeep
namespace Go.Proofs.YtnipoknmhcgplaaDoor
open Go.RowKit

def OkPost (W : World) (e : Ending) (w' : World) : Prop := e = .returned (.bool true) ∧ Below W.heap.size W w'

theorem of_lit {xs : List Int} {b n : Nat} {z : Int} {w W : World} (cs : Array Value) (hW : w.alloc (.cells cs 3) = W) (hb : w.heap.size = b) (hcs : cs = (xs.map iV).toArray) (hn : xs.length = n) (hm : n ≤ 1000) (hx : ∀ x ∈ xs, IntOk x) (hz : ((ofN xs : Nat) : Int) = z) :
    Calls Tryd.prog 18 #[.slice (some ⟨b, 0, none⟩) n n] W fun e w' => e = .returned (.int .u64 z) ∧ W = w' := by
  subst hW hb hz
  exact of_end (slv_lit w (xs.map iV) cs 3 n hcs (by simpa using hn) (by unfold maxLen; omega)) hx hn rfl
theorem may_lit {c : Cfg} {ao : Option Addr} {cap : Nat} {p : Int} {to : Nat} {z : Int} {r : Bool} {W : World} (hs : SlV W ao cap (c.vs.map uV)) (hk : CfgOk c) (hp : IntOk p) (ht : to < 18446744073709551616) (hz : (to : Int) = z) (h : mayC c p to = r) :
    Calls Tryd.prog 11 #[.agg (cfgA c ao cap), .int .i64 p, .int .u64 z] W fun e w' => e = .returned (.bool r) ∧ Below W.heap.size W w' := by
  subst hz; exact may_is hs hk hp ht h
theorem ok2 (a b : Int) (h : -9223372036854775808 ≤ a ∧ a ≤ 9223372036854775807 := by decide) (h2 : -9223372036854775808 ≤ b ∧ b ≤ 9223372036854775807 := by decide) : IntOk a ∧ IntOk b := ⟨h, h2⟩

set_option maxRecDepth 20000 in
set_option maxHeartbeats 4000000 in
theorem awake_any (W : World) : Calls Tryd.prog 6 #[] W (OkPost W) := by
  have O1 := Lib.hid (plain_ok (ok2 3 1).1 (ok2 3 1).2)
  have O2 := Lib.hid (plain_ok (ok2 3 2).1 (ok2 3 2).2)
  go_enter Tryd.func6, Tryd.ntmps6
  go_wp2_with fail
  refine (plain_any 3 1 _ (ok2 3 1).1).mono ?_
  rintro e w1 ⟨a1, rfl, hs, hb⟩
  have B1 := Lib.hid hb
  have S1 := Lib.hid hs
  clear hb hs
  go_wp2_with fail
  have B2 := Lib.hid (below_alloc B1.out (.cells #[.int .i64 1, .int .i64 2] 3))
  have S2 := Lib.hid (S1.out.below (below_alloc (Below.refl _ _) (.cells #[.int .i64 1, .int .i64 2] 3)))
  clear B1 S1
  refine (of_lit (xs := [1, 2]) (z := 6) #[.int .i64 1, .int .i64 2] rfl rfl rfl rfl (by decide) (by intro x hx; unfold IntOk; simp at hx; omega) (by decide)).mono ?_
  rintro e w2 ⟨rfl, rfl⟩
  generalize w1.alloc (.cells #[.int .i64 1, .int .i64 2] 3) = w2 at *
  go_wp2_with fail
  refine (may_lit (c := plainC 3 1) (to := 6) (r := true) S2.out O1.out (ok2 0 0).1 (by decide) rfl (by decide +kernel)).mono ?_
  rintro e w3 ⟨rfl, hb⟩
  have B3 := Lib.hid (B2.out.trans (hb.mono B2.out.size))
  clear hb B2 S2
  go_wp2_with fail
  refine (plain_any 3 1 _ (ok2 3 1).1).mono ?_
  rintro e w4 ⟨a4, rfl, hs, hb⟩
  have B4 := Lib.hid (B3.out.trans (hb.mono B3.out.size))
  have S4 := Lib.hid hs
  clear hb B3 hs
  go_wp2_with fail
  refine (good_is (c := plainC 3 1) (r := true) S4.out O1.out (by decide +kernel)).mono ?_
  rintro e w5 ⟨rfl, hb⟩
  have B5 := Lib.hid (B4.out.trans (hb.mono B4.out.size))
  clear hb B4 S4
  go_wp2_with fail
  refine (plain_any 3 2 _ (ok2 3 2).1).mono ?_
  rintro e w6 ⟨a6, rfl, hs, hb⟩
  have B6 := Lib.hid (B5.out.trans (hb.mono B5.out.size))
  have S6 := Lib.hid hs
  clear hb B5 hs
  go_wp2_with fail
  refine (keeps_is (c := plainC 3 2) (r := true) S6.out O2.out (ok2 2 0).1 (ok2 2 0).2 (by decide +kernel)).mono ?_
  rintro e w7 ⟨rfl, hb⟩
  have B7 := Lib.hid (B6.out.trans (hb.mono B6.out.size))
  clear hb B6 S6
  go_wp2_with fail
  go_ret
  exact ⟨rfl, B7.out⟩

end Go.Proofs.YtnipoknmhcgplaaDoor
