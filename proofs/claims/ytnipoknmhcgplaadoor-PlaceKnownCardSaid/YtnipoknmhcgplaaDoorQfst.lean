/-
  The first of a set; the first that keeps a variable.
-/
import Derived.Test.YtnipoknmhcgplaaDoorQaw
import Derived.Test.YtnipoknmhcgplaaDoorQshelf
namespace Go.Proofs.YtnipoknmhcgplaaDoor
open Go.RowKit

theorem tab_below {W w : World} {g : Nat} {l : List Nat} (h : TabAt g l W) (hb : Below W.heap.size W w) : TabAt g l w := fun j hj => cell_go (h j hj) hb

/-- The least. -/
def firstN (s : Nat) : Nat := if s = 0 then 0 else Lib.ctz 64 s

set_option maxRecDepth 20000 in
set_option maxHeartbeats 2000000 in
theorem first_any (x : Nat) (W : World) (hx : x < 18446744073709551616) (ht : TabAt 0 Lib.deBruijn64tab W) :
    Calls Tryd.prog 22 #[.int .u64 (x : Nat)] W fun e w' => e = .returned (.tuple #[.int .i64 (firstN x : Nat), .bool (!decide (x = 0))]) ∧ W = w' := by
  have T := Lib.hid ht
  clear ht
  go_enter Tryd.func22, Tryd.ntmps22
  by_cases h0 : x = 0
  · subst h0
    go_wp2_with fail
    go_ret2
    exact ⟨rfl, rfl⟩
  · have hd : ((x : Int) == 0) = false := by rw [eq_word]; exact decide_eq_false h0
    have F := Lib.hid (show firstN x = Lib.ctz 64 x from if_neg h0)
    have D := Lib.hid (show (!decide (x = 0)) = true by simp [h0])
    clear h0
    go_wp2_with fail
    refine (Tryd.tz64 x hx W (fun _ => T.out)).mono ?_
    rintro e w' ⟨rfl, rfl⟩
    go_wp2_with fail
    go_ret2
    exact ⟨by rw [F.out, D.out]; rfl, rfl⟩

theorem first_bit {s : Nat} (h : s < 18446744073709551616) (h0 : s ≠ 0) : s.testBit (firstN s) = true ∧ firstN s < 64 ∧ ∀ i, i < firstN s → s.testBit i = false := by
  obtain ⟨m, hm, hk⟩ := Lib.ctzFrom_spec 64 s (by omega) h
  have e : firstN s = Lib.ctzFrom 64 s := by unfold firstN Lib.ctz; rw [if_neg h0, if_neg h0]
  rw [e]
  generalize Lib.ctzFrom 64 s = k at *
  subst hm
  refine ⟨?_, hk, fun i hi => ?_⟩
  · rw [Nat.testBit_eq_decide_div_mod_eq, Nat.mul_div_cancel_left _ (Nat.pow_pos (by decide))]
    simp
  · rw [Nat.testBit_eq_decide_div_mod_eq]
    obtain ⟨d, rfl⟩ : ∃ d, k = i + (d + 1) := ⟨k - i - 1, by omega⟩
    rw [Nat.pow_add, Nat.mul_assoc, Nat.mul_div_cancel_left _ (Nat.pow_pos (by decide)), Nat.pow_succ]
    simp only [decide_eq_false_iff_not]
    rw [Nat.mul_comm (2 ^ d) 2, Nat.mul_assoc, Nat.mul_mod_right]
    decide


set_option maxHeartbeats 4000000 in
theorem keeper_any (c : Cfg) (ao : Option Addr) (cap : Nat) (v : Int) (W : World) (ht : TabAt 0 Lib.deBruijn64tab W) (hs : SlV W ao cap (c.vs.map uV)) (hk : CfgOk c) (hv : IntOk v) :
    Calls Tryd.prog 9 #[.agg (cfgA c ao cap), .int .i64 v] W fun e w' => e = .returned (.tuple #[.int .i64 (firstN (keepC c v) : Nat), .bool (!decide (keepC c v = 0))]) ∧ Below W.heap.size W w' := by
  have B1 := Lib.hid (below_alloc (Below.refl _ W) (.cells (cfgA c ao cap) 26))
  have S1 := Lib.hid (hs.below B1.out)
  have T1 := Lib.hid (fun (w : World) (h : Below W.heap.size W w) => tab_below ht h)
  have V := Lib.hid hv
  have L := Lib.hid (keepC_lt (v := v) hk)
  have O := Lib.hid hk
  clear hs hk hv ht
  go_enter Tryd.func9, Tryd.ntmps9
  go_wp2_with fail
  refine (keepers_any c ao cap v _ S1.out O.out V.out).mono ?_
  rintro e w2 ⟨rfl, hb⟩
  have B2 := Lib.hid (B1.out.trans (hb.mono B1.out.size))
  clear hb B1 S1
  go_wp2_with fail
  refine (first_any (keepC c v) _ L.out (T1.out _ B2.out)).mono ?_
  rintro e w' ⟨rfl, rfl⟩
  go_wp2_with fail
  go_ret2
  exact ⟨rfl, B2.out⟩

theorem keeper_is {c : Cfg} {ao : Option Addr} {cap : Nat} {v : Int} {k : Int} {r : Bool} {W : World} (ht : TabAt 0 Lib.deBruijn64tab W) (hs : SlV W ao cap (c.vs.map uV)) (hk : CfgOk c) (hv : IntOk v) (h1 : (firstN (keepC c v) : Int) = k) (h2 : (!decide (keepC c v = 0)) = r) :
    Calls Tryd.prog 9 #[.agg (cfgA c ao cap), .int .i64 v] W fun e w' => e = .returned (.tuple #[.int .i64 k, .bool r]) ∧ Below W.heap.size W w' := by
  subst h1 h2; exact keeper_any c ao cap v W ht hs hk hv

end Go.Proofs.YtnipoknmhcgplaaDoor
