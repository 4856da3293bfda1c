/-
  The contracts at given values; what the document tells of two.
-/
import Derived.Test.YtlfahnijnlapdaaDoorDparse
import Derived.Test.YtlfahnijnlapdaaDoorDrpar
namespace Go.Proofs.YtlfahnijnlapdaaDoor
open Go.RowKit

def OkPost (W : World) (e : Ending) (w' : World) : Prop := e = .returned (.bool true) ∧ Below W.heap.size W w'

theorem parse_is {s : ByteArray} {u : Nat} {z : Int} {W : World} (hs : s.size ≤ 1000) (hG : Good W) (hu : u < 18446744073709551616) (h : s.data.toList = showN u) (hz : (u : Int) = z) :
    Calls Tryd.prog 9 #[.string s] W fun e w' => e = .returned (.tuple #[.int .u64 z, .bool true]) ∧ Below W.heap.size W w' := by
  subst hz
  refine (parse_any s W hs hG).mono ?_
  rintro e w' ⟨v, ok, rfl, hb, h1, h2⟩
  cases ok with
  | true => rw [(h1 rfl).1, h, set_show hu]; exact ⟨rfl, hb⟩
  | false => exact absurd (by rw [h, set_show hu]) (h2 rfl).2
theorem parse_not {s : ByteArray} {W : World} (hs : s.size ≤ 1000) (hG : Good W) (h : showN (setN s.data.toList) ≠ s.data.toList) :
    Calls Tryd.prog 9 #[.string s] W fun e w' => e = .returned (.tuple #[.int .u64 0, .bool false]) ∧ Below W.heap.size W w' := by
  refine (parse_any s W hs hG).mono ?_
  rintro e w' ⟨v, ok, rfl, hb, h1, h2⟩
  cases ok with
  | true => exact absurd (by rw [← (h1 rfl).1]; exact (h1 rfl).2) h
  | false => rw [(h2 rfl).1]; exact ⟨rfl, hb⟩
theorem of_lit {xs : List Int} {b n : Nat} {z : Int} {w W : World} (cs : Array Value) (hW : w.alloc (.cells cs 3) = W) (hb : w.heap.size = b) (hcs : cs = (xs.map iV).toArray) (hn : xs.length = n) (hm : n ≤ 1000) (hx : ∀ x ∈ xs, IntOk x) (hz : ((ofN xs : Nat) : Int) = z) :
    Calls Tryd.prog 11 #[.slice (some ⟨b, 0, none⟩) n n] W fun e w' => e = .returned (.int .u64 z) ∧ W = w' := by
  subst hW hb hz
  exact of_end (slv_lit w (xs.map iV) cs 3 n hcs (by simpa using hn) (by unfold maxLen; omega)) hx hn rfl
theorem show_is {s : Nat} {z : Int} {t : ByteArray} {W : World} (hG : Good W) (hs : s < 18446744073709551616) (hz : (s : Int) = z) (ht : (⟨(showN s).toArray⟩ : ByteArray) = t) :
    Calls Tryd.prog 23 #[.int .u64 z] W fun e w' => e = .returned (.string t) ∧ Below W.heap.size W w' := by
  subst hz ht
  exact show_any s W hs hG
theorem has_is {s : Nat} {p z : Int} {r : Bool} {W : World} (hs : s < 18446744073709551616) (hz : (s : Int) = z) (hp : IntOk p) (h : hasN s p = r) :
    Calls Tryd.prog 13 #[.int .u64 z, .int .i64 p] W fun e w' => e = .returned (.bool r) ∧ Below W.heap.size W w' := by
  subst hz h
  exact has_any s p W hs hp
theorem list_is {s : Nat} {z : Int} {l : List Nat} {n : Nat} {W : World} (hs : s < 18446744073709551616) (hz : (s : Int) = z) (hl : listN s = l) (hn : l.length = n) :
    Calls Tryd.prog 22 #[.int .u64 z] W fun e w' => ∃ a cap, e = .returned (.slice a n cap) ∧ SlV w' a cap (l.map nV) ∧ Below W.heap.size W w' := by
  subst hz hl hn
  exact list_any s W hs
theorem ints_is {xs ys : List Int} {n m : Nat} {r : Bool} {ao bo : Option Addr} {ca cb : Nat} {W : World} (ha : SlV W ao ca (xs.map iV)) (hb : SlV W bo cb (ys.map iV)) (hn : xs.length = n) (hm : ys.length = m) (hr : decide (xs = ys) = r) :
    Calls Tryd.prog 21 #[.slice ao n ca, .slice bo m cb] W fun e w' => e = .returned (.bool r) ∧ ∃ q, w' = W.drewN q := by
  subst hn hm hr
  exact ints_any xs ys ao bo ca cb W ha hb
theorem drewN_below {N : Nat} {w w' : World} (h : Below N w w') (q : Nat) : Below N w (w'.drewN q) := ⟨h.os, h.tape, h.output, h.size, h.block⟩
theorem SlV.drewN {w : World} {a : Option Addr} {cap : Nat} {vs : List Value} (h : SlV w a cap vs) (q : Nat) : SlV (w.drewN q) a cap vs :=
  ⟨h.fit, h.max, h.nil, fun i hi => h.cell i hi⟩

set_option maxRecDepth 20000 in
set_option maxHeartbeats 4000000 in
theorem awake_any (W : World) (hG : Good W) : Calls Tryd.prog 8 #[] W (OkPost W) := by
  have G := Lib.hid hG
  clear hG
  go_enter Tryd.func8, Tryd.ntmps8
  go_wp2_with fail
  refine (parse_is (u := 9) (z := 9) (by decide) G.out (by decide) (by decide +kernel) rfl).mono ?_
  rintro e w1 ⟨rfl, hb1⟩
  have B1 := Lib.hid hb1
  clear hb1
  go_wp2_with fail
  have B2 := Lib.hid (below_alloc B1.out (.cells #[.int .i64 3, .int .i64 0] 3))
  have S2 : w1.heap.size + 0 = w1.heap.size := rfl
  refine (of_lit (xs := [3, 0]) (z := 9) #[.int .i64 3, .int .i64 0] rfl rfl rfl rfl (by decide) (by intro x hx; unfold IntOk; simp at hx; omega) (by decide)).mono ?_
  rintro e w2 ⟨rfl, rfl⟩
  generalize w1.alloc (.cells #[.int .i64 3, .int .i64 0] 3) = w2 at *
  go_wp2_with fail
  refine (show_is (s := 9) (t := ⟨#[123, 48, 44, 51, 125]⟩) (G.out.below B2.out) (by decide) rfl (by decide +kernel)).mono ?_
  rintro e w3 ⟨rfl, hb3⟩
  have B3 := Lib.hid (B2.out.trans (hb3.mono B2.out.size))
  clear hb3 B2 B1
  go_wp2_with fail
  refine (has_is (s := 9) (p := 3) (r := true) (by decide) rfl (by unfold IntOk; decide) (by decide)).mono ?_
  rintro e w4 ⟨rfl, hb4⟩
  have B4 := Lib.hid (B3.out.trans (hb4.mono B3.out.size))
  clear hb4 B3
  go_wp2_with fail
  refine (list_is (s := 9) (l := [0, 3]) (n := 2) (by decide) rfl (by decide) rfl).mono ?_
  rintro e w5 ⟨a, c, rfl, hs, hb5⟩
  have B5 := Lib.hid (B4.out.trans (hb5.mono B4.out.size))
  have S5 := Lib.hid hs
  clear hb5 hs B4
  go_wp2_with fail
  have B6 := Lib.hid (below_alloc B5.out (.cells #[.int .i64 0, .int .i64 3] 3))
  have S6 := Lib.hid (S5.out.below (below_alloc (Below.refl _ _) (.cells #[.int .i64 0, .int .i64 3] 3)))
  have L6 := Lib.hid (slv_lit w5 ([0, 3].map iV) #[.int .i64 0, .int .i64 3] 3 2 rfl rfl (by unfold maxLen; omega))
  generalize w5.alloc (.cells #[.int .i64 0, .int .i64 3] 3) = w6 at *
  refine (ints_is (xs := [0, 3]) (ys := [0, 3]) (r := true) S6.out L6.out rfl rfl rfl).mono ?_
  rintro e w7 ⟨rfl, q, rfl⟩
  have B7 := Lib.hid (drewN_below B6.out q)
  clear B5 B6 S5 S6 L6
  go_wp2_with fail
  go_ret
  exact ⟨rfl, B7.out⟩

end Go.Proofs.YtlfahnijnlapdaaDoor
