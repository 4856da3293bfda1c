/-
  Configs as plain numbers; who there is: between, some, the closure of goodVars.
-/
import Derived.Test.YtnipoknmhcgplaaDoorDof
namespace Go.Proofs.YtnipoknmhcgplaaDoor
open Go.RowKit

/-- A config. -/
structure Cfg where
  n : Int
  vs : List Nat
  win : Int
  que : Int
  fst : Int
  mst : Int
  bod : Int
  eng : Int

def uV (x : Nat) : Value := .int .u64 (x : Nat)

/-- A config as the model bears it; its cells. -/
abbrev cfgA (c : Cfg) (ao : Option Addr) (cap : Nat) : Array Value := #[.int .i64 c.n, .slice ao c.vs.length cap, .int .i64 c.win, .int .i64 c.que, .int .i64 c.fst, .int .i64 c.mst, .int .i64 c.bod, .int .i64 c.eng]

/-- Within: one in another. -/
def inN (s t : Nat) : Bool := decide (s &&& (18446744073709551615 - t) = 0)
/-- A set of some of the first n. -/
def someN (s : Nat) (n : Int) : Bool := decide (s ≠ 0) && inN s (allN n)
def btw (l n m : Int) : Bool := decide (l ≤ n) && decide (n ≤ m)
/-- A config that may be. -/
def goodC (c : Cfg) : Bool :=
  btw 1 c.n 16 && (decide (c.vs.length ≤ 16) && c.vs.all fun s => someN s c.n) && btw 1 c.win 16 && btw 2 c.que 32 && btw 1 c.fst c.mst && decide (c.mst ≤ 1000) && btw 0 c.bod 256 && (decide (c.eng = 1) || decide (c.eng = 2))
/-- All that keep a variable. -/
def keepC (c : Cfg) (v : Int) : Nat := if goodC c && btw 0 v (c.vs.length - 1) then c.vs.getD v.toNat 0 else 0
def mayC (c : Cfg) (p : Int) (to : Nat) : Bool := goodC c && btw 0 p (c.n - 1) && someN to c.n && !hasN to p

/-- The numbers fit. -/
structure CfgOk (c : Cfg) : Prop where
  n : IntOk c.n
  vs : ∀ s ∈ c.vs, s < 18446744073709551616
  win : IntOk c.win
  que : IntOk c.que
  fst : IntOk c.fst
  mst : IntOk c.mst
  bod : IntOk c.bod
  eng : IntOk c.eng

/-- A config in a block of its own. -/
structure Boxed (w : World) (B : Nat) (c : Cfg) (ao : Option Addr) (cap : Nat) : Prop where
  c0 : w.cell? ⟨B, 0, none⟩ = some (.int .i64 c.n)
  c1 : w.cell? ⟨B, 1, none⟩ = some (.slice ao c.vs.length cap)
  c2 : w.cell? ⟨B, 2, none⟩ = some (.int .i64 c.win)
  c3 : w.cell? ⟨B, 3, none⟩ = some (.int .i64 c.que)
  c4 : w.cell? ⟨B, 4, none⟩ = some (.int .i64 c.fst)
  c5 : w.cell? ⟨B, 5, none⟩ = some (.int .i64 c.mst)
  c6 : w.cell? ⟨B, 6, none⟩ = some (.int .i64 c.bod)
  c7 : w.cell? ⟨B, 7, none⟩ = some (.int .i64 c.eng)
theorem boxed_new (W : World) (c : Cfg) (ao : Option Addr) (cap : Nat) (t : TypeId) : Boxed (W.alloc (.cells (cfgA c ao cap) t)) W.heap.size c ao cap := by
  constructor <;> simp [cfgA]
theorem cell_lt {w : World} {a : Addr} {u : Value} (h : w.cell? a = some u) : a.block < w.heap.size := World.block_lt_of_cell? _ _ h
theorem cell_go {w w' : World} {a : Addr} {u : Value} (h : w.cell? a = some u) (hb : Below w.heap.size w w') : w'.cell? a = some u := (hb.cell (cell_lt h)).trans h
theorem Boxed.below {w w' : World} {B : Nat} {c : Cfg} {ao : Option Addr} {cap : Nat} (h : Boxed w B c ao cap) (hb : Below w.heap.size w w') : Boxed w' B c ao cap :=
  ⟨cell_go h.c0 hb, cell_go h.c1 hb, cell_go h.c2 hb, cell_go h.c3 hb, cell_go h.c4 hb, cell_go h.c5 hb, cell_go h.c6 hb, cell_go h.c7 hb⟩

set_option maxHeartbeats 1000000 in
theorem btw_any (l n m : Int) (W : World) :
    Calls Tryd.prog 20 #[.int .i64 l, .int .i64 n, .int .i64 m] W fun e w' => e = .returned (.bool (btw l n m)) ∧ W = w' := by
  go_enter Tryd.func20, Tryd.ntmps20
  by_cases h : l ≤ n
  · have R := Lib.hid (show btw l n m = decide (n ≤ m) by unfold btw; simp [h])
    go_wp2_with fail
    go_ret
    exact ⟨by rw [R.out]; rfl, rfl⟩
  · have R := Lib.hid (show btw l n m = false by unfold btw; simp [h])
    go_wp2_with fail
    go_ret
    exact ⟨by rw [R.out]; rfl, rfl⟩

theorem btw_is {l n m : Int} {r : Bool} {W : World} (h : btw l n m = r) :
    Calls Tryd.prog 20 #[.int .i64 l, .int .i64 n, .int .i64 m] W fun e w' => e = .returned (.bool r) ∧ W = w' := by
  subst h; exact btw_any l n m W

set_option maxHeartbeats 1000000 in
theorem some_any (s : Nat) (n : Int) (W : World) (hs : s < 18446744073709551616) (hn : IntOk n) :
    Calls Tryd.prog 24 #[.int .u64 (s : Nat), .int .i64 n] W fun e w' => e = .returned (.bool (someN s n)) ∧ W = w' := by
  have N := Lib.hid hn
  clear hn
  go_enter Tryd.func24, Tryd.ntmps24
  by_cases h : s = 0
  · have R := Lib.hid (show someN s n = false by unfold someN; simp [h])
    subst h
    go_wp2_with fail
    go_ret
    exact ⟨by rw [R.out]; rfl, rfl⟩
  · have hd : ((s : Int) != 0) = true := by rw [ne_word]; exact decide_eq_true h
    have R := Lib.hid (show someN s n = inN s (allN n) by unfold someN; simp [h])
    clear h
    go_wp2_with fail
    refine (all_any n W N.out).mono ?_
    rintro e w' ⟨rfl, rfl⟩
    go_wp2_with fail
    refine (within_any s (allN n) W hs (allN_lt n)).mono ?_
    rintro e w' ⟨rfl, rfl⟩
    go_wp2_with fail
    go_ret
    exact ⟨by rw [R.out]; rfl, rfl⟩

theorem some_is {s : Nat} {n : Int} {r : Bool} {W : World} (hs : s < 18446744073709551616) (hn : IntOk n) (h : someN s n = r) :
    Calls Tryd.prog 24 #[.int .u64 (s : Nat), .int .i64 n] W fun e w' => e = .returned (.bool r) ∧ W = w' := by
  subst h; exact some_any s n W hs hn

/-- The closure of goodVars: it reads N where the config lies. -/
theorem lit_any (s B : Nat) (n : Int) (W : World) (hs : s < 18446744073709551616) (hn : IntOk n) (hc : W.cell? ⟨B, 0, none⟩ = some (.int .i64 n)) :
    Calls Tryd.prog 28 #[.int .u64 (s : Nat), .pointer (some ⟨B, 0, none⟩)] W fun e w' => e = .returned (.bool (!someN s n)) ∧ W = w' := by
  have N := Lib.hid hn
  clear hn
  obtain ⟨r, hr⟩ : ∃ r, someN s n = r := ⟨_, rfl⟩
  have R := Lib.hid hr
  rw [hr]
  clear hr
  go_enter Tryd.func28, Tryd.ntmps28
  go_wp2_with fail
  refine (some_is hs N.out R.out).mono ?_
  rintro e w' ⟨rfl, rfl⟩
  go_wp2_with fail
  go_ret
  exact ⟨rfl, rfl⟩

theorem lit_is {s B : Nat} {n : Int} {r : Bool} {W : World} (hs : s < 18446744073709551616) (hn : IntOk n) (hc : W.cell? ⟨B, 0, none⟩ = some (.int .i64 n)) (h : someN s n = r) :
    Calls Tryd.prog 28 #[.int .u64 (s : Nat), .pointer (some ⟨B, 0, none⟩)] W fun e w' => e = .returned (.bool (!r)) ∧ W = w' := by
  subst h; exact lit_any s B n W hs hn hc

end Go.Proofs.YtnipoknmhcgplaaDoor
