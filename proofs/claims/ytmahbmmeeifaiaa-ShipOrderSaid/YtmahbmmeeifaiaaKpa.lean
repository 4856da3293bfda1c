/-
  An alarm: what it does, how it lies in memory, both programs'.
-/
import Derived.Test.YtmahbmmeeifaiaaWcel
import Derived.Test.YtmahbmmeeifaiaaWsl
import Derived.WalkKit
import Derived.WalkSpells
import Derived.WalkLawsBesides
import Derived.IntWalk
import Derived.Lib.Hide
import Derived.BigQuiet
namespace Go.Proofs.Ytmahbmmeeifaiaa
open Go.RowKit

/-- First, most, step, what is left (0: it does not run), how often it rang. -/
structure Pa where
  f : Nat
  m : Nat
  s : Nat
  l : Nat
  r : Nat

def Pa.new (f m : Nat) : Pa := ⟨f, m, f, 0, 0⟩
def Pa.start (S : Pa) : Pa := if S.l = 0 then { S with l := S.s } else S
def Pa.stop (S : Pa) : Pa := { S with s := S.f, l := 0 }
def Pa.next (S : Pa) : Nat := if S.m < 2 * S.s then S.m else 2 * S.s
def Pa.rings (S : Pa) : Bool := decide (S.l = 1)
def Pa.tick (S : Pa) : Pa := if S.l = 0 then S else if S.l = 1 then { S with s := S.next, l := S.next, r := S.r + 1 } else { S with l := S.l - 1 }
/-- Within bounds. -/
structure Pa.ok (S : Pa) (n : Nat) : Prop where
  f : 1 ≤ S.f ∧ S.f ≤ S.s
  m : S.s ≤ S.m ∧ S.m ≤ 1000
  l : S.l ≤ S.s
  r : S.r ≤ n
theorem Pa.ok.more {S : Pa} {n k : Nat} (h : S.ok n) (hk : n ≤ k) : S.ok k := ⟨h.f, h.m, h.l, Nat.le_trans h.r hk⟩
theorem Pa.ok.start {S : Pa} {n : Nat} (h : S.ok n) : S.start.ok n := by
  obtain ⟨h1, h2, h3, h4⟩ := h
  unfold Pa.start
  split
  · exact ⟨h1, h2, Nat.le_refl _, h4⟩
  · exact ⟨h1, h2, h3, h4⟩
theorem Pa.ok.stop {S : Pa} {n : Nat} (h : S.ok n) : S.stop.ok n := by
  obtain ⟨h1, h2, h3, h4⟩ := h
  exact ⟨⟨h1.1, Nat.le_refl _⟩, ⟨Nat.le_trans h1.2 h2.1, h2.2⟩, Nat.zero_le _, h4⟩
theorem Pa.ok.next {S : Pa} {n : Nat} (h : S.ok n) : S.s ≤ S.next ∧ S.next ≤ S.m := by
  obtain ⟨h1, h2, h3, h4⟩ := h
  unfold Pa.next
  split <;> omega
theorem Pa.ok.tick {S : Pa} {n : Nat} (h : S.ok n) : S.tick.ok (n + 1) := by
  have hn := h.next
  obtain ⟨h1, h2, h3, h4⟩ := h
  unfold Pa.tick
  split
  · exact ⟨h1, h2, h3, by omega⟩
  · split
    · exact ⟨⟨h1.1, Nat.le_trans h1.2 hn.1⟩, ⟨hn.2, h2.2⟩, Nat.le_refl _, by simp only; omega⟩
    · exact ⟨h1, h2, by simp only; omega, by simp only; omega⟩
theorem Pa.new_ok {f m : Nat} (h : 1 ≤ f ∧ f ≤ m ∧ m ≤ 1000) : (Pa.new f m).ok 0 := ⟨⟨h.1, Nat.le_refl _⟩, h.2, Nat.zero_le _, Nat.le_refl _⟩

def paC (S : Pa) : Nat → Value
  | 0 => .int .i64 (S.f : Nat)
  | 1 => .int .i64 (S.m : Nat)
  | 2 => .int .i64 (S.s : Nat)
  | 3 => .int .i64 (S.l : Nat)
  | _ => .int .i64 (S.r : Nat)
def prC (S : Pa) : Nat → Value
  | 0 => .int .i64 (S.f : Nat)
  | 1 => .int .i64 (S.m : Nat)
  | 2 => .int .i64 (S.s : Nat)
  | 3 => .int .i64 (S.l : Nat)
  | 4 => .bool (decide (0 < S.l))
  | _ => .int .i64 (S.r : Nat)
def PaAt (w : World) (p : Nat) (S : Pa) : Prop := Cel 5 w p (paC S)
def PrAt (w : World) (p : Nat) (S : Pa) : Prop := Cel 6 w p (prC S)
def PaPost (S : Pa) (W : World) (p : Nat) (r : Value) (e : Ending) (w : World) : Prop := e = .returned r ∧ PaAt w p S ∧ Keep (fun k => k = p) W w
def PrPost (S : Pa) (W : World) (p : Nat) (r : Value) (e : Ending) (w : World) : Prop := e = .returned r ∧ PrAt w p S ∧ Keep (fun k => k = p) W w

theorem five {P : Nat → Prop} (h0 : P 0) (h1 : P 1) (h2 : P 2) (h3 : P 3) (h4 : P 4) : ∀ o, o < 5 → P o := fun o ho =>
  match o, ho with
  | 0, _ => h0
  | 1, _ => h1
  | 2, _ => h2
  | 3, _ => h3
  | 4, _ => h4
  | n + 5, h => by omega
theorem six {P : Nat → Prop} (h0 : P 0) (h1 : P 1) (h2 : P 2) (h3 : P 3) (h4 : P 4) (h5 : P 5) : ∀ o, o < 6 → P o := fun o ho =>
  match o, ho with
  | 0, _ => h0
  | 1, _ => h1
  | 2, _ => h2
  | 3, _ => h3
  | 4, _ => h4
  | 5, _ => h5
  | n + 6, h => by omega

section
variable {w w' : World} {p : Nat} {S S2 : Pa}
theorem PaAt.cells (h : PaAt w p S) : w.cell? ⟨p, 0, none⟩ = some (.int .i64 (S.f : Nat)) ∧ w.cell? ⟨p, 1, none⟩ = some (.int .i64 (S.m : Nat)) ∧ w.cell? ⟨p, 2, none⟩ = some (.int .i64 (S.s : Nat)) ∧ w.cell? ⟨p, 3, none⟩ = some (.int .i64 (S.l : Nat)) ∧ w.cell? ⟨p, 4, none⟩ = some (.int .i64 (S.r : Nat)) :=
  ⟨h.c 0 (by decide), h.c 1 (by decide), h.c 2 (by decide), h.c 3 (by decide), h.c 4 (by decide)⟩
theorem PrAt.cells (h : PrAt w p S) : w.cell? ⟨p, 0, none⟩ = some (.int .i64 (S.f : Nat)) ∧ w.cell? ⟨p, 1, none⟩ = some (.int .i64 (S.m : Nat)) ∧ w.cell? ⟨p, 2, none⟩ = some (.int .i64 (S.s : Nat)) ∧ w.cell? ⟨p, 3, none⟩ = some (.int .i64 (S.l : Nat)) ∧ w.cell? ⟨p, 4, none⟩ = some (.bool (decide (0 < S.l))) ∧ w.cell? ⟨p, 5, none⟩ = some (.int .i64 (S.r : Nat)) :=
  ⟨h.c 0 (by decide), h.c 1 (by decide), h.c 2 (by decide), h.c 3 (by decide), h.c 4 (by decide), h.c 5 (by decide)⟩
theorem PaAt.below (h : PaAt w p S) (hb : Below w.heap.size w w') : PaAt w' p S := Cel.below h hb
theorem PrAt.below (h : PrAt w p S) (hb : Below w.heap.size w w') : PrAt w' p S := Cel.below h hb
theorem PaAt.drew (h : PaAt w p S) : PaAt w.drew p S := Cel.drew h
theorem PrAt.drew (h : PrAt w p S) : PrAt w.drew p S := Cel.drew h
theorem PaAt.drewN (h : PaAt w p S) (q : Nat) : PaAt (w.drewN q) p S := Cel.drewN h q
theorem PrAt.drewN (h : PrAt w p S) (q : Nat) : PrAt (w.drewN q) p S := Cel.drewN h q
theorem PaAt.keep {F : Nat → Prop} (h : PaAt w p S) (hk : Keep F w w') (hF : ¬ F p) : PaAt w' p S := Cel.keep h hk hF
theorem PrAt.keep {F : Nat → Prop} (h : PrAt w p S) (hk : Keep F w w') (hF : ¬ F p) : PrAt w' p S := Cel.keep h hk hF
end

end Go.Proofs.Ytmahbmmeeifaiaa
