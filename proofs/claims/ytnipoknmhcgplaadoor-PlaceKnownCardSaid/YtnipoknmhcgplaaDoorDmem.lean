/-
  Slices of values of one cell each, in memory.
-/
import Derived.Test.YtnipoknmhcgplaaDoorDnum
import Derived.Deep.AppendLies
import Derived.Laws.AppendOwnNone
import Derived.Laws.BytesArg
import Derived.OwnWalk
import Derived.OneCell
namespace Go.Proofs.YtnipoknmhcgplaaDoor
open Go.RowKit

def bV (x : Nat) : Value := .int .u8 (x : Nat)
def iV (x : Int) : Value := .int .i64 x

theorem add_spot (b o k : Nat) : (⟨b, o, Option.none⟩ : Addr).add k = ⟨b, o + k, Option.none⟩ := Addr.add_lit ..

/-- A slice value (its address a, its capacity) holds vs. -/
structure SlV (w : World) (a : Option Addr) (cap : Nat) (vs : List Value) : Prop where
  fit : vs.length ≤ cap
  max : cap ≤ maxLen
  nil : a = none → cap = 0
  cell : ∀ i (h : i < vs.length), ∃ b off, a = some ⟨b, off, none⟩ ∧ b < w.heap.size ∧ w.cell? ⟨b, off + i, none⟩ = some vs[i]

theorem SlV.below {w w' : World} {a : Option Addr} {cap : Nat} {vs : List Value} (h : SlV w a cap vs) (hb : Below w.heap.size w w') : SlV w' a cap vs :=
  ⟨h.fit, h.max, h.nil, fun i hi => by
    obtain ⟨b, off, e, hl, hc⟩ := h.cell i hi
    exact ⟨b, off, e, Nat.lt_of_lt_of_le hl hb.size, (hb.cell (p := ⟨b, off + i, none⟩) hl).trans hc⟩⟩

theorem SlV.none (w : World) : SlV w none 0 [] :=
  ⟨by simp, by unfold maxLen; omega, fun _ => rfl, fun i h => by simp at h⟩

/-- A cell of numbers. -/
theorem SlV.at {α : Type} {f : α → Value} {w : World} {a : Option Addr} {cap : Nat} {xs : List α} (h : SlV w a cap (xs.map f)) (i : Nat) (hi : i < xs.length) : ∃ b off, a = some ⟨b, off, Option.none⟩ ∧ b < w.heap.size ∧ w.cell? ⟨b, off + i, Option.none⟩ = some (f xs[i]) := by
  obtain ⟨b, off, e, hl, hc⟩ := h.cell i (by simpa using hi)
  exact ⟨b, off, e, hl, by rw [hc]; simp⟩

/-- What the call itself has made. -/
theorem own_slv {w : World} {base : Nat} {e : TypeId} {v : Value} {n : Nat} {vs : List Value} (h : w.ownsRow base e 1 v n vs) : n = vs.length ∧ ∃ a cap, v = .slice a vs.length cap ∧ SlV w a cap vs := by
  have hn : n = vs.length := by have := h.1; simp at this; omega
  subst hn
  refine ⟨rfl, ?_⟩
  rcases h.2 with ⟨rfl, e⟩ | ⟨g, cap, cur, rfl, _, hg, h1, h2, _⟩
  · obtain rfl : vs = [] := List.length_eq_zero_iff.1 e
    exact ⟨Option.none, 0, rfl, SlV.none _⟩
  · refine ⟨some ⟨g, 0, Option.none⟩, cap, rfl, h1, h2, fun e => by simp at e, fun i hi => ⟨g, 0, rfl, (Array.getElem?_eq_some_iff.1 hg).1, ?_⟩⟩
    rw [Nat.zero_add, h.cellAt i (by omega), List.getElem?_eq_getElem hi]

/-- A slice that is written out in the text. -/
theorem slv_lit (w : World) (vs : List Value) (cs : Array Value) (t : TypeId) (n : Nat) (hcs : cs = vs.toArray) (hn : vs.length = n) (hm : n ≤ maxLen) : SlV (w.alloc (.cells cs t)) (some ⟨w.heap.size, 0, none⟩) n vs := by
  subst hcs hn
  refine ⟨Nat.le_refl _, hm, (fun e => by cases e), fun i hi => ⟨w.heap.size, 0, rfl, by simp, ?_⟩⟩
  rw [Nat.zero_add]
  have h := World.news_of_block (cs := vs.toArray) (fr := (0, 0)) (heap_alloc_new w (.cells vs.toArray t)) i vs[i] (by simp [List.getElem?_eq_getElem hi])
  rw [add_spot, Nat.zero_add] at h
  exact h

theorem own_below {B : Nat} {e : TypeId} {k : Nat} {v : Value} {n : Nat} {xs : List Value} {w w' : World} (h : w.ownsRow B e k v n xs) (hb : Below w.heap.size w w') : w'.ownsRow B e k v n xs :=
  h.kept (row := none) ⟨hb.os, hb.tape, hb.output, hb.size, fun j hj _ => hb.block j hj⟩ (by cases hv : v.ownBlock <;> simp)
theorem below_alloc {w w' : World} (h : Below w.heap.size w w') (o : Obj) : Below w.heap.size w (w'.alloc o) := h.alloc h.size o

theorem Tryd.infoB : (Tryd.prog.info? 5).map (fun i => (i.zero, i.size, i.bytes)) = some (some (.int .u8 0), 1, 1) := by kernel_rfl
theorem Tryd.infoI : (Tryd.prog.info? 3).map (fun i => (i.zero, i.size, i.bytes)) = some (some (.int .i64 0), 1, 8) := by kernel_rfl

end Go.Proofs.YtnipoknmhcgplaaDoor
