/-
  What the listed variables give; rows of two kinds.
-/
import Derived.Test.YtlfahnijnlapdaaDoorDlist
import Derived.Lib.LaidTab
import Derived.Lib.AppendIntMem
namespace Go.Proofs.YtlfahnijnlapdaaDoor
open Go.RowKit

/-- What the walks read of the library's own variables. -/
structure Good (W : World) : Prop where
  tz : TabAt 0 Lib.deBruijn64tab W
  pow : Lib.TabIs Tryd.prog W "internal/strconv.uint64pow10" .u64 Lib.pow10Tab
  syn : ∃ te pe, W.cell? ⟨1, 0, none⟩ = some (.iface te pe)
  rng : ∃ te pe, W.cell? ⟨2, 0, none⟩ = some (.iface te pe)

theorem cell_on {w w' : World} {a : Addr} {u : Value} (h : w.cell? a = some u) (hb : Below w.heap.size w w') : w'.cell? a = some u :=
  (hb.cell (block_lt_of_cell h)).trans h
theorem Good.below {W W' : World} (h : Good W) (hb : Below W.heap.size W W') : Good W' where
  tz := fun j hj => cell_on (h.tz j hj) hb
  pow := (Lib.tabBelow_of_tabIs h.pow) W' hb
  syn := h.syn.elim fun te h => h.elim fun pe h => ⟨te, pe, cell_on h hb⟩
  rng := h.rng.elim fun te h => h.elim fun pe h => ⟨te, pe, cell_on h hb⟩

theorem own_mono {w : World} {B B' : Nat} {e : TypeId} {k : Nat} {v : Value} {n : Nat} {xs : List Value} (h : w.ownsRow B e k v n xs) (hb : B' ≤ B) : w.ownsRow B' e k v n xs :=
  ⟨h.1, h.2.elim Or.inl fun ⟨g, cap, cur, h1, h2, h3⟩ => Or.inr ⟨g, cap, cur, h1, Nat.le_trans hb h2, h3⟩⟩
theorem own_kind {w : World} {B : Nat} {e : TypeId} {v : Value} {n : Nat} {xs : List Value} (h : w.ownsRow B e 1 v n xs) : ∀ g, v.ownBlock = some g → ∃ c fz, w.heap[g]? = some (.cells c e fz) := by
  intro g hg
  rcases h.2 with ⟨rfl, _⟩ | ⟨g', cap, cur, rfl, _, hgg, _⟩
  · simp [Value.ownBlock] at hg
  · simp [Value.ownBlock] at hg
    subst hg
    exact ⟨cur, _, hgg⟩
theorem own_apart {w : World} {B B2 : Nat} {e e2 : TypeId} {v v2 : Value} {n n2 : Nat} {xs xs2 : List Value} (h : w.ownsRow B e 1 v n xs) (h2 : w.ownsRow B2 e2 1 v2 n2 xs2) (hne : e ≠ e2) : v.ownBlock = none ∨ v.ownBlock ≠ v2.ownBlock := by
  cases hv : v.ownBlock with
  | none => exact Or.inl rfl
  | some g =>
    refine Or.inr fun e => ?_
    obtain ⟨c, fz, h1⟩ := own_kind h g hv
    obtain ⟨c', fz', h3⟩ := own_kind h2 g e.symm
    rw [h1] at h3
    cases h3
    exact hne rfl
theorem own_others {w w' : World} {B : Nat} {e e' : TypeId} {v : Value} {n : Nat} {xs : List Value} (h : w.ownsRow B e 1 v n xs) (ho : Lib.OthersKept e' none w w') (hne : e ≠ e') : w'.ownsRow B e 1 v n xs := by
  refine ⟨h.1, ?_⟩
  rcases h.2 with hn | ⟨g, cap, cur, rfl, hb, hgg, rest⟩
  · exact Or.inl hn
  · exact Or.inr ⟨g, cap, cur, rfl, hb, ho g _ hgg (by simp) (by intro c fz e; cases e; exact hne rfl), rest⟩

theorem conv_own {w : World} {B n n' cap : Nat} {a : Option Addr} {t : List UInt8} (h : w.ownsRow B 5 1 (.slice a n cap) n' (Lib.byteCells t)) (h0 : 0 < t.length) :
    (convert 60 9 (.slice a n cap)).run Tryd.prog w = .ok (.string ⟨t.toArray⟩) w := by
  obtain ⟨e, a2, c2, ev, hs⟩ := own_slv h
  rw [Lib.byteCells_length] at ev
  cases ev
  obtain ⟨b, off, rfl, _⟩ := hs.cell 0 (by rw [Lib.byteCells_length]; exact h0)
  refine run_convert_bytes_back w 60 9 5 ⟨b, off, none⟩ _ t Tryd.underlying60 Tryd.underlying5 Tryd.underlying9 ?_
  intro j hj
  obtain ⟨b', off', e', _, hc⟩ := hs.cell j (by rw [Lib.byteCells_length]; exact hj)
  cases e'
  rw [add_spot, hc]
  simp [Lib.byteCells]

end Go.Proofs.YtlfahnijnlapdaaDoor
