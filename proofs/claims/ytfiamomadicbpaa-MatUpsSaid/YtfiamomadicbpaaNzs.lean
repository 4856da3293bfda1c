/-
  Slices of ints that come in, as the walks ask for them; beside no other stack.
-/
import Derived.Test.YtfiamomadicbpaaLlift
import Derived.Test.YtfiamomadicbpaaWsl
import Derived.Deep.Slices
import Derived.Deep.Strs
namespace Go.Proofs.Ytfiamomadicbpaa
open Go.ChangeShapes Go.WideShapes Go.ChangeAt Go.RowKit Go.Deep

def zOf : Value → Int
  | .int _ z => z
  | _ => 0

theorem trod_z {H : Type} {enc : TypeId × Value → H} {P : Program} {w : World} {base : Nat} {spare : Nat → Bool} {held : Bool} {fuel : Nat} {t : TypeId} {v : Value} {x : DataW H × List MemPlace}
    (ht : P.underlying t = some (.int .i64)) (h : DataW.trod enc P w base spare held fuel t [v] = some x) : v = .int .i64 (zOf v) := by
  cases fuel with
  | zero => simp [DataW.trod] at h
  | succ n =>
    cases v <;> simp [DataW.trod, ht] at h
    rename_i k b
    obtain ⟨⟨rfl, _⟩, _⟩ := h
    rfl

/-- Ints. -/
theorem is_zs {H : Type} {enc : TypeId × Value → H} {P : Program} {W : World} {t e : TypeId} {v : Value} {d : DataW H} {ps : List MemPlace} {base : Nat} {spare : Nat → Bool} {b0 : Nat} {held : Bool}
    (ht : P.underlying t = some (.slice e)) (he : P.underlying e = some (.int .i64)) (hc : P.cellsOf e = 1)
    (hval : Value.okWide P W .any base t v) (h : DataW.Trod enc P W b0 spare held t v d ps)
    (hlt : ∀ x ∈ ps, x.block < W.heap.size) : ∃ (xs : List Int) (a : Option Addr) (cap : Nat), v = .slice a xs.length cap ∧ SlV W a cap (xs.map fun x => Value.int .i64 x) := by
  obtain ⟨a0, len, cap, rfl⟩ := okWide_slice ht hval
  obtain ⟨fuel, hf⟩ := h
  rcases open_slice1 ht hc hf with ⟨hcs, hx⟩ | ⟨a, len', cap', m, n, V, D, Pl, hcs, hb, hl, hm, hmm, hx, hcell⟩
  · simp [Value.cells] at hcs
    obtain ⟨rfl, rfl, rfl⟩ := hcs
    exact ⟨[], none, 0, rfl, SlV.none _⟩
  · simp [Value.cells] at hcs
    obtain ⟨rfl, rfl, rfl⟩ := hcs
    by_cases h0 : len = 0
    · subst h0
      exact ⟨[], some a, cap, rfl, ⟨by simp, hm, (fun e => by cases e), fun i hi => by simp at hi⟩⟩
    · have hml : len ≤ m := by rw [hmm]; split <;> omega
      have hw : ∀ i, i < len → V i = Value.int .i64 (zOf (V i)) := fun i hi => trod_z he (hcell i (by omega)).2
      obtain ⟨b, off, spot⟩ := a
      have hspot : spot = none := by simpa [Addr.add] using World.cell?_spot (hcell 0 (by omega)).1
      subst hspot
      have hbW : b < W.heap.size := hlt (.cell b off) (by
        rw [(Prod.mk.inj hx).2]
        exact List.mem_append_left _ (MemPlace.mem_row.2 ⟨0, by omega, by simp⟩))
      refine ⟨(List.range len).map fun i => zOf (V i), some ⟨b, off, none⟩, cap, by simp, ⟨by simpa using hl, hm, (fun e => by cases e), ?_⟩⟩
      intro i hi
      have hi' : i < len := by simpa using hi
      have := (hcell i (by omega)).1
      rw [Addr.add_lit, hw i hi'] at this
      exact ⟨b, off, rfl, hbW, by simpa using this⟩

theorem Try.cells_z : Try.prog.cellsOf 3 = 1 := by kernel_rfl

end Go.Proofs.Ytfiamomadicbpaa
