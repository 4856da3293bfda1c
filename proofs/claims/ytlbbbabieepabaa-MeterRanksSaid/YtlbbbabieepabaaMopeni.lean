/-
  A slice of small whole numbers that comes in, as the walk asks for it.
-/
import Derived.Test.YtlbbbabieepabaaMlift
import Derived.Test.YtlbbbabieepabaaMranks
import Derived.Deep.Slices
namespace Go.Proofs.Ytlbbbabieepabaa
open Go.ChangeShapes Go.WideShapes Go.ChangeAt Go.RowKit Go.Deep

def smallOf : Value → Int
  | .int _ z => z
  | _ => 0

theorem trod_small {H : Type} {enc : TypeId × Value → H} {P : Program} {w : World} {base : Nat} {spare : Nat → Bool} {held : Bool} {fuel : Nat} {t : TypeId} {v : Value} {x : DataW H × List MemPlace}
    (ht : P.underlying t = some (.int .i16)) (h : DataW.trod enc P w base spare held fuel t [v] = some x) : ∃ z, v = .int .i16 z ∧ -32768 ≤ z ∧ z ≤ 32767 := by
  cases fuel with
  | zero => simp [DataW.trod] at h
  | succ n =>
    cases v <;> simp [DataW.trod, ht] at h
    rename_i k b
    obtain ⟨⟨rfl, hw⟩, _⟩ := h
    have : -32768 ≤ b ∧ b ≤ 32767 := by simpa [Lit.wf, IntKind.min, IntKind.max, IntKind.signed, IntKind.bits] using hw
    exact ⟨b, rfl, this.1, this.2⟩

theorem is_smalls {H : Type} {enc : TypeId × Value → H} {P : Program} {W : World} {t e : TypeId} {v : Value} {d : DataW H} {ps : List MemPlace} {base : Nat} {spare : Nat → Bool} {b0 : Nat} {held : Bool}
    (ht : P.underlying t = some (.slice e)) (he : P.underlying e = some (.int .i16)) (hc : P.cellsOf e = 1) (hval : Value.okWide P W .any base t v) (h : DataW.Trod enc P W b0 spare held t v d ps)
    (hlt : ∀ x ∈ ps, x.block < W.heap.size) : ∃ zs, IsSmalls W v zs := by
  obtain ⟨a0, len, cap, rfl⟩ := okWide_slice ht hval
  obtain ⟨fuel, hf⟩ := h
  rcases open_slice1 ht hc hf with ⟨hcs, hx⟩ | ⟨a, len', cap', m, n, V, D, Pl, hcs, hb, hl, hm, hmm, hx, hcell⟩
  · simp [Value.cells] at hcs
    obtain ⟨rfl, rfl, rfl⟩ := hcs
    exact ⟨[], none, 0, rfl, by intro x hx; simp at hx, fun i hi => by simp at hi⟩
  · simp [Value.cells] at hcs
    obtain ⟨rfl, rfl, rfl⟩ := hcs
    by_cases h0 : len = 0
    · subst h0; exact ⟨[], some a, cap, rfl, by intro x hx; simp at hx, fun i hi => by simp at hi⟩
    · have hml : len ≤ m := by rw [hmm]; split <;> omega
      have hw : ∀ i, i < len → V i = .int .i16 (smallOf (V i)) ∧ -32768 ≤ smallOf (V i) ∧ smallOf (V i) ≤ 32767 := fun i hi => by
        obtain ⟨b, hb, hlt⟩ := trod_small he (hcell i (by omega)).2
        rw [hb]; exact ⟨rfl, hlt⟩
      obtain ⟨b, off, spot⟩ := a
      have hspot : spot = none := by simpa [Addr.add] using World.cell?_spot (hcell 0 (by omega)).1
      subst hspot
      have hbW : b < W.heap.size := hlt (.cell b off) (by
        rw [(Prod.mk.inj hx).2]
        exact List.mem_append_left _ (MemPlace.mem_row.2 ⟨0, by omega, by simp⟩))
      refine ⟨(List.range len).map fun i => smallOf (V i), some ⟨b, off, none⟩, cap, by simp, ?_, ?_⟩
      · intro x hx
        obtain ⟨i, hi, rfl⟩ := List.mem_map.1 hx
        exact (hw i (List.mem_range.1 hi)).2
      · intro i hi
        have hi' : i < len := by simpa using hi
        have := (hcell i (by omega)).1
        rw [add_plain, (hw i hi').1] at this
        exact ⟨b, off, rfl, hbW, by simpa using this⟩

end Go.Proofs.Ytlbbbabieepabaa
