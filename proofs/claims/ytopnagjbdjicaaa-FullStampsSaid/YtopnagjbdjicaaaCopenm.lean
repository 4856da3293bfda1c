import Derived.Test.YtopnagjbdjicaaaLopenm
import Derived.Test.YtopnagjbdjicaaaCmatm
import Derived.Deep.Strs

/-
  Squares of counts that come in, as the walks ask for them.
-/
namespace Go.Proofs.Ytopnagjbdjicaaa
open Go.ChangeShapes Go.WideShapes Go.ChangeAt Go.RowKit Go.Deep

theorem Try.cells_rq : Try.prog.cellsOf 29 = 1 := by kernel_rfl
instance : Inhabited Rd := ⟨⟨none, 0, []⟩⟩
theorem Try.cells_rr : Try.prog.cellsOf 41 = 1 := by kernel_rfl

/-- A row. -/
theorem trod_row {H : Type} {enc : TypeId × Value → H} {W : World} {v : Value} {x : DataW H × List MemPlace} {b0 : Nat} {spare : Nat → Bool} {held : Bool} {fuel : Nat}
    (h : DataW.trod enc Try.prog W b0 spare held fuel 41 [v] = some x) (hlt : ∀ q ∈ x.2, q.block < W.heap.size) : ∃ r : Rd, v = rdV r ∧ SlAt qV QM W r.a r.c r.l := by
  rcases open_slice1 Try.underlying41 Try.cells_rq h with ⟨hcs, hx⟩ | ⟨a, len, cap, m, n, V, D, Pl, hcs, hb, hl, hm, hmm, hx, hcell⟩
  · simp only [List.cons.injEq, and_true] at hcs
    subst hcs
    exact ⟨⟨none, 0, []⟩, rfl, SlAt.none _ _ _⟩
  · simp only [List.cons.injEq, and_true] at hcs
    subst hcs
    by_cases h0 : len = 0
    · subst h0
      exact ⟨⟨some a, cap, []⟩, rfl, by simp, by simp, hm, (fun e => by cases e), fun i hi => by simp at hi⟩
    · have hml : len ≤ m := by rw [hmm]; split <;> omega
      have hw : ∀ i, i < len → V i = qV (natOf (V i)) ∧ natOf (V i) < QM := fun i hi => trod_u64 Try.underlying29 (hcell i (by omega)).2
      obtain ⟨b, off, spot⟩ := a
      have hspot : spot = none := by simpa [Addr.add] using World.cell?_spot (hcell 0 (by omega)).1
      subst hspot
      have hbW : b < W.heap.size := hlt (.cell b off) (by
        rw [hx]
        exact List.mem_append_left _ (MemPlace.mem_row.2 ⟨0, by omega, by simp⟩))
      refine ⟨⟨some ⟨b, off, none⟩, cap, (List.range len).map fun i => natOf (V i)⟩, by simp [rdV], ?_, by simpa using hl, hm, (fun e => by cases e), ?_⟩
      · intro x hx
        obtain ⟨i, hi, rfl⟩ := List.mem_map.1 hx
        exact (hw i (List.mem_range.1 hi)).2
      · intro i hi
        have hi' : i < len := by simpa using hi
        have := (hcell i (by omega)).1
        rw [add_spot, (hw i hi').1] at this
        exact ⟨b, off, rfl, hbW, by simpa using this⟩

set_option maxRecDepth 20000 in
theorem is_sq {H : Type} {enc : TypeId × Value → H} {W : World} {v : Value} {d : DataW H} {ps : List MemPlace} {base : Nat} {spare : Nat → Bool} {b0 : Nat} {held : Bool}
    (hval : Value.okWide Try.prog W .any base 55 v) (h : DataW.Trod enc Try.prog W b0 spare held 55 v d ps)
    (hlt : ∀ x ∈ ps, x.block < W.heap.size) : ∃ (L : List Rd) (a : Option Addr) (cap : Nat), v = .slice a L.length cap ∧ SqV W a cap L := by
  obtain ⟨a0, len, cap, rfl⟩ := okWide_slice Try.underlying55 hval
  obtain ⟨fuel, hf⟩ := h
  rcases open_slice1 Try.underlying55 Try.cells_rr hf with ⟨hcs, hx⟩ | ⟨a, len', cap', m, n, V, D, Pl, hcs, hb, hl, hm, hmm, hx, hcell⟩
  · simp [Value.cells] at hcs
    obtain ⟨rfl, rfl, rfl⟩ := hcs
    exact ⟨[], none, 0, rfl, SlV.none _, by simp⟩
  · simp [Value.cells] at hcs
    obtain ⟨rfl, rfl, rfl⟩ := hcs
    by_cases h0 : len = 0
    · subst h0
      exact ⟨[], some a, cap, rfl, ⟨by simp, hm, (fun e => by cases e), fun i hi => by simp at hi⟩, by simp⟩
    · have hml : len ≤ m := by rw [hmm]; split <;> omega
      have hps : ps = MemPlace.row a m ++ (List.range m).flatMap Pl := (Prod.mk.inj hx).2
      have hone : ∀ i, i < len → ∃ r : Rd, W.cell? (a.add i) = some (rdV r) ∧ SlAt qV QM W r.a r.c r.l := fun i hi => by
        obtain ⟨h1, h2⟩ := hcell i (by omega)
        obtain ⟨r, e, hr⟩ := trod_row h2 (fun q hq => hlt q (by
          rw [hps]
          exact List.mem_append_right _ (List.mem_flatMap.2 ⟨i, List.mem_range.2 (by omega), hq⟩)))
        exact ⟨r, by rw [h1, e], hr⟩
      obtain ⟨R, hR⟩ := choose_lt hone
      obtain ⟨b, off, spot⟩ := a
      have hspot : spot = none := by simpa [Addr.add] using World.cell?_spot (hR 0 (by omega)).1
      subst hspot
      have hbW : b < W.heap.size := hlt (.cell b off) (by
        rw [hps]
        exact List.mem_append_left _ (MemPlace.mem_row.2 ⟨0, by omega, by simp⟩))
      refine ⟨(List.range len).map R, some ⟨b, off, none⟩, cap, by simp, ⟨by simpa using hl, hm, (fun e => by cases e), fun i hi => ?_⟩, fun r hr => ?_⟩
      · have hi' : i < len := by simpa using hi
        have := (hR i hi').1
        rw [Addr.add_lit] at this
        exact ⟨b, off, rfl, hbW, by simpa using this⟩
      · obtain ⟨i, hi, rfl⟩ := List.mem_map.1 hr
        exact (hR i (List.mem_range.1 hi)).2

end Go.Proofs.Ytopnagjbdjicaaa
