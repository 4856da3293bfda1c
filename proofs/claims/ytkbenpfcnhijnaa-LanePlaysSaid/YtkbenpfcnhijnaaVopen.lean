/-
  Slices of ints and of acts that come in, as the walks ask for them.
-/
import Derived.Test.YtkbenpfcnhijnaaLlift
import Derived.Test.YtkbenpfcnhijnaaVact
import Derived.Deep.Slices
import Derived.Deep.Strs
namespace Go.Proofs.Ytkbenpfcnhijnaa
open Go.ChangeShapes Go.WideShapes Go.ChangeAt Go.RowKit Go.Deep

def zOf : Value → Int
  | .int _ z => z
  | _ => 0

theorem trod_z {H : Type} {enc : TypeId × Value → H} {P : Program} {w : World} {base : Nat} {spare : Nat → Bool} {held : Bool} {fuel : Nat} {t : TypeId} {v : Value} {x : DataW H × List MemPlace}
    (ht : P.underlying t = some (.int .i64)) (h : DataW.trod enc P w base spare held fuel t [v] = some x) : v = .int .i64 (zOf v) := by
  cases fuel with
  | zero => simp [DataW.trod] at h
  | succ n =>
    cases v <;> simp [DataW.trod, ht] at h
    rename_i k b
    obtain ⟨⟨rfl, _⟩, _⟩ := h
    rfl

/-- Ints. -/
theorem is_zs {H : Type} {enc : TypeId × Value → H} {P : Program} {W : World} {t e : TypeId} {v : Value} {d : DataW H} {ps : List MemPlace} {base : Nat} {spare : Nat → Bool} {b0 : Nat} {held : Bool}
    (ht : P.underlying t = some (.slice e)) (he : P.underlying e = some (.int .i64)) (hc : P.cellsOf e = 1)
    (hval : Value.okWide P W .any base t v) (h : DataW.Trod enc P W b0 spare held t v d ps)
    (hlt : ∀ x ∈ ps, x.block < W.heap.size) : ∃ (xs : List Int) (a : Option Addr) (cap : Nat), v = .slice a xs.length cap ∧ SlV W a cap (xs.map iV) := by
  obtain ⟨a0, len, cap, rfl⟩ := okWide_slice ht hval
  obtain ⟨fuel, hf⟩ := h
  rcases open_slice1 ht hc hf with ⟨hcs, hx⟩ | ⟨a, len', cap', m, n, V, D, Pl, hcs, hb, hl, hm, hmm, hx, hcell⟩
  · simp [Value.cells] at hcs
    obtain ⟨rfl, rfl, rfl⟩ := hcs
    exact ⟨[], none, 0, rfl, SlV.none _⟩
  · simp [Value.cells] at hcs
    obtain ⟨rfl, rfl, rfl⟩ := hcs
    by_cases h0 : len = 0
    · subst h0
      exact ⟨[], some a, cap, rfl, ⟨by simp, hm, (fun e => by cases e), fun i hi => by simp at hi⟩⟩
    · have hml : len ≤ m := by rw [hmm]; split <;> omega
      have hw : ∀ i, i < len → V i = iV (zOf (V i)) := fun i hi => trod_z he (hcell i (by omega)).2
      obtain ⟨b, off, spot⟩ := a
      have hspot : spot = none := by simpa [Addr.add] using World.cell?_spot (hcell 0 (by omega)).1
      subst hspot
      have hbW : b < W.heap.size := hlt (.cell b off) (by
        rw [(Prod.mk.inj hx).2]
        exact List.mem_append_left _ (MemPlace.mem_row.2 ⟨0, by omega, by simp⟩))
      refine ⟨(List.range len).map fun i => zOf (V i), some ⟨b, off, none⟩, cap, by simp, ⟨by simpa using hl, hm, (fun e => by cases e), ?_⟩⟩
      intro i hi
      have hi' : i < len := by simpa using hi
      have := (hcell i (by omega)).1
      rw [Addr.add_lit, hw i hi'] at this
      exact ⟨b, off, rfl, hbW, by simpa using this⟩

theorem Try.cells_act : Try.prog.cellsOf 37 = 3 := by kernel_rfl
theorem Try.cells_z : Try.prog.cellsOf 3 = 1 := by kernel_rfl
theorem add_nought (a : Addr) : a.add 0 = a := by simp [Addr.add]

set_option maxRecDepth 20000 in
/-- One act. -/
theorem is_act {H : Type} {enc : TypeId × Value → H} {W : World} {cs : List Value} {x : DataW H × List MemPlace} {b0 : Nat} {spare : Nat → Bool} {held : Bool} {fuel : Nat}
    (h : DataW.trod enc Try.prog W b0 spare held fuel 37 cs = some x) : ∃ (q : Ac), cs = [.int .i64 q.op, .int .i64 q.k, .int .i64 q.v] := by
  obtain ⟨y0, y1, y2, n, hx, hl, h0, h1, h2⟩ := trod_struct3 Try.underlying37 h
  rw [Try.cells_act] at hl
  match cs, hl with
  | [c0, c1, c2], _ =>
    simp only [Try.cells_z] at h0 h1 h2
    have e0 := trod_z Try.underlying3 h0
    have e1 := trod_z Try.underlying3 h1
    have e2 := trod_z Try.underlying3 h2
    refine ⟨⟨zOf c0, zOf c1, zOf c2⟩, ?_⟩
    simp only [List.cons.injEq, and_true]
    exact ⟨e0, e1, e2⟩

set_option maxRecDepth 20000 in
theorem is_acts {H : Type} {enc : TypeId × Value → H} {W : World} {v : Value} {d : DataW H} {ps : List MemPlace} {base : Nat} {spare : Nat → Bool} {b0 : Nat} {held : Bool}
    (hval : Value.okWide Try.prog W .any base 31 v) (h : DataW.Trod enc Try.prog W b0 spare held 31 v d ps)
    (hlt : ∀ x ∈ ps, x.block < W.heap.size) : ∃ (l : List Ac) (a : Option Addr) (cap : Nat), v = .slice a l.length cap ∧ AcAt W a cap l := by
  obtain ⟨a0, len, cap, rfl⟩ := okWide_slice Try.underlying31 hval
  obtain ⟨fuel, hf⟩ := h
  rcases open_slice Try.underlying31 hf with ⟨hcs, hx⟩ | ⟨a, len', cap', m, n, D, Pl, hcs, hb, hl, hm, hmm, hx, hcell⟩
  · simp [Value.cells] at hcs
    obtain ⟨rfl, rfl, rfl⟩ := hcs
    exact ⟨[], none, 0, rfl, by simp, by unfold maxLen; omega, fun _ => rfl, fun i hi => by simp at hi⟩
  · simp [Value.cells] at hcs
    obtain ⟨rfl, rfl, rfl⟩ := hcs
    by_cases h0 : len = 0
    · subst h0
      exact ⟨[], some a, cap, rfl, by simp, hm, (fun e => by cases e), fun i hi => by simp at hi⟩
    · have hml : len ≤ m := by rw [hmm]; split <;> omega
      rw [Try.cells_act] at hx hcell
      have hps : ps = MemPlace.row a (m * 3) ++ (List.range m).flatMap Pl := (Prod.mk.inj hx).2
      have hone : ∀ i, i < len → ∃ (r : Ac), W.cells? b0 (a.add (i * 3)) 3 = some [.int .i64 r.op, .int .i64 r.k, .int .i64 r.v] := fun i hi => by
        obtain ⟨cs', h1, h2⟩ := hcell i (by omega)
        obtain ⟨q, rfl⟩ := is_act h2
        exact ⟨q, h1⟩
      have : Inhabited Ac := ⟨⟨0, 0, 0⟩⟩
      obtain ⟨R, hR⟩ := choose_lt hone
      obtain ⟨b, off, spot⟩ := a
      have c0 : W.cell? ((⟨b, off, spot⟩ : Addr).add (0 * 3)) = some _ := (World.cells?_some (hR 0 (by omega))).2.2 0 (by omega) |> fun h => by simpa [add_nought] using h
      have hspot : spot = none := by simpa [Addr.add] using World.cell?_spot c0
      subst hspot
      have hbW : b < W.heap.size := hlt (.cell b off) (by
        rw [hps]
        exact List.mem_append_left _ (MemPlace.mem_row.2 ⟨0, by omega, by simp⟩))
      have hc : ∀ i, i < len → ∀ j, j < 3 → W.cell? ⟨b, off + i * 3 + j, none⟩ = [Value.int .i64 (R i).op, Value.int .i64 (R i).k, Value.int .i64 (R i).v][j]? := fun i hi j hj => by
        have h := (World.cells?_some (hR i hi)).2.2 j hj
        rw [Addr.add_lit, Addr.add_lit] at h
        exact h
      refine ⟨(List.range len).map R, some ⟨b, off, none⟩, cap, by simp, by simpa using hl, hm, (fun e => by cases e), fun i hi => ?_⟩
      have hi' : i < len := by simpa using hi
      refine ⟨b, off, rfl, hbW, ?_, ?_, ?_⟩
      · simpa using hc i hi' 0 (by decide)
      · simpa using hc i hi' 1 (by decide)
      · simpa using hc i hi' 2 (by decide)

end Go.Proofs.Ytkbenpfcnhijnaa
