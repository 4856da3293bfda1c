/-
  Slices of acts that come in, as the walks ask for them.
-/
import Derived.Test.YtedfiejocajpkaaWzs
import Derived.Test.YtedfiejocajpkaaYact
import Derived.Deep.Slices
import Derived.Deep.Strs
import Derived.Lib.SmallJoins
namespace Go.Proofs.Ytedfiejocajpkaa
open Go.ChangeShapes Go.WideShapes Go.ChangeAt Go.RowKit Go.Deep

theorem Try.cells_act : Try.prog.cellsOf 43 = 4 := by kernel_rfl

set_option maxRecDepth 20000 in
/-- One act. -/
theorem is_act {H : Type} {enc : TypeId × Value → H} {W : World} {cs : List Value} {x : DataW H × List MemPlace} {b0 : Nat} {spare : Nat → Bool} {held : Bool} {fuel : Nat}
    (h : DataW.trod enc Try.prog W b0 spare held fuel 43 cs = some x) : ∃ (q : Ad), cs = [.int .i64 q.op, .int .i64 q.bx, .int .i64 q.to, .int .i64 q.v] := by
  obtain ⟨y0, y1, y2, y3, n, hx, hl, h0, h1, h2, h3⟩ := Joins.trod_struct4 Try.underlying43 h
  rw [Try.cells_act] at hl
  match cs, hl with
  | [c0, c1, c2, c3], _ =>
    simp only [Try.cells_z] at h0 h1 h2 h3
    have e0 := trod_z Try.underlying3 h0
    have e1 := trod_z Try.underlying3 h1
    have e2 := trod_z Try.underlying3 h2
    have e3 := trod_z Try.underlying3 h3
    refine ⟨⟨zOf c0, zOf c1, zOf c2, zOf c3⟩, ?_⟩
    simp only [List.cons.injEq, and_true]
    exact ⟨e0, e1, e2, e3⟩

set_option maxRecDepth 20000 in
theorem is_acts {H : Type} {enc : TypeId × Value → H} {W : World} {v : Value} {d : DataW H} {ps : List MemPlace} {base : Nat} {spare : Nat → Bool} {b0 : Nat} {held : Bool}
    (hval : Value.okWide Try.prog W .any base 37 v) (h : DataW.Trod enc Try.prog W b0 spare held 37 v d ps)
    (hlt : ∀ x ∈ ps, x.block < W.heap.size) : ∃ (l : List Ad) (a : Option Addr) (cap : Nat), v = .slice a l.length cap ∧ AdAt W a cap l := by
  obtain ⟨a0, len, cap, rfl⟩ := okWide_slice Try.underlying37 hval
  obtain ⟨fuel, hf⟩ := h
  rcases open_slice Try.underlying37 hf with ⟨hcs, hx⟩ | ⟨a, len', cap', m, n, D, Pl, hcs, hb, hl, hm, hmm, hx, hcell⟩
  · simp [Value.cells] at hcs
    obtain ⟨rfl, rfl, rfl⟩ := hcs
    exact ⟨[], none, 0, rfl, by simp, by unfold maxLen; omega, fun _ => rfl, fun i hi => by simp at hi⟩
  · simp [Value.cells] at hcs
    obtain ⟨rfl, rfl, rfl⟩ := hcs
    by_cases h0 : len = 0
    · subst h0
      exact ⟨[], some a, cap, rfl, by simp, hm, (fun e => by cases e), fun i hi => by simp at hi⟩
    · have hml : len ≤ m := by rw [hmm]; split <;> omega
      rw [Try.cells_act] at hx hcell
      have hps : ps = MemPlace.row a (m * 4) ++ (List.range m).flatMap Pl := (Prod.mk.inj hx).2
      have hone : ∀ i, i < len → ∃ (r : Ad), W.cells? b0 (a.add (i * 4)) 4 = some [.int .i64 r.op, .int .i64 r.bx, .int .i64 r.to, .int .i64 r.v] := fun i hi => by
        obtain ⟨cs', h1, h2⟩ := hcell i (by omega)
        obtain ⟨q, rfl⟩ := is_act h2
        exact ⟨q, h1⟩
      have : Inhabited Ad := ⟨⟨0, 0, 0, 0⟩⟩
      obtain ⟨R, hR⟩ := choose_lt hone
      obtain ⟨b, off, spot⟩ := a
      have c0 : W.cell? ((⟨b, off, spot⟩ : Addr).add (0 * 4)) = some _ := (World.cells?_some (hR 0 (by omega))).2.2 0 (by omega) |> fun h => by simpa [add_nought] using h
      have hspot : spot = none := by simpa [Addr.add] using World.cell?_spot c0
      subst hspot
      have hbW : b < W.heap.size := hlt (.cell b off) (by
        rw [hps]
        exact List.mem_append_left _ (MemPlace.mem_row.2 ⟨0, by omega, by simp⟩))
      have hc : ∀ i, i < len → ∀ j, j < 4 → W.cell? ⟨b, off + i * 4 + j, none⟩ = [Value.int .i64 (R i).op, Value.int .i64 (R i).bx, Value.int .i64 (R i).to, Value.int .i64 (R i).v][j]? := fun i hi j hj => by
        have h := (World.cells?_some (hR i hi)).2.2 j hj
        rw [Addr.add_lit, Addr.add_lit] at h
        exact h
      refine ⟨(List.range len).map R, some ⟨b, off, none⟩, cap, by simp, by simpa using hl, hm, (fun e => by cases e), fun i hi => ?_⟩
      have hi' : i < len := by simpa using hi
      refine ⟨b, off, rfl, hbW, ?_, ?_, ?_, ?_⟩
      · simpa using hc i hi' 0 (by decide)
      · simpa using hc i hi' 1 (by decide)
      · simpa using hc i hi' 2 (by decide)
      · simpa using hc i hi' 3 (by decide)

end Go.Proofs.Ytedfiejocajpkaa
