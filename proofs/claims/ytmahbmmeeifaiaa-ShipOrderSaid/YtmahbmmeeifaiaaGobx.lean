/-
  A ship, an act beside it, what was pushed in a row of the call's own, and what the ship gave.
-/
import Derived.Test.YtmahbmmeeifaiaaGduo
namespace Go.Proofs.Ytmahbmmeeifaiaa
open Go.RowKit

/-- A ship and a row of strings of the call's own, apart; all below N as it was. -/
def OrdS (W : World) (N p : Nat) (S : Sh) (v : Value) (l : List ByteArray) (w : World) : Prop :=
  ∃ F, ShAt w N p F S ∧ Below N W w ∧ w.ownsRow N 9 1 v l.length (l.map Value.string) ∧ ∀ k, v.ownBlock = some k → ¬ F k
/-- An act, and items, too. -/
def OrdX (W : World) (N p b : Nat) (x : Sa) (S : Sh) (v : Value) (l : List ByteArray) (L : List Its) (w : World) : Prop :=
  ∃ F, ShAt w N p F S ∧ Below N W w ∧ w.ownsRow N 9 1 v l.length (l.map Value.string) ∧ (∀ k, v.ownBlock = some k → ¬ F k ∧ k ≠ b) ∧ (¬ F b ∧ b < w.heap.size) ∧
    (w.cell? ⟨b, 0, none⟩ = some (.int .i64 x.op) ∧ w.cell? ⟨b, 1, none⟩ = some (.int .u64 (x.n : Int)) ∧ w.cell? ⟨b, 2, none⟩ = some (.string x.b) ∧ w.cell? ⟨b, 3, none⟩ = some (.bool x.r)) ∧
    ∀ it ∈ L, ItR (fun k => ¬ F k ∧ v.ownBlock ≠ some k) w it.v it.g it.ss

section
variable {W w w' : World} {N p b n : Nat} {x : Sa} {S T : Sh} {v : Value} {l : List ByteArray} {L : List Its}

theorem OrdS.be (h : OrdS W N p S v l w) : Below N W w := h.elim fun _ h => h.2.1
theorem OrdX.be (h : OrdX W N p b x S v l L w) : Below N W w := h.elim fun _ h => h.2.1
theorem OrdX.sh (h : OrdX W N p b x S v l L w) : ∃ F, ShAt w N p F S := h.elim fun F h => ⟨F, h.1⟩
theorem OrdX.own (h : OrdX W N p b x S v l L w) : w.ownsRow N 9 1 v l.length (l.map Value.string) := h.elim fun _ h => h.2.2.1
theorem OrdS.own (h : OrdS W N p S v l w) : w.ownsRow N 9 1 v l.length (l.map Value.string) := h.elim fun _ h => h.2.2.1
theorem OrdX.nle (h : OrdX W N p b x S v l L w) : N ≤ w.heap.size := h.elim fun _ h => h.1.size.1
theorem OrdX.cells (h : OrdX W N p b x S v l L w) : w.cell? ⟨b, 0, none⟩ = some (.int .i64 x.op) ∧ w.cell? ⟨b, 1, none⟩ = some (.int .u64 (x.n : Int)) ∧ w.cell? ⟨b, 2, none⟩ = some (.string x.b) ∧ w.cell? ⟨b, 3, none⟩ = some (.bool x.r) := by
  obtain ⟨F, _, _, _, _, _, h, _⟩ := h
  exact h
theorem OrdX.below (h : OrdX W N p b x S v l L w) (hb : Below w.heap.size w w') : OrdX W N p b x S v l L w' := by
  obtain ⟨F, hA, hB, hO, hv, hbb, ⟨c0, c1, c2, c3⟩, hI⟩ := h
  exact ⟨F, hA.below hb, hB.trans (hb.mono hA.size.1), own_below hO hb, hv, ⟨hbb.1, Nat.lt_of_lt_of_le hbb.2 hb.size⟩, ⟨cell_go c0 hb, cell_go c1 hb, cell_go c2 hb, cell_go c3 hb⟩, fun it h => (hI it h).below hb⟩
theorem OrdX.drewN (h : OrdX W N p b x S v l L w) (q : Nat) : OrdX W N p b x S v l L (w.drewN q) := h.below ⟨rfl, rfl, rfl, Nat.le_refl _, fun _ _ => rfl⟩
theorem OrdX.two (h : OrdX W N p b x S v l L w) : OrdS W N p S v l w := by
  obtain ⟨F, hA, hB, hO, hv, _⟩ := h
  exact ⟨F, hA, hB, hO, fun k e => (hv k e).1⟩
theorem OrdX.it (h : OrdX W N p b x S v l L w) {y : Its} (hy : y ∈ L) : ItR (fun _ => True) w y.v y.g y.ss := by
  obtain ⟨F, _, _, _, _, _, _, hI⟩ := h
  exact (hI y hy).mono (fun _ _ _ => trivial)
theorem OrdX.none (h : OrdX W N p b x S v l L w) : OrdX W N p b x S v l [] w := by
  obtain ⟨F, hA, hB, hO, hv, hbb, hc, _⟩ := h
  exact ⟨F, hA, hB, hO, hv, hbb, hc, fun _ h => by cases h⟩
theorem OrdX.nil (h : OrdX W N p b x S v l L w) (g : Nat) : OrdX W N p b x S v l [⟨.slice Option.none 0 0, g, []⟩] w := by
  obtain ⟨F, hA, hB, hO, hv, hbb, hc, _⟩ := h
  refine ⟨F, hA, hB, hO, hv, hbb, hc, fun it h => ?_⟩
  obtain rfl := List.mem_singleton.1 h
  exact ⟨Option.none, 0, [], rfl, rfl, RowV.none _ _ _, fun b hb => by cases hb⟩
theorem OrdS.act (h : OrdS W N p S v l w) (x : Sa) (t : TypeId) : OrdX W N p w.heap.size x S v l [] (w.alloc (.cells (saC x) t)) := by
  obtain ⟨F, hA, hB, hO, hv⟩ := h
  have hb : Below w.heap.size w (w.alloc (.cells (saC x) t)) := (Below.refl _ _).alloc (Nat.le_refl _) _
  refine ⟨F, hA.below hb, hB.trans (hb.mono hA.size.1), own_below hO hb, fun k e => ⟨hv k e, by have := (hO.lt k e).2; omega⟩, ⟨fun f => ?_, by simp⟩, ⟨by simp [saC], by simp [saC], by simp [saC], by simp [saC]⟩, fun _ h => by cases h⟩
  have := (hA.size.2.2 _ f).2
  omega

/-- A call on the ship. -/
theorem ordx_op {f : FuncId} {args : Array Value} {R : Value → Value} {g : Nat} {ss : List ByteArray} (h : OrdX W N p b x S v l L w) (hc : ∀ F, ShAt w N p F S → Calls Try.prog f args w (OpPost w N p F T R g ss)) :
    Calls Try.prog f args w fun E w' => ∃ a cap, E = .returned (R (.slice a ss.length cap)) ∧ OrdX W N p b x T v l (⟨.slice a ss.length cap, g, ss⟩ :: L) w' := by
  obtain ⟨F, hA, hB, hO, hv, ⟨hb1, hb2⟩, ⟨c0, c1, c2, c3⟩, hI⟩ := h
  refine (hc F hA).mono ?_
  rintro E w' ⟨F', a, cap, he, hA', hK, hF, hi⟩
  have hs := hA.size
  have hcell : ∀ i, w'.cell? ⟨b, i, Option.none⟩ = w.cell? ⟨b, i, Option.none⟩ := fun i => hK.cell (p := ⟨b, i, Option.none⟩) hb2 hb1
  refine ⟨a, cap, he, F', hA', hB.trans (hK.below hs.1 (fun k f => (hs.2.2 k f).1)), own_carry hO (fun k e => hK.block k (hO.lt k e).2 (hv k e).1), fun k e => ⟨fun f => ?_, (hv k e).2⟩, ⟨fun f => ?_, Nat.lt_of_lt_of_le hb2 hK.size⟩, ⟨(hcell 0).trans c0, (hcell 1).trans c1, (hcell 2).trans c2, (hcell 3).trans c3⟩, fun it h => ?_⟩
  · rcases hF k f with f | f
    · exact (hv k e).1 f
    · have := (hO.lt k e).2
      omega
  · rcases hF b f with f | f
    · exact hb1 f
    · omega
  · rcases List.mem_cons.1 h with rfl | h
    · exact hi.mono (fun k _ hA => ⟨hA.2, fun e => by have := (hO.lt k e).2; have := hA.1; omega⟩)
    · exact (((hI it h).mono (A' := fun k => (¬ F k ∧ v.ownBlock ≠ some k) ∧ k < w.heap.size) (fun k hk hn => ⟨hn, hk⟩)).carry hK.size (fun k hk hn => hK.block k hk hn.1.1)).mono (fun k _ hn => ⟨fun f => (hF k f).elim hn.1.1 (fun l => by have := hn.2; omega), hn.1.2⟩)

/-- One more stands in the row. -/
theorem OrdX.append {w2 : World} {o : Obj} {v2 : Value} {s : ByteArray} (h : OrdX W N p b x S v l L w) (hown : w2.ownsRow N 9 1 v2 (l.length + 1) (l.map Value.string ++ [.string s])) (hgr : (w.alloc o).grownBy w2 v.ownBlock) (hat : ∀ k, v2.ownBlock = some k → v.ownBlock = some k ∨ (w.alloc o).heap.size ≤ k) :
    OrdX W N p b x S v2 (l ++ [s]) L w2 := by
  have hal : (w.alloc o).heap.size = w.heap.size + 1 := World.size_alloc ..
  obtain ⟨F, hA, hB, hO, hv, ⟨hb1, hb2⟩, ⟨c0, c1, c2, c3⟩, hI⟩ := h
  have hs := hA.size
  have hsz := hgr.size
  have hblk : ∀ k, k < w.heap.size → v.ownBlock ≠ some k → w2.heap[k]? = w.heap[k]? := fun k hk hn => (hgr.block k (by omega) (fun e => hn e.symm)).trans (Below.heap_alloc _ _ _ hk)
  have hnb : v.ownBlock ≠ some b := fun e => (hv b e).2 rfl
  have hcell : ∀ i, w2.cell? ⟨b, i, Option.none⟩ = w.cell? ⟨b, i, Option.none⟩ := fun i => World.cell?_of_block (w := w) (a := ⟨b, i, Option.none⟩) (hblk b hb2 hnb)
  have hlt : ∀ k, v.ownBlock = some k → N ≤ k := fun k e => (hO.lt k e).1
  have hA2 : ShAt w2 N p F S := by
    obtain ⟨q, vo, vw, LO, LW, hR, e⟩ := hA
    exact ⟨q, vo, vw, LO, LW, hR.carry (by omega) (fun k f => hblk k (hR.low k f).2 (fun e => (hv k e).1 f)), e⟩
  refine ⟨F, hA2, (hB.alloc (o := o) hs.1).grown hgr (by omega) hlt, by rw [List.map_append, List.length_append]; exact hown, fun k e => ?_, ⟨hb1, by omega⟩, ⟨(hcell 0).trans c0, (hcell 1).trans c1, (hcell 2).trans c2, (hcell 3).trans c3⟩, fun it h => ?_⟩
  · rcases hat k e with e2 | e2
    · exact hv k e2
    · exact ⟨fun f => by have := (hs.2.2 k f).2; omega, by omega⟩
  · exact (((hI it h).mono (A' := fun k => (¬ F k ∧ v.ownBlock ≠ some k) ∧ k < w.heap.size) (fun k hk hn => ⟨hn, hk⟩)).carry (by omega) (fun k hk hn => hblk k hk hn.1.2)).mono (fun k _ hn => ⟨hn.1.1, fun e => (hat k e).elim hn.1.2 (fun l => by have := hn.2; omega)⟩)
end

end Go.Proofs.Ytmahbmmeeifaiaa
