import Derived.Test.YtbmpeadoicjpnaaMab
import Derived.Test.YtbmpeadoicjpnaaMac
import Derived.Deep.MidRow

/-
  How writers and readers lie in memory; which of it a call may turn.
-/
namespace Go.Proofs.Ytbmpeadoicjpnaa
open Go.RowKit

/-- A writer: its own cell in block p, and the row of bytes that it owns; all in blocks of F, from N on. -/
structure WrV (w : World) (N p : Nat) (F : Nat → Prop) (bs : List Nat) (v : Value) : Prop where
  cell : w.cell? ⟨p, 0, none⟩ = some v
  fz : w.frozen? ⟨p, 0, none⟩ = false
  own : w.ownsRow N 5 1 v bs.length (bs.map bV)
  inP : F p
  inO : ∀ k, v.ownBlock = some k → F k
  low : ∀ k, F k → N ≤ k ∧ k < w.heap.size
  apart : v.ownBlock ≠ some p
  lt : ∀ x ∈ bs, x < 256

def WrAt (w : World) (N p : Nat) (F : Nat → Prop) (bs : List Nat) : Prop := ∃ v, WrV w N p F bs v

theorem WrV.carry {w w' : World} {N p : Nat} {F : Nat → Prop} {bs : List Nat} {v : Value} (h : WrV w N p F bs v) (hs : w.heap.size ≤ w'.heap.size) (hb : ∀ k, F k → w'.heap[k]? = w.heap[k]?) : WrV w' N p F bs v :=
  ⟨(World.cell?_of_block (w := w) (a := ⟨p, 0, none⟩) (hb p h.inP)).trans h.cell, (World.frozen?_of_block (w := w) (a := ⟨p, 0, none⟩) (hb p h.inP)).trans h.fz, own_carry h.own (fun k hk => hb k (h.inO k hk)), h.inP, h.inO, fun k f => ⟨(h.low k f).1, Nat.lt_of_lt_of_le (h.low k f).2 hs⟩, h.apart, h.lt⟩

theorem WrV.below {w w' : World} {N p : Nat} {F : Nat → Prop} {bs : List Nat} {v : Value} (h : WrV w N p F bs v) (hb : Below w.heap.size w w') : WrV w' N p F bs v :=
  h.carry hb.size (fun k f => hb.block k (h.low k f).2)

/-- Another's doing leaves a writer as it is. -/
theorem WrAt.keep {w w' : World} {N p : Nat} {F G : Nat → Prop} {bs : List Nat} (h : WrAt w N p F bs) (hk : Keep G w w') (hFG : ∀ k, F k → ¬ G k) : WrAt w' N p F bs := by
  obtain ⟨v, hv⟩ := h
  exact ⟨v, hv.carry hk.size (fun k f => hk.block k (hv.low k f).2 (hFG k f))⟩

theorem WrAt.below {w w' : World} {N p : Nat} {F : Nat → Prop} {bs : List Nat} (h : WrAt w N p F bs) (hb : Below w.heap.size w w') : WrAt w' N p F bs := by
  obtain ⟨v, hv⟩ := h
  exact ⟨v, hv.below hb⟩

theorem WrAt.drew {w : World} {N p : Nat} {F : Nat → Prop} {bs : List Nat} (h : WrAt w N p F bs) : WrAt w.drew N p F bs := h.below ⟨rfl, rfl, rfl, Nat.le_refl _, fun _ _ => rfl⟩

theorem WrV.drew {w : World} {N p : Nat} {F : Nat → Prop} {bs : List Nat} {v : Value} (h : WrV w N p F bs v) : WrV w.drew N p F bs v := h.below ⟨rfl, rfl, rfl, Nat.le_refl _, fun _ _ => rfl⟩

/-- The new row is stored in the writer's cell. -/
theorem WrV.put {w w2 : World} {N p n : Nat} {F : Nat → Prop} {bs cs : List Nat} {v v2 : Value} (h : WrV w N p F bs v) (hn : n = bs.length + cs.length) (hown : w2.ownsRow N 5 1 v2 n (bs.map bV ++ cs.map bV)) (hgr : w.grownBy w2 v.ownBlock)
    (hat : ∀ k, v2.ownBlock = some k → v.ownBlock = some k ∨ w.heap.size ≤ k) (hc : ∀ x ∈ cs, x < 256) :
    WrV (w2.setCell ⟨p, 0, none⟩ v2) N p (fun k => F k ∨ v2.ownBlock = some k) (bs ++ cs) v2 := by
  subst hn
  have hp := (h.low p h.inP).2
  have hap : v2.ownBlock ≠ some p := fun e => (hat p e).elim (fun e => h.apart e) (fun l => by omega)
  have hb : w2.heap[p]? = w.heap[p]? := hgr.block p hp (fun e => h.apart e.symm)
  refine ⟨World.cell?_setCell_same (h := (World.cell?_of_block (w := w) (a := ⟨p, 0, none⟩) hb).trans h.cell) .., (World.frozen?_setCell ..).trans ((World.frozen?_of_block (w := w) (a := ⟨p, 0, none⟩) hb).trans h.fz), ?_, Or.inl h.inP, fun k hk => Or.inr hk, fun k f => ?_, hap, fun x hx => (List.mem_append.1 hx).elim (h.lt x) (hc x)⟩
  · refine ownsRow_setCell_other ?_ hap _
    simpa using hown
  · rcases f with f | f
    · exact ⟨(h.low k f).1, Nat.lt_of_lt_of_le (h.low k f).2 (by simpa [World.setCell] using hgr.size)⟩
    · have := hown.lt k f
      exact ⟨this.1, by simpa [World.setCell] using this.2⟩

/-- What a writer's call leaves. -/
def WrPost (W : World) (N p : Nat) (F : Nat → Prop) (bs : List Nat) (e : Ending) (w' : World) : Prop :=
  e = .returned (.tuple #[]) ∧ ∃ F', WrAt w' N p F' bs ∧ Keep F W w' ∧ ∀ k, F' k → F k ∨ W.heap.size ≤ k

theorem WrV.post {W w w2 : World} {N p n : Nat} {F : Nat → Prop} {bs cs : List Nat} {v v2 : Value} (h : WrV w N p F bs v) (hk : Keep F W w) (hn : n = bs.length + cs.length) (hown : w2.ownsRow N 5 1 v2 n (bs.map bV ++ cs.map bV)) (hgr : w.grownBy w2 v.ownBlock)
    (hat : ∀ k, v2.ownBlock = some k → v.ownBlock = some k ∨ w.heap.size ≤ k) (hc : ∀ x ∈ cs, x < 256) :
    WrPost W N p F (bs ++ cs) (.returned (.tuple #[])) (w2.setCell ⟨p, 0, none⟩ v2) := by
  refine ⟨rfl, _, ⟨v2, h.put hn hown hgr hat hc⟩, (hk.grown hgr (fun k e => Or.inl (h.inO k e))).setCell (p := ⟨p, 0, none⟩) h.inP _, fun k f => ?_⟩
  rcases f with f | f
  · exact Or.inl f
  · rcases hat k f with e | e
    · exact Or.inl (h.inO k e)
    · exact Or.inr (Nat.le_trans hk.size e)

/-- A reader: what is left, in blocks of S, and whether it is bad (none), in block p. -/
structure RdV (w : World) (p : Nat) (S : Nat → Prop) (bs : List Nat) (bad : Bool) (a : Option Addr) (cap : Nat) : Prop where
  c0 : w.cell? ⟨p, 0, none⟩ = some (.slice a bs.length cap)
  c1 : w.cell? ⟨p, 1, none⟩ = some (.bool bad)
  fz : ∀ i, w.frozen? ⟨p, i, none⟩ = false
  inP : p < w.heap.size
  sl : SlAt bV 256 w a cap bs
  inS : ∀ ad, a = some ad → bs ≠ [] → S ad.block
  apart : ¬ S p

def RdAt (w : World) (p : Nat) (S : Nat → Prop) (s : Option (List Nat)) : Prop := ∃ a cap, RdV w p S (s.getD []) s.isNone a cap

theorem RdV.carry {w w' : World} {p : Nat} {S : Nat → Prop} {bs : List Nat} {bad : Bool} {a : Option Addr} {cap : Nat} (h : RdV w p S bs bad a cap) (hs : w.heap.size ≤ w'.heap.size) (hp : w'.heap[p]? = w.heap[p]?) (hb : ∀ k, k < w.heap.size → S k → w'.heap[k]? = w.heap[k]?) : RdV w' p S bs bad a cap :=
  ⟨(World.cell?_of_block (w := w) (a := ⟨p, 0, none⟩) hp).trans h.c0, (World.cell?_of_block (w := w) (a := ⟨p, 1, none⟩) hp).trans h.c1, fun i => (World.frozen?_of_block (w := w) (a := ⟨p, i, none⟩) hp).trans (h.fz i), Nat.lt_of_lt_of_le h.inP hs, h.sl.carry hs (fun ad e h0 l => hb _ l (h.inS ad e h0)), h.inS, h.apart⟩

theorem RdAt.keep {w w' : World} {p : Nat} {S G : Nat → Prop} {s : Option (List Nat)} (h : RdAt w p S s) (hk : Keep G w w') (hp : ¬ G p) (hS : ∀ k, S k → ¬ G k) : RdAt w' p S s := by
  obtain ⟨a, cap, hv⟩ := h
  exact ⟨a, cap, hv.carry hk.size (hk.block p hv.inP hp) (fun k hl f => hk.block k hl (hS k f))⟩

theorem RdV.below {w w' : World} {p : Nat} {S : Nat → Prop} {bs : List Nat} {bad : Bool} {a : Option Addr} {cap : Nat} (h : RdV w p S bs bad a cap) (hb : Below w.heap.size w w') : RdV w' p S bs bad a cap :=
  h.carry hb.size (hb.block p h.inP) (fun k hl _ => hb.block k hl)

theorem RdAt.below {w w' : World} {p : Nat} {S : Nat → Prop} {s : Option (List Nat)} (h : RdAt w p S s) (hb : Below w.heap.size w w') : RdAt w' p S s := by
  obtain ⟨a, cap, hv⟩ := h
  exact ⟨a, cap, hv.below hb⟩

/-- The reader goes on. -/
theorem RdV.next {w : World} {p : Nat} {S : Nat → Prop} {bs : List Nat} {bad : Bool} {a : Option Addr} {cap : Nat} (h : RdV w p S bs bad a cap) (k : Nat) (hk : k ≤ bs.length) :
    RdV (w.setCell ⟨p, 0, none⟩ (.slice (if cap = k then a else a.map (·.add k)) (bs.drop k).length (cap - k))) p S (bs.drop k) bad (if cap = k then a else a.map (·.add k)) (cap - k) := by
  have hd := h.sl.drop k hk
  have hin : ∀ ad, (if cap = k then a else a.map (·.add k)) = some ad → bs.drop k ≠ [] → S ad.block := by
    intro ad e h0
    have h1 : bs ≠ [] := fun e => h0 (by rw [e]; simp)
    split at e
    · exact h.inS ad e h1
    · obtain ⟨ad0, e0, rfl⟩ := Option.map_eq_some_iff.1 e
      have : (ad0.add k).block = ad0.block := by unfold Addr.add; split <;> rfl
      rw [this]
      exact h.inS ad0 e0 h1
  refine ⟨World.cell?_setCell_same (h := h.c0) .., (cell_other (by decide)).trans h.c1, fun i => (World.frozen?_setCell ..).trans (h.fz i), by simpa [World.setCell] using h.inP, hd.carry (by simp [World.setCell]) (fun ad e h0 _ => Below.heap_setCell _ _ _ _ (fun e2 => h.apart (by have := hin ad e h0; rwa [e2] at this))), hin, h.apart⟩

/-- The reader is bad. -/
theorem RdV.spoilt {w : World} {p : Nat} {S : Nat → Prop} {bs : List Nat} {bad : Bool} {a : Option Addr} {cap : Nat} (h : RdV w p S bs bad a cap) :
    RdAt ((w.setCell ⟨p, 0, none⟩ (.slice none 0 0)).setCell ⟨p, 1, none⟩ (.bool true)) p S none :=
  ⟨none, 0, (cell_other (by decide)).trans (World.cell?_setCell_same (h := h.c0) ..), World.cell?_setCell_same (h := (cell_other (by decide)).trans h.c1) .., fun i => (World.frozen?_setCell ..).trans ((World.frozen?_setCell ..).trans (h.fz i)), by simpa [World.setCell] using h.inP, SlAt.none _ _ _, (fun ad e _ => by cases e), h.apart⟩

theorem RdV.spoilt' {w : World} {p : Nat} {S : Nat → Prop} {bs : List Nat} {bad : Bool} {a : Option Addr} {cap : Nat} (h : RdV w p S bs bad a cap) :
    RdAt ((w.setCell ⟨p, 1, none⟩ (.bool true)).setCell ⟨p, 0, none⟩ (.slice none 0 0)) p S none :=
  ⟨none, 0, World.cell?_setCell_same (h := (cell_other (by decide)).trans h.c0) .., (cell_other (by decide)).trans (World.cell?_setCell_same (h := h.c1) ..), fun i => (World.frozen?_setCell ..).trans ((World.frozen?_setCell ..).trans (h.fz i)), by simpa [World.setCell] using h.inP, SlAt.none _ _ _, (fun ad e _ => by cases e), h.apart⟩

/-- What a reader's call leaves: the value, what is left. -/
def RdPost (W : World) (p : Nat) (S : Nat → Prop) (v : Value) (s : Option (List Nat)) (e : Ending) (w' : World) : Prop :=
  e = .returned v ∧ RdAt w' p S s ∧ Keep (fun k => k = p) W w'

end Go.Proofs.Ytbmpeadoicjpnaa
