/-
  A lane: what is on its way, what was done; how it lies in memory.
-/
import Derived.Test.YthipdinpbihhmaaWsl
import Derived.WalkKit
import Derived.WalkSpells
import Derived.WalkLawsBesides
import Derived.IntWalk
import Derived.Lib.Hide
namespace Go.Proofs.Ythipdinpbihhmaa
open Go.RowKit

def iV (x : Int) : Value := .int .i64 x
def sV (x : ByteArray) : Value := .string x

theorem results_four {fn : Func} {a b c d : Tmp} (h : fn.results = #[.tmp a, .tmp b, .tmp c, .tmp d]) (tmps : Array Value) (P : Program) (w : World) :
    (results fn tmps).run P w = .ok (.tuple #[tmps.getD a undef, tmps.getD b undef, tmps.getD c undef, tmps.getD d undef]) w := by
  simp [results, h]

/-- What is on its way; how often each was done. -/
structure St (α : Type) where
  l : List α
  s : Nat
  t : Nat
  d : Nat
  m : Nat

/-- Is there a k-th? -/
def hasZ (n : Nat) (k : Int) : Bool := decide (0 ≤ k ∧ k < (n : Int))
def cutL {α : Type} (l : List α) (k : Nat) : List α := l.take k ++ l.drop (k + 1)
theorem cutL_len {α : Type} {l : List α} {k : Nat} (h : k < l.length) : (cutL l k).length = l.length - 1 := by
  unfold cutL; rw [List.length_append, List.length_take, List.length_drop]; omega

def St.send {α : Type} (S : St α) (x : α) : St α := if S.l.length < 4096 then ⟨S.l ++ [x], S.s + 1, S.t, S.d, S.m⟩ else S
def St.out {α : Type} (S : St α) (k : Int) : St α := if hasZ S.l.length k then { S with l := cutL S.l k.toNat } else S
def St.take {α : Type} (S : St α) (k : Int) : St α := if hasZ S.l.length k then { S with l := cutL S.l k.toNat, t := S.t + 1 } else S
def St.drop {α : Type} (S : St α) (k : Int) : St α := if hasZ S.l.length k then { S with l := cutL S.l k.toNat, d := S.d + 1 } else S
def St.got {α : Type} (S : St α) (z : α) (k : Int) : α := if hasZ S.l.length k then S.l.getD k.toNat z else z
def St.can {α : Type} (S : St α) (k : Int) : Bool := hasZ S.l.length k && decide (S.l.length < 4096)
def St.double {α : Type} (S : St α) (z : α) (k : Int) : St α := if S.can k then { S with l := S.l ++ [S.got z k], m := S.m + 1 } else S
def St.hold {α : Type} (S : St α) (z : α) (k : Int) : St α := if hasZ S.l.length k then { S with l := cutL S.l k.toNat ++ [S.got z k] } else S
/-- Within bounds. -/
structure St.ok {α : Type} (S : St α) (n : Nat) : Prop where
  l : S.l.length ≤ n
  s : S.s ≤ n
  t : S.t ≤ n
  d : S.d ≤ n
  m : S.m ≤ n
theorem hasZ_nat {n : Nat} {k : Int} (h : hasZ n k = true) : ∃ j : Nat, k = j ∧ j < n := by
  unfold hasZ at h
  have := of_decide_eq_true h
  exact ⟨k.toNat, by omega, by omega⟩
theorem hasZ_lt {n k : Nat} (h : k < n) : hasZ n (k : Int) = true := decide_eq_true (by omega)
theorem got_nat {α : Type} {S : St α} {z : α} {k : Nat} (h : k < S.l.length) : S.got z (k : Int) = S.l[k] := by
  unfold St.got; rw [if_pos (hasZ_lt h)]; simp [h]

/-- A lane in memory: its own cells in block p, the row that it owns; all in blocks of F, from N on. -/
structure LnV {α : Type} (enc : α → Value) (e : TypeId) (w : World) (N p : Nat) (F : Nat → Prop) (S : St α) (v : Value) : Prop where
  c0 : w.cell? ⟨p, 0, none⟩ = some v
  c1 : w.cell? ⟨p, 1, none⟩ = some (.int .i64 (S.s : Int))
  c2 : w.cell? ⟨p, 2, none⟩ = some (.int .i64 (S.t : Int))
  c3 : w.cell? ⟨p, 3, none⟩ = some (.int .i64 (S.d : Int))
  c4 : w.cell? ⟨p, 4, none⟩ = some (.int .i64 (S.m : Int))
  fz : ∀ i, w.frozen? ⟨p, i, none⟩ = false
  own : w.ownsRow N e 1 v S.l.length (S.l.map enc)
  inP : F p
  inO : ∀ k, v.ownBlock = some k → F k
  low : ∀ k, F k → N ≤ k ∧ k < w.heap.size
  apart : v.ownBlock ≠ some p

def LnAt {α : Type} (enc : α → Value) (e : TypeId) (w : World) (N p : Nat) (F : Nat → Prop) (S : St α) : Prop := ∃ v, LnV enc e w N p F S v

section
variable {α : Type} {enc : α → Value} {e : TypeId} {w w' w2 : World} {N p : Nat} {F G : Nat → Prop} {S : St α} {v v2 : Value}

theorem LnV.carry (h : LnV enc e w N p F S v) (hs : w.heap.size ≤ w'.heap.size) (hb : ∀ k, F k → w'.heap[k]? = w.heap[k]?) : LnV enc e w' N p F S v :=
  ⟨(World.cell?_of_block (w := w) (a := ⟨p, 0, none⟩) (hb p h.inP)).trans h.c0, (World.cell?_of_block (w := w) (a := ⟨p, 1, none⟩) (hb p h.inP)).trans h.c1,
    (World.cell?_of_block (w := w) (a := ⟨p, 2, none⟩) (hb p h.inP)).trans h.c2, (World.cell?_of_block (w := w) (a := ⟨p, 3, none⟩) (hb p h.inP)).trans h.c3,
    (World.cell?_of_block (w := w) (a := ⟨p, 4, none⟩) (hb p h.inP)).trans h.c4, fun i => (World.frozen?_of_block (w := w) (a := ⟨p, i, none⟩) (hb p h.inP)).trans (h.fz i),
    own_carry h.own (fun k hk => hb k (h.inO k hk)), h.inP, h.inO, fun k f => ⟨(h.low k f).1, Nat.lt_of_lt_of_le (h.low k f).2 hs⟩, h.apart⟩

theorem LnV.below (h : LnV enc e w N p F S v) (hb : Below w.heap.size w w') : LnV enc e w' N p F S v := h.carry hb.size (fun k f => hb.block k (h.low k f).2)
theorem LnV.drew (h : LnV enc e w N p F S v) : LnV enc e w.drew N p F S v := h.below (drew_below w)
theorem LnV.keep (h : LnV enc e w N p F S v) (hk : Keep G w w') (hFG : ∀ k, F k → ¬ G k) : LnV enc e w' N p F S v := h.carry hk.size (fun k f => hk.block k (h.low k f).2 (hFG k f))

theorem LnAt.keep (h : LnAt enc e w N p F S) (hk : Keep G w w') (hFG : ∀ k, F k → ¬ G k) : LnAt enc e w' N p F S := by
  obtain ⟨v, hv⟩ := h
  exact ⟨v, hv.keep hk hFG⟩
theorem LnAt.below (h : LnAt enc e w N p F S) (hb : Below w.heap.size w w') : LnAt enc e w' N p F S := by
  obtain ⟨v, hv⟩ := h
  exact ⟨v, hv.below hb⟩
theorem LnAt.drew (h : LnAt enc e w N p F S) : LnAt enc e w.drew N p F S := h.below (drew_below w)
theorem LnAt.size (h : LnAt enc e w N p F S) : N ≤ w.heap.size ∧ p < w.heap.size ∧ ∀ k, F k → N ≤ k ∧ k < w.heap.size := by
  obtain ⟨v, hv⟩ := h
  have := hv.low p hv.inP
  exact ⟨by omega, by omega, hv.low⟩

/-- The new row is stored. -/
theorem LnV.put (h : LnV enc e w N p F S v) {l : List α} (hs : w.heap.size ≤ w2.heap.size) (hb : w2.heap[p]? = w.heap[p]?) (hown : w2.ownsRow N e 1 v2 l.length (l.map enc))
    (hat : ∀ k, v2.ownBlock = some k → v.ownBlock = some k ∨ w.heap.size ≤ k) :
    LnV enc e (w2.setCell ⟨p, 0, none⟩ v2) N p (fun k => F k ∨ v2.ownBlock = some k) { S with l := l } v2 := by
  have hp := (h.low p h.inP).2
  have hap : v2.ownBlock ≠ some p := fun e => (hat p e).elim (fun e => h.apart e) (fun l => by omega)
  have hc : ∀ i, w2.cell? ⟨p, i, none⟩ = w.cell? ⟨p, i, none⟩ := fun i => World.cell?_of_block (w := w) (a := ⟨p, i, none⟩) hb
  have ho : ∀ i, i ≠ 0 → (w2.setCell ⟨p, 0, none⟩ v2).cell? ⟨p, i, none⟩ = w.cell? ⟨p, i, none⟩ := fun i hi => (cell_other hi).trans (hc i)
  refine ⟨World.cell?_setCell_same (h := (hc 0).trans h.c0) .., (ho 1 (by decide)).trans h.c1, (ho 2 (by decide)).trans h.c2, (ho 3 (by decide)).trans h.c3, (ho 4 (by decide)).trans h.c4,
    fun i => (World.frozen?_setCell ..).trans ((World.frozen?_of_block (w := w) (a := ⟨p, i, none⟩) hb).trans (h.fz i)), ownsRow_setCell_other hown hap _, Or.inl h.inP, fun k hk => Or.inr hk, fun k f => ?_, hap⟩
  rcases f with f | f
  · exact ⟨(h.low k f).1, Nat.lt_of_lt_of_le (h.low k f).2 (by simpa [World.setCell] using hs)⟩
  · have := hown.lt k f
    exact ⟨this.1, by simpa [World.setCell] using this.2⟩

theorem LnV.bumped (h : LnV enc e w N p F S v) {i : Nat} (hi : i ≠ 0) (u : Value) : (w.setCell ⟨p, i, none⟩ u).cell? ⟨p, 0, none⟩ = some v ∧ (∀ j, (w.setCell ⟨p, i, none⟩ u).frozen? ⟨p, j, none⟩ = false) ∧ (w.setCell ⟨p, i, none⟩ u).ownsRow N e 1 v S.l.length (S.l.map enc) ∧ ∀ k, F k → N ≤ k ∧ k < (w.setCell ⟨p, i, none⟩ u).heap.size :=
  ⟨(cell_other (Ne.symm hi)).trans h.c0, fun j => (World.frozen?_setCell ..).trans (h.fz j), ownsRow_setCell_other h.own h.apart _, fun k f => by simpa [World.setCell] using h.low k f⟩
theorem LnV.bump_s (h : LnV enc e w N p F S v) : LnV enc e (w.setCell ⟨p, 1, none⟩ (.int .i64 ((S.s : Int) + 1))) N p F { S with s := S.s + 1 } v := by
  obtain ⟨h0, hf, ho, hl⟩ := h.bumped (i := 1) (by decide) (.int .i64 ((S.s : Int) + 1))
  exact ⟨h0, World.cell?_setCell_same (h := h.c1) .., (cell_other (by decide)).trans h.c2, (cell_other (by decide)).trans h.c3, (cell_other (by decide)).trans h.c4, hf, ho, h.inP, h.inO, hl, h.apart⟩
theorem LnV.bump_t (h : LnV enc e w N p F S v) : LnV enc e (w.setCell ⟨p, 2, none⟩ (.int .i64 ((S.t : Int) + 1))) N p F { S with t := S.t + 1 } v := by
  obtain ⟨h0, hf, ho, hl⟩ := h.bumped (i := 2) (by decide) (.int .i64 ((S.t : Int) + 1))
  exact ⟨h0, (cell_other (by decide)).trans h.c1, World.cell?_setCell_same (h := h.c2) .., (cell_other (by decide)).trans h.c3, (cell_other (by decide)).trans h.c4, hf, ho, h.inP, h.inO, hl, h.apart⟩
theorem LnV.bump_d (h : LnV enc e w N p F S v) : LnV enc e (w.setCell ⟨p, 3, none⟩ (.int .i64 ((S.d : Int) + 1))) N p F { S with d := S.d + 1 } v := by
  obtain ⟨h0, hf, ho, hl⟩ := h.bumped (i := 3) (by decide) (.int .i64 ((S.d : Int) + 1))
  exact ⟨h0, (cell_other (by decide)).trans h.c1, (cell_other (by decide)).trans h.c2, World.cell?_setCell_same (h := h.c3) .., (cell_other (by decide)).trans h.c4, hf, ho, h.inP, h.inO, hl, h.apart⟩
theorem LnV.bump_m (h : LnV enc e w N p F S v) : LnV enc e (w.setCell ⟨p, 4, none⟩ (.int .i64 ((S.m : Int) + 1))) N p F { S with m := S.m + 1 } v := by
  obtain ⟨h0, hf, ho, hl⟩ := h.bumped (i := 4) (by decide) (.int .i64 ((S.m : Int) + 1))
  exact ⟨h0, (cell_other (by decide)).trans h.c1, (cell_other (by decide)).trans h.c2, (cell_other (by decide)).trans h.c3, World.cell?_setCell_same (h := h.c4) .., hf, ho, h.inP, h.inO, hl, h.apart⟩

theorem LnV.slice (h : LnV enc e w N p F S v) : ∃ a cap, v = .slice a S.l.length cap ∧ SlV w a cap (S.l.map enc) := by
  obtain ⟨_, a, cap, hv, hs⟩ := own_slv h.own
  rw [List.length_map] at hv
  exact ⟨a, cap, hv, hs⟩
end

/-- What a call leaves: its result, the lane as it then is. -/
def LnPost {α : Type} (enc : α → Value) (e : TypeId) (W : World) (N p : Nat) (F : Nat → Prop) (S : St α) (r : Value) (E : Ending) (w' : World) : Prop :=
  E = .returned r ∧ ∃ F', LnAt enc e w' N p F' S ∧ Keep F W w' ∧ ∀ k, F' k → F k ∨ W.heap.size ≤ k

section
variable {α : Type} {enc : α → Value} {e : TypeId} {W w w' w2 : World} {N p : Nat} {F F1 : Nat → Prop} {S S1 : St α} {v v2 r : Value} {E : Ending}

theorem LnPost.trans (hk : Keep F W w) (hF : ∀ k, F1 k → F k ∨ W.heap.size ≤ k) (h : LnPost enc e w N p F1 S r E w') : LnPost enc e W N p F S r E w' := by
  obtain ⟨he, F2, hA, hk2, hF2⟩ := h
  refine ⟨he, F2, hA, hk.trans hk2 (fun k hk f => (hF k f).elim id (fun l => by omega)), fun k f => ?_⟩
  rcases hF2 k f with g | g
  · exact hF k g
  · exact Or.inr (Nat.le_trans hk.size g)

/-- The new row stored: the lane, and what was kept. -/
theorem LnV.stored (h : LnV enc e w N p F S v) (hk : Keep F W w) {l : List α} (hgr : w.grownBy w2 v.ownBlock) (hown : w2.ownsRow N e 1 v2 l.length (l.map enc))
    (hat : ∀ k, v2.ownBlock = some k → v.ownBlock = some k ∨ w.heap.size ≤ k) :
    LnV enc e (w2.setCell ⟨p, 0, none⟩ v2) N p (fun k => F k ∨ v2.ownBlock = some k) { S with l := l } v2 ∧ Keep F W (w2.setCell ⟨p, 0, none⟩ v2) ∧ ∀ k, F k ∨ v2.ownBlock = some k → F k ∨ W.heap.size ≤ k := by
  have hp := (h.low p h.inP).2
  refine ⟨h.put hgr.size (hgr.block p hp (fun e => h.apart e.symm)) hown hat, (hk.grown hgr (fun k e => Or.inl (h.inO k e))).setCell (p := ⟨p, 0, none⟩) h.inP _, fun k f => ?_⟩
  rcases f with f | f
  · exact Or.inl f
  · rcases hat k f with e | e
    · exact Or.inl (h.inO k e)
    · exact Or.inr (Nat.le_trans hk.size e)

theorem LnV.post (h : LnV enc e w N p F1 S v) (hk : Keep F W w) (hF : ∀ k, F1 k → F k ∨ W.heap.size ≤ k) : LnPost enc e W N p F S r (.returned r) w := ⟨rfl, F1, ⟨v, h⟩, hk, hF⟩
end

def cntT {α : Type} (S : St α) : Value := .tuple #[.int .i64 (S.s : Nat), .int .i64 (S.t : Nat), .int .i64 (S.d : Nat), .int .i64 (S.m : Nat)]

/-- A slice that tells all. -/
def AllPost {α : Type} (enc : α → Value) (W : World) (l : List α) (E : Ending) (w' : World) : Prop :=
  ∃ a cap, E = .returned (.slice a l.length cap) ∧ SlV w' a cap (l.map enc) ∧ Below W.heap.size W w'
theorem own_all {α : Type} {enc : α → Value} {e : TypeId} {W w' : World} {v : Value} {l : List α} (h : w'.ownsRow W.heap.size e 1 v l.length (l.map enc)) (hb : Below W.heap.size W w') : AllPost enc W l (.returned v) w' := by
  obtain ⟨_, a, cap, rfl, hs⟩ := own_slv h
  rw [List.length_map]
  exact ⟨a, cap, rfl, hs, hb⟩
theorem ones_of {α : Type} {enc : α → Value} (l : List α) (h : ∀ x, (enc x).oneCell' = true) : ∀ u ∈ l.map enc, u.oneCell' = true := by
  intro u hu
  obtain ⟨x, _, rfl⟩ := List.mem_map.1 hu
  exact h x
/-- A new one. -/
def NewPost {α : Type} (enc : α → Value) (e : TypeId) (W : World) (N : Nat) (E : Ending) (w' : World) : Prop :=
  E = .returned (.pointer (some ⟨W.heap.size, 0, none⟩)) ∧ LnAt enc e w' N W.heap.size (fun k => k = W.heap.size) ⟨[], 0, 0, 0, 0⟩ ∧ Below W.heap.size W w'
theorem new_ln {α : Type} (enc : α → Value) (e : TypeId) (W : World) (N : Nat) (hN : N ≤ W.heap.size) (t : TypeId) :
    LnV enc e (W.alloc (.cells #[.slice none 0 0, .int .i64 0, .int .i64 0, .int .i64 0, .int .i64 0] t)) N W.heap.size (fun k => k = W.heap.size) ⟨[], 0, 0, 0, 0⟩ (.slice none 0 0) :=
  ⟨by simp, by simp, by simp, by simp, by simp, by simp, World.ownsRow_nil .., rfl, fun k hk => by simp [Value.ownBlock] at hk, fun k f => by subst f; simpa using hN, by simp [Value.ownBlock]⟩

/-- A lane above N; all below N as it was. -/
def LnOn {α : Type} (enc : α → Value) (e : TypeId) (W : World) (N p : Nat) (S : St α) (w : World) : Prop := ∃ F, LnAt enc e w N p F S ∧ Below N W w

section
variable {α : Type} {enc : α → Value} {e : TypeId} {W w w' : World} {N p : Nat} {F : Nat → Prop} {S S1 : St α} {r : Value} {E : Ending}
theorem LnPost.on (hA : LnAt enc e w N p F S) (hb : Below N W w) (h : LnPost enc e w N p F S1 r E w') : E = .returned r ∧ LnOn enc e W N p S1 w' := by
  obtain ⟨he, F2, hA2, hk, _⟩ := h
  exact ⟨he, F2, hA2, hb.trans (hk.below hA.size.1 (fun k f => (hA.size.2.2 k f).1))⟩
theorem LnOn.below (h : LnOn enc e W N p S w) (hb : Below w.heap.size w w') : LnOn enc e W N p S w' := by
  obtain ⟨F, hA, hB⟩ := h
  exact ⟨F, hA.below hb, hB.trans (hb.mono hA.size.1)⟩
theorem LnOn.drew (h : LnOn enc e W N p S w) : LnOn enc e W N p S w.drew := h.below (drew_below w)
theorem LnOn.be (h : LnOn enc e W N p S w) : Below N W w := h.elim fun _ h => h.2
end

end Go.Proofs.Ythipdinpbihhmaa
