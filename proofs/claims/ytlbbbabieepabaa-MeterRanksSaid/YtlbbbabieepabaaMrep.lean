/-
  How a meter lies in memory; which of it a call may turn.
-/
import Derived.Test.YtlbbbabieepabaaMflo
import Derived.OneCell
import Derived.Laws.CopyOwn
namespace Go.Proofs.Ytlbbbabieepabaa
open Go.RowKit

theorem or_map {a b c d : Prop} (h : a ∨ b) (f : a → c) (g : b → d) : c ∨ d := h.elim (fun x => Or.inl (f x)) (fun y => Or.inr (g y))

/-- All but the blocks of F is as it was. -/
structure Keep (F : Nat → Prop) (w w' : World) : Prop where
  os : w'.os = w.os
  tape : w'.tape = w.tape
  output : w'.output = w.output
  size : w.heap.size ≤ w'.heap.size
  block : ∀ k, k < w.heap.size → ¬ F k → w'.heap[k]? = w.heap[k]?

theorem Keep.refl (F : Nat → Prop) (w : World) : Keep F w w := ⟨rfl, rfl, rfl, Nat.le_refl _, fun _ _ _ => rfl⟩
theorem Keep.trans {F G : Nat → Prop} {a b c : World} (h : Keep F a b) (k : Keep G b c) (hG : ∀ i, i < a.heap.size → G i → F i) : Keep F a c :=
  ⟨k.os.trans h.os, k.tape.trans h.tape, k.output.trans h.output, Nat.le_trans h.size k.size, fun i hi hn => (k.block i (Nat.lt_of_lt_of_le hi h.size) (fun g => hn (hG i hi g))).trans (h.block i hi hn)⟩
theorem Keep.mono {F G : Nat → Prop} {a b : World} (h : Keep F a b) (hG : ∀ i, F i → G i) : Keep G a b :=
  ⟨h.os, h.tape, h.output, h.size, fun i hi hn => h.block i hi (fun f => hn (hG i f))⟩
theorem Keep.drewN {F : Nat → Prop} {a b : World} (h : Keep F a b) (q : Nat) : Keep F a (b.drewN q) := ⟨h.os, h.tape, h.output, h.size, h.block⟩
theorem Keep.drew {F : Nat → Prop} {a b : World} (h : Keep F a b) : Keep F a b.drew := ⟨h.os, h.tape, h.output, h.size, h.block⟩
theorem Keep.alloc {F : Nat → Prop} {a b : World} (h : Keep F a b) (o : Obj) : Keep F a (b.alloc o) :=
  h.trans (G := fun _ => False) ⟨rfl, rfl, rfl, by simp, fun k hk _ => Below.heap_alloc _ _ _ hk⟩ (fun _ _ f => f.elim)
theorem Keep.setCell {F : Nat → Prop} {a b : World} (h : Keep F a b) {p : Addr} (hp : F p.block) (u : Value) : Keep F a (b.setCell p u) :=
  h.trans (G := fun i => i = p.block) ⟨rfl, rfl, rfl, by simp [World.setCell], fun k hk hn => Below.heap_setCell _ _ _ _ hn⟩ (fun _ _ e => e ▸ hp)
theorem Keep.setNew {F : Nat → Prop} {a b : World} (h : Keep F a b) {p : Addr} (hp : a.heap.size ≤ p.block) (u : Value) : Keep F a (b.setCell p u) :=
  h.trans (G := fun i => i = p.block) ⟨rfl, rfl, rfl, by simp [World.setCell], fun k hk hn => Below.heap_setCell _ _ _ _ hn⟩ (fun i hi e => by omega)
theorem Keep.below {F : Nat → Prop} {a b : World} {N : Nat} (h : Keep F a b) (hN : N ≤ a.heap.size) (hF : ∀ k, F k → N ≤ k) : Below N a b :=
  ⟨h.os, h.tape, h.output, h.size, fun k hk => h.block k (by omega) (fun f => by have := hF k f; omega)⟩
theorem Keep.ofBelow {F : Nat → Prop} {a b : World} (h : Below a.heap.size a b) : Keep F a b := ⟨h.os, h.tape, h.output, h.size, fun k hk _ => h.block k hk⟩
theorem Keep.cell {F : Nat → Prop} {a b : World} (h : Keep F a b) {p : Addr} (hp : p.block < a.heap.size) (hn : ¬ F p.block) : b.cell? p = a.cell? p := World.cell?_of_block (w := a) (h.block p.block hp hn)
theorem Keep.frozen {F : Nat → Prop} {a b : World} (h : Keep F a b) {p : Addr} (hp : p.block < a.heap.size) (hn : ¬ F p.block) : b.frozen? p = a.frozen? p := World.frozen?_of_block (w := a) (h.block p.block hp hn)
theorem Keep.grown {F : Nat → Prop} {a b c : World} {row : Option Nat} (h : Keep F a b) (hg : b.grownBy c row) (hr : ∀ k, row = some k → F k ∨ a.heap.size ≤ k) : Keep F a c :=
  h.trans (G := fun i => row = some i) ⟨hg.os, hg.tape, hg.output, hg.size, fun k hk hn => hg.block k hk (fun e => hn e.symm)⟩ (fun i hi e => (hr i e).elim id (fun h => by omega))

/-- A run of keys. -/
structure RunAt (w : World) (b o : Nat) (ks : List Nat) : Prop where
  ne : ks ≠ []
  lt : ∀ k ∈ ks, k < 18446744073709551616
  up : ks.Pairwise (· ≤ ·)
  inb : b < w.heap.size
  cell : ∀ i (h : i < ks.length), w.cell? ⟨b, o + i, none⟩ = some (.int .u64 (ks[i] : Nat))

theorem RunAt.carry {w w' : World} {b o : Nat} {ks : List Nat} (h : RunAt w b o ks) (hs : w.heap.size ≤ w'.heap.size) (hb : w'.heap[b]? = w.heap[b]?) : RunAt w' b o ks :=
  ⟨h.ne, h.lt, h.up, Nat.lt_of_lt_of_le h.inb hs, fun i hi => (World.cell?_of_block (w := w) (a := ⟨b, o + i, none⟩) hb).trans (h.cell i hi)⟩

/-- What a meter's own cells hold. -/
structure MS where
  all : Nat
  nums : Nat
  fin : Nat
  sum : Nat
  least : Nat
  most : Nat
  smooth : Nat

structure CellsAt (w : World) (p : Nat) (s : MS) (v : Value) : Prop where
  c0 : w.cell? ⟨p, 0, none⟩ = some (.int .i64 (s.all : Nat))
  c1 : w.cell? ⟨p, 1, none⟩ = some (.int .i64 (s.nums : Nat))
  c2 : w.cell? ⟨p, 2, none⟩ = some (.int .i64 (s.fin : Nat))
  c3 : w.cell? ⟨p, 3, none⟩ = some (.float .f64 s.sum)
  c4 : w.cell? ⟨p, 4, none⟩ = some (.float .f64 s.least)
  c5 : w.cell? ⟨p, 5, none⟩ = some (.float .f64 s.most)
  c6 : w.cell? ⟨p, 6, none⟩ = some (.float .f64 s.smooth)
  c7 : w.cell? ⟨p, 7, none⟩ = some v
  fz : ∀ i, w.frozen? ⟨p, i, none⟩ = false

theorem CellsAt.carry {w w' : World} {p : Nat} {s : MS} {v : Value} (h : CellsAt w p s v) (hb : w'.heap[p]? = w.heap[p]?) : CellsAt w' p s v := by
  have k : ∀ i, w'.cell? ⟨p, i, none⟩ = w.cell? ⟨p, i, none⟩ := fun i => World.cell?_of_block (w := w) (a := ⟨p, i, none⟩) hb
  have f : ∀ i, w'.frozen? ⟨p, i, none⟩ = w.frozen? ⟨p, i, none⟩ := fun i => World.frozen?_of_block (w := w) (a := ⟨p, i, none⟩) hb
  exact ⟨(k 0).trans h.c0, (k 1).trans h.c1, (k 2).trans h.c2, (k 3).trans h.c3, (k 4).trans h.c4, (k 5).trans h.c5, (k 6).trans h.c6, (k 7).trans h.c7, fun i => (f i).trans (h.fz i)⟩

/-- A run's value: it lies in a block of F, neither the meter's own nor the row's. -/
def RunV (w : World) (F : Nat → Prop) (p : Nat) (o : Option Nat) (v : Value) (ks : List Nat) : Prop :=
  ∃ b off c, v = .slice (some ⟨b, off, none⟩) ks.length c ∧ ks.length ≤ c ∧ c ≤ maxLen ∧ RunAt w b off ks ∧ F b ∧ b ≠ p ∧ o ≠ some b

theorem RunV.carry {w w' : World} {F F' : Nat → Prop} {p : Nat} {o o' : Option Nat} (hs : w.heap.size ≤ w'.heap.size) (hF : ∀ k, F k → F' k) (hb : ∀ k, k < w.heap.size → F k → k ≠ p → o ≠ some k → w'.heap[k]? = w.heap[k]? ∧ o' ≠ some k)
    {v : Value} {ks : List Nat} (h : RunV w F p o v ks) : RunV w' F' p o' v ks := by
  obtain ⟨b, off, c, e, h1, h2, hr, f, hp, ho⟩ := h
  exact ⟨b, off, c, e, h1, h2, hr.carry hs (hb b hr.inb f hp ho).1, hF b f, hp, (hb b hr.inb f hp ho).2⟩

/-- The runs' values: one for each run. -/
def RunsAt (w : World) (F : Nat → Prop) (p : Nat) (o : Option Nat) : List Value → List (List Nat) → Prop
  | [], [] => True
  | v :: vs, ks :: r => RunV w F p o v ks ∧ RunsAt w F p o vs r
  | _, _ => False

theorem RunsAt.length {w : World} {F : Nat → Prop} {p : Nat} {o : Option Nat} : ∀ {vs : List Value} {rs : List (List Nat)}, RunsAt w F p o vs rs → vs.length = rs.length
  | [], [], _ => rfl
  | _ :: _, _ :: _, h => by simp [RunsAt.length h.2]
  | [], _ :: _, h => h.elim
  | _ :: _, [], h => h.elim

/-- The runs stay if their blocks do; the list of blocks may grow. -/
theorem RunsAt.carry {w w' : World} {F F' : Nat → Prop} {p : Nat} {o o' : Option Nat} (hs : w.heap.size ≤ w'.heap.size) (hF : ∀ k, F k → F' k) (hb : ∀ k, k < w.heap.size → F k → k ≠ p → o ≠ some k → w'.heap[k]? = w.heap[k]? ∧ o' ≠ some k) :
    ∀ {vs : List Value} {rs : List (List Nat)}, RunsAt w F p o vs rs → RunsAt w' F' p o' vs rs
  | [], [], _ => trivial
  | _ :: _, _ :: _, ⟨h1, h2⟩ => ⟨h1.carry hs hF hb, RunsAt.carry hs hF hb h2⟩
  | [], _ :: _, h => h.elim
  | _ :: _, [], h => h.elim

theorem RunsAt.snoc {w : World} {F : Nat → Prop} {p : Nat} {o : Option Nat} : ∀ {vs : List Value} {rs : List (List Nat)} {v : Value} {ks : List Nat}, RunsAt w F p o vs rs → RunV w F p o v ks → RunsAt w F p o (vs ++ [v]) (rs ++ [ks])
  | [], [], _, _, _, h => ⟨h, trivial⟩
  | _ :: _, _ :: _, _, _, ⟨h1, h2⟩, h => ⟨h1, RunsAt.snoc h2 h⟩
  | [], _ :: _, _, _, h, _ => h.elim
  | _ :: _, [], _, _, h, _ => h.elim

theorem RunsAt.unsnoc {w : World} {F : Nat → Prop} {p : Nat} {o : Option Nat} : ∀ {vs : List Value} {rs : List (List Nat)} {ks : List Nat}, RunsAt w F p o vs (rs ++ [ks]) → ∃ vs' v, vs = vs' ++ [v] ∧ RunsAt w F p o vs' rs ∧ RunV w F p o v ks
  | [], [], _, h => h.elim
  | [], _ :: _, _, h => h.elim
  | [v], [], _, h => ⟨[], v, rfl, trivial, h.1⟩
  | _ :: _ :: _, [], _, h => h.2.elim
  | v :: vs, _ :: rs, _, ⟨h1, h2⟩ => by
    obtain ⟨vs', v', e, h3, h4⟩ := RunsAt.unsnoc h2
    exact ⟨v :: vs', v', by rw [e]; rfl, ⟨h1, h3⟩, h4⟩

theorem RunsAt.get {w : World} {F : Nat → Prop} {p : Nat} {o : Option Nat} : ∀ {vs : List Value} {rs : List (List Nat)} (i : Nat) (hi : i < rs.length), RunsAt w F p o vs rs → ∃ v, vs[i]? = some v ∧ RunV w F p o v rs[i]
  | v :: vs, ks :: rs, 0, _, ⟨h, _⟩ => ⟨v, by simp, by simpa using h⟩
  | v :: vs, ks :: rs, i + 1, hi, ⟨_, h2⟩ => by
    obtain ⟨u, e, hr⟩ := RunsAt.get i (by simpa using hi) h2
    exact ⟨u, by simpa using e, by simpa using hr⟩
  | [], _ :: _, _, _, h => h.elim
  | _, [], _, hi, _ => by simp at hi

/-- How a meter lies in memory: its own block p, the row of its runs, its runs; all in blocks of F, from N on. -/
structure Mem (w : World) (N p : Nat) (F : Nat → Prop) (s : MS) (v : Value) (vs : List Value) (rs : List (List Nat)) : Prop where
  cells : CellsAt w p s v
  own : w.ownsRow N 58 1 v rs.length vs
  runs : RunsAt w F p v.ownBlock vs rs
  inP : F p
  inO : ∀ k, v.ownBlock = some k → F k
  low : ∀ k, F k → N ≤ k ∧ k < w.heap.size
  apart : v.ownBlock ≠ some p
  lts : s.sum < 18446744073709551616 ∧ s.least < 18446744073709551616 ∧ s.most < 18446744073709551616 ∧ s.smooth < 18446744073709551616

theorem own_carry {w w' : World} {base e size n : Nat} {v : Value} {xs : List Value} (h : w.ownsRow base e size v n xs) (hb : ∀ k, v.ownBlock = some k → w'.heap[k]? = w.heap[k]?) : w'.ownsRow base e size v n xs := by
  obtain ⟨h1, h2⟩ := h
  refine ⟨h1, ?_⟩
  rcases h2 with h2 | ⟨g, cap, cur, rfl, hg, hh, r⟩
  · exact Or.inl h2
  · exact Or.inr ⟨g, cap, cur, rfl, hg, by rw [hb g rfl]; exact hh, r⟩

/-- Whoever touches none of its blocks leaves a meter as it is. -/
theorem Mem.carry {w w' : World} {N p : Nat} {F : Nat → Prop} {s : MS} {v : Value} {vs : List Value} {rs : List (List Nat)} (h : Mem w N p F s v vs rs) (hs : w.heap.size ≤ w'.heap.size) (hb : ∀ k, F k → w'.heap[k]? = w.heap[k]?) : Mem w' N p F s v vs rs :=
  ⟨h.cells.carry (hb p h.inP), own_carry h.own (fun k hk => hb k (h.inO k hk)), h.runs.carry hs (fun _ f => f) (fun k _ f _ ho => ⟨hb k f, ho⟩), h.inP, h.inO, fun k f => ⟨(h.low k f).1, Nat.lt_of_lt_of_le (h.low k f).2 hs⟩, h.apart, h.lts⟩

theorem Mem.below {w w' : World} {N p : Nat} {F : Nat → Prop} {s : MS} {v : Value} {vs : List Value} {rs : List (List Nat)} (h : Mem w N p F s v vs rs) (hb : Below w.heap.size w w') : Mem w' N p F s v vs rs :=
  h.carry hb.size (fun k f => hb.block k (h.low k f).2)

theorem own_shrink {w : World} {base e m cap : Nat} {g : Nat} {xs : List Value} {y : Value} (h : w.ownsRow base e 1 (.slice (some ⟨g, 0, none⟩) (m + 1) cap) (m + 1) (xs ++ [y])) : w.ownsRow base e 1 (.slice (some ⟨g, 0, none⟩) m cap) m xs := by
  obtain ⟨h1, h2⟩ := h
  have hl : xs.length = m := by simpa using h1
  refine ⟨by omega, ?_⟩
  rcases h2 with ⟨h2, _⟩ | ⟨g', cap', cur, hv, hg, hh, hn, hm, hs, ht⟩
  · cases h2
  · simp only [Value.slice.injEq, Option.some.injEq, Addr.mk.injEq, and_true, true_and] at hv
    obtain ⟨rfl, rfl⟩ := hv
    refine Or.inr ⟨g, cap, cur, rfl, hg, hh, by omega, hm, hs, ?_⟩
    have := congrArg (List.take m) ht
    rw [List.take_take, show min m ((m + 1) * 1) = m * 1 by omega] at this
    rw [this, List.take_left' hl]

theorem cell_other {w : World} {p i j : Nat} {u : Value} (h : i ≠ j) : (w.setCell ⟨p, j, none⟩ u).cell? ⟨p, i, none⟩ = w.cell? ⟨p, i, none⟩ :=
  World.cell?_setCell_other (h := fun e => h (by simpa using congrArg Addr.off e.symm)) ..
theorem CellsAt.run {w : World} {p : Nat} {s : MS} {v : Value} (h : CellsAt w p s v) (u : Value) : CellsAt (w.setCell ⟨p, 7, none⟩ u) p s u :=
  ⟨(cell_other (by decide)).trans h.c0, (cell_other (by decide)).trans h.c1, (cell_other (by decide)).trans h.c2, (cell_other (by decide)).trans h.c3, (cell_other (by decide)).trans h.c4, (cell_other (by decide)).trans h.c5, (cell_other (by decide)).trans h.c6, World.cell?_setCell_same (h := h.c7) .., fun i => (World.frozen?_setCell ..).trans (h.fz i)⟩

end Go.Proofs.Ytlbbbabieepabaa
