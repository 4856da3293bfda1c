/-
  Slices of values of one cell each, in memory.
-/
import Derived.Test.YtfiamomadicbpaaWkp
namespace Go.Proofs.Ytfiamomadicbpaa
open Go.RowKit

/-- A slice value (its address a, its capacity) holds vs. -/
structure SlV (w : World) (a : Option Addr) (cap : Nat) (vs : List Value) : Prop where
  fit : vs.length ≤ cap
  max : cap ≤ maxLen
  nil : a = none → cap = 0
  cell : ∀ i (h : i < vs.length), ∃ b off, a = some ⟨b, off, none⟩ ∧ b < w.heap.size ∧ w.cell? ⟨b, off + i, none⟩ = some vs[i]

theorem SlV.below {w w' : World} {a : Option Addr} {cap : Nat} {vs : List Value} (h : SlV w a cap vs) (hb : Below w.heap.size w w') : SlV w' a cap vs :=
  ⟨h.fit, h.max, h.nil, fun i hi => by
    obtain ⟨b, off, e, hl, hc⟩ := h.cell i hi
    exact ⟨b, off, e, Nat.lt_of_lt_of_le hl hb.size, (hb.cell (p := ⟨b, off + i, none⟩) hl).trans hc⟩⟩

theorem SlV.none (w : World) : SlV w none 0 [] :=
  ⟨by simp, by unfold maxLen; omega, fun _ => rfl, fun i h => by simp at h⟩

/-- A cell of numbers. -/
theorem SlV.at {α : Type} {f : α → Value} {w : World} {a : Option Addr} {cap : Nat} {xs : List α} (h : SlV w a cap (xs.map f)) (i : Nat) (hi : i < xs.length) : ∃ b off, a = some ⟨b, off, Option.none⟩ ∧ b < w.heap.size ∧ w.cell? ⟨b, off + i, Option.none⟩ = some (f xs[i]) := by
  obtain ⟨b, off, e, hl, hc⟩ := h.cell i (by simpa using hi)
  exact ⟨b, off, e, hl, by rw [hc]; simp⟩

/-- What the call itself has made. -/
theorem own_slv {w : World} {base : Nat} {e : TypeId} {v : Value} {n : Nat} {vs : List Value} (h : w.ownsRow base e 1 v n vs) : n = vs.length ∧ ∃ a cap, v = .slice a vs.length cap ∧ SlV w a cap vs := by
  have hn : n = vs.length := by have := h.1; simp at this; omega
  subst hn
  refine ⟨rfl, ?_⟩
  rcases h.2 with ⟨rfl, e⟩ | ⟨g, cap, cur, rfl, _, hg, h1, h2, _⟩
  · obtain rfl : vs = [] := List.length_eq_zero_iff.1 e
    exact ⟨Option.none, 0, rfl, SlV.none _⟩
  · refine ⟨some ⟨g, 0, Option.none⟩, cap, rfl, h1, h2, fun e => by simp at e, fun i hi => ⟨g, 0, rfl, (Array.getElem?_eq_some_iff.1 hg).1, ?_⟩⟩
    rw [Nat.zero_add, h.cellAt i (by omega), List.getElem?_eq_getElem hi]

/-- A slice that is written out in the text. -/
theorem slv_lit (w : World) (vs : List Value) (cs : Array Value) (t : TypeId) (n : Nat) (hcs : cs = vs.toArray) (hn : vs.length = n) (hm : n ≤ maxLen) : SlV (w.alloc (.cells cs t)) (some ⟨w.heap.size, 0, none⟩) n vs := by
  subst hcs hn
  refine ⟨Nat.le_refl _, hm, (fun e => by cases e), fun i hi => ⟨w.heap.size, 0, rfl, by simp, ?_⟩⟩
  rw [Nat.zero_add]
  have h := World.news_of_block (cs := vs.toArray) (fr := (0, 0)) (heap_alloc_new w (.cells vs.toArray t)) i vs[i] (by simp [List.getElem?_eq_getElem hi])
  rw [Addr.add_lit, Nat.zero_add] at h
  exact h

theorem own_below {B : Nat} {e : TypeId} {k : Nat} {v : Value} {n : Nat} {xs : List Value} {w w' : World} (h : w.ownsRow B e k v n xs) (hb : Below w.heap.size w w') : w'.ownsRow B e k v n xs :=
  h.kept (row := none) ⟨hb.os, hb.tape, hb.output, hb.size, fun j hj _ => hb.block j hj⟩ (by cases hv : v.ownBlock <;> simp)

theorem SlV.take {w : World} {a : Option Addr} {cap : Nat} {vs : List Value} (h : SlV w a cap vs) (k : Nat) : SlV w a cap (vs.take k) :=
  ⟨Nat.le_trans (by simp; omega) h.fit, h.max, h.nil, fun i hi => by
    have hi' : i < vs.length := by simp at hi; omega
    obtain ⟨b, off, e, hl, hc⟩ := h.cell i hi'
    exact ⟨b, off, e, hl, by rw [List.getElem_take]; exact hc⟩⟩
theorem SlV.drop {w : World} {a : Option Addr} {cap : Nat} {vs : List Value} (h : SlV w a cap vs) (k : Nat) (hk : k ≤ vs.length) :
    SlV w (if cap = k then a else a.map (·.add k)) (cap - k) (vs.drop k) := by
  have hf := h.fit
  have hm := h.max
  refine ⟨by simp; omega, by omega, fun e => ?_, fun i hi => ?_⟩
  · by_cases h0 : cap = k
    · omega
    · rw [if_neg h0] at e
      have := h.nil (Option.map_eq_none_iff.1 e)
      omega
  · have hi' : k + i < vs.length := by simp at hi; omega
    obtain ⟨b, off, e, hl, hc⟩ := h.cell (k + i) hi'
    refine ⟨b, off + k, ?_, hl, ?_⟩
    · rw [if_neg (by omega), e]; simp [Addr.add_lit]
    · rw [List.getElem_drop, show off + k + i = off + (k + i) by omega]; exact hc
theorem SlV.news {w : World} {a : Option Addr} {cap : Nat} {vs : List Value} (h : SlV w a cap vs) : ∀ ad, a = some ad → ∀ j u, vs[j]? = some u → w.cell? (ad.add j) = some u := by
  intro ad hd j u hu
  have hj : j < vs.length := (List.getElem?_eq_some_iff.1 hu).1
  obtain ⟨b, off, e, hl, hc⟩ := h.cell j hj
  rw [hd] at e
  cases e
  rw [Addr.add_lit]
  refine hc.trans ?_
  rw [List.getElem?_eq_getElem hj] at hu
  exact hu
theorem SlV.empty {w : World} {a : Option Addr} {cap : Nat} {vs : List Value} (h : SlV w a cap vs) : a = Option.none → vs.length = 0 ∧ cap = 0 := by
  intro e
  have := h.nil e
  have := h.fit
  omega
theorem SlV.carry {w w' : World} {a : Option Addr} {cap : Nat} {vs : List Value} (h : SlV w a cap vs) (hs : w.heap.size ≤ w'.heap.size) (hb : ∀ ad, a = some ad → vs ≠ [] → ad.block < w.heap.size → w'.heap[ad.block]? = w.heap[ad.block]?) : SlV w' a cap vs :=
  ⟨h.fit, h.max, h.nil, fun i hi => by
    obtain ⟨b, off, e, hl, hc⟩ := h.cell i hi
    exact ⟨b, off, e, Nat.lt_of_lt_of_le hl hs, (World.cell?_of_block (w := w) (a := ⟨b, off + i, Option.none⟩) (hb ⟨b, off, Option.none⟩ e (fun h0 => by subst h0; simp at hi) hl)).trans hc⟩⟩

/-- append onto what the call owns, as a step of a region that draws its order; the addend may be empty. -/
theorem step_append_own {P : Program} {ops : Array Oper} {o : Oper} {a : Act} {w : World} {K : Act → World → Prop} {Q : Exit → Act → World → Prop} {E : Prop} (hgd : o.guard = none) (s x : Operand) (t : TypeId)
    (ho : o.op = .call { callee := .builtin .append, args := #[s, x], argTypes := #[t, t] })
    (base : Nat) (e : TypeId) (i : TypeInfo) (z : Value) (size bytes : Nat) (ht : P.underlying t = some (.slice e)) (hi : P.info? e = some i) (hz : i.zero = some z)
    (hsize : i.size = size) (hby : i.bytes = bytes) (hzs : z.cells.size = size) (hsz : 0 < size)
    (v : Value) (n : Nat) (xs : List Value) (hs : a.eval s = v) (hown : w.ownsRow base e size v n xs)
    (ad : Addr) (m c : Nat) (news : List Value) (hx : a.eval x = .slice (some ad) m c) (hl : news.length = m * size) (hnews : ∀ j u, news[j]? = some u → w.cell? (ad.add j) = some u) (h1 : ∀ u ∈ news, u.oneCell' = true)
    (h63 : n + m ≤ maxLen) (hbytes : (n + m) * bytes ≤ 140737488355328) (hbase : base ≤ w.heap.size)
    (h : ∀ a' cap w', w'.ownsRow base e size (.slice a' (n + m) cap) (n + m) (xs ++ news) → w.grownBy w' v.ownBlock → (∀ k, (Value.slice a' (n + m) cap).ownBlock = some k → v.ownBlock = some k ∨ w.heap.size ≤ k) → K (a.put o.dst (.slice a' (n + m) cap)) w') :
    if Region.wanted o (yielded ops a.tmps) = true then Oper.wp P o a w K Q else E := by
  have hw : Region.wanted o (yielded ops a.tmps) = true := by simp [Region.wanted, hgd]
  rw [if_pos hw]
  obtain ⟨v', w', hr, h2, h3, _, h5⟩ := run_append_own_at (P := P) w base t o.type e i z size bytes ht hi hz hsize hby hzs hsz v n xs hown ad m c news hl hnews h1 h63 hbytes hbase
  have hat : ∀ k, v'.ownBlock = some k → v.ownBlock = some k ∨ w.heap.size ≤ k := by
    intro k hk
    rcases h5 with h5 | h5
    · exact Or.inl (by rw [← h5]; exact hk)
    · exact Or.inr (Nat.le_of_eq (Option.some.inj (h5.symm.trans hk)))
  unfold Oper.wp execOp
  simp only [ho, resolve, invoke, builtin, Sem.run_bind, Sem.run_pure, Result.andThen_ok, List.map_toArray, List.map_cons, List.map_nil, hs, hx, hr]
  obtain ⟨a', cap, rfl⟩ := own_form h2
  exact h a' cap w' h2 h3 hat

end Go.Proofs.Ytfiamomadicbpaa
