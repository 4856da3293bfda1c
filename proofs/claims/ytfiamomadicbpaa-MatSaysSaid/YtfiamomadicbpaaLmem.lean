/-
  Slices of numbers in memory; what is appended.
-/
import Derived.Test.YtfiamomadicbpaaRows
import Derived.WalkKit
import Derived.Lib.Hide
import Derived.Deep.AppendLies
import Derived.Laws.AppendOwnNone
import Derived.Laws.BytesArg
import Derived.OwnWalk
import Derived.OneCell
namespace Go.Proofs.Ytfiamomadicbpaa
open Go.RowKit

def bV (x : Nat) : Value := .int .u8 (x : Nat)
def qV (x : Nat) : Value := .int .u64 (x : Nat)

/-- A slice value (its address a, its capacity) holds xs, told by f. -/
structure SlAt (f : Nat → Value) (M : Nat) (w : World) (a : Option Addr) (cap : Nat) (xs : List Nat) : Prop where
  lt : ∀ x ∈ xs, x < M
  fit : xs.length ≤ cap
  max : cap ≤ maxLen
  nil : a = none → cap = 0
  cell : ∀ i (h : i < xs.length), ∃ b off, a = some ⟨b, off, none⟩ ∧ b < w.heap.size ∧ w.cell? ⟨b, off + i, none⟩ = some (f xs[i])

theorem SlAt.below {f : Nat → Value} {M : Nat} {w w' : World} {a : Option Addr} {cap : Nat} {xs : List Nat} (h : SlAt f M w a cap xs) (hb : Below w.heap.size w w') : SlAt f M w' a cap xs :=
  ⟨h.lt, h.fit, h.max, h.nil, fun i hi => by
    obtain ⟨b, off, e, hl, hc⟩ := h.cell i hi
    exact ⟨b, off, e, Nat.lt_of_lt_of_le hl hb.size, (hb.cell (p := ⟨b, off + i, none⟩) hl).trans hc⟩⟩

theorem SlAt.carry {f : Nat → Value} {M : Nat} {w w' : World} {a : Option Addr} {cap : Nat} {xs : List Nat} (h : SlAt f M w a cap xs) (hs : w.heap.size ≤ w'.heap.size) (hb : ∀ ad, a = some ad → xs ≠ [] → ad.block < w.heap.size → w'.heap[ad.block]? = w.heap[ad.block]?) : SlAt f M w' a cap xs :=
  ⟨h.lt, h.fit, h.max, h.nil, fun i hi => by
    obtain ⟨b, off, e, hl, hc⟩ := h.cell i hi
    exact ⟨b, off, e, Nat.lt_of_lt_of_le hl hs, (World.cell?_of_block (w := w) (a := ⟨b, off + i, Option.none⟩) (hb ⟨b, off, Option.none⟩ e (fun h0 => by subst h0; simp at hi) hl)).trans hc⟩⟩

theorem SlAt.none (f : Nat → Value) (M : Nat) (w : World) : SlAt f M w none 0 [] :=
  ⟨by simp, by simp, by unfold maxLen; omega, fun _ => rfl, fun i h => by simp at h⟩

theorem add_spot (b o k : Nat) : (⟨b, o, Option.none⟩ : Addr).add k = ⟨b, o + k, Option.none⟩ := Addr.add_lit ..

theorem SlAt.drop {f : Nat → Value} {M : Nat} {w : World} {a : Option Addr} {cap : Nat} {xs : List Nat} (h : SlAt f M w a cap xs) (k : Nat) (hk : k ≤ xs.length) :
    SlAt f M w (if cap = k then a else a.map (·.add k)) (cap - k) (xs.drop k) := by
  have hf := h.fit
  have hm := h.max
  refine ⟨fun x hx => h.lt x (List.mem_of_mem_drop hx), by simp; omega, by omega, fun e => ?_, fun i hi => ?_⟩
  · by_cases h0 : cap = k
    · omega
    · rw [if_neg h0] at e
      have := h.nil (Option.map_eq_none_iff.1 e)
      omega
  · have hi' : k + i < xs.length := by simp at hi; omega
    obtain ⟨b, off, e, hl, hc⟩ := h.cell (k + i) hi'
    refine ⟨b, off + k, ?_, hl, ?_⟩
    · rw [if_neg (by omega), e]; simp [add_spot]
    · rw [List.getElem_drop, show off + k + i = off + (k + i) by omega]; exact hc

theorem SlAt.take {f : Nat → Value} {M : Nat} {w : World} {a : Option Addr} {cap : Nat} {xs : List Nat} (h : SlAt f M w a cap xs) (k : Nat) : SlAt f M w a cap (xs.take k) :=
  ⟨fun x hx => h.lt x (List.mem_of_mem_take hx), Nat.le_trans (by simp; omega) h.fit, h.max, h.nil, fun i hi => by
    have hi' : i < xs.length := by simp at hi; omega
    obtain ⟨b, off, e, hl, hc⟩ := h.cell i hi'
    exact ⟨b, off, e, hl, by rw [List.getElem_take]; exact hc⟩⟩

theorem SlAt.news {f : Nat → Value} {M : Nat} {w : World} {a : Option Addr} {cap : Nat} {xs : List Nat} (h : SlAt f M w a cap xs) : ∀ ad, a = some ad → ∀ j u, (xs.map f)[j]? = some u → w.cell? (ad.add j) = some u := by
  intro ad hd j u hu
  have hj : j < xs.length := by
    have := (List.getElem?_eq_some_iff.1 hu).1
    simpa using this
  obtain ⟨b, off, e, hl, hc⟩ := h.cell j hj
  rw [hd] at e
  cases e
  rw [add_spot]
  refine hc.trans ?_
  rw [List.getElem?_map, List.getElem?_eq_getElem hj] at hu
  exact hu
theorem SlAt.empty {f : Nat → Value} {M : Nat} {w : World} {a : Option Addr} {cap : Nat} {xs : List Nat} (h : SlAt f M w a cap xs) : a = Option.none → xs.length = 0 ∧ cap = 0 := by
  intro e
  have := h.nil e
  have := h.fit
  omega

theorem ones_b (xs : List Nat) : ∀ u ∈ xs.map bV, u.oneCell' = true := by
  intro u hu
  obtain ⟨x, _, rfl⟩ := List.mem_map.1 hu
  rfl
theorem ones_q (xs : List Nat) : ∀ u ∈ xs.map qV, u.oneCell' = true := by
  intro u hu
  obtain ⟨x, _, rfl⟩ := List.mem_map.1 hu
  rfl

/-- What the call itself has made. -/
theorem own_sl {f : Nat → Value} {M : Nat} {w : World} {base : Nat} {e : TypeId} {v : Value} {n : Nat} {xs : List Nat} (h : w.ownsRow base e 1 v n (xs.map f)) (hl : ∀ x ∈ xs, x < M) : n = xs.length ∧ ∃ a cap, v = .slice a xs.length cap ∧ SlAt f M w a cap xs := by
  have hn : n = xs.length := by have := h.1; simp at this; omega
  subst hn
  refine ⟨rfl, ?_⟩
  rcases h.2 with ⟨rfl, e⟩ | ⟨g, cap, cur, rfl, _, hg, h1, h2, _⟩
  · obtain rfl : xs = [] := List.length_eq_zero_iff.1 e
    exact ⟨Option.none, 0, rfl, SlAt.none _ _ _⟩
  · refine ⟨some ⟨g, 0, Option.none⟩, cap, rfl, hl, h1, h2, fun e => by simp at e, fun i hi => ⟨g, 0, rfl, (Array.getElem?_eq_some_iff.1 hg).1, ?_⟩⟩
    rw [Nat.zero_add, h.cellAt i (by omega), List.getElem?_map, List.getElem?_eq_getElem hi]; rfl

/-- append onto what the call owns, whatever is appended: nil, empty, or not. -/
theorem wpList_append_opt {P : Program} {w : World} {ops : Array Oper} {rest : List Oper} {o : Oper} {a : Act} {Q : Exit → Act → World → Prop} (hgd : o.guard = none) (s x : Operand) (t : TypeId)
    (ho : o.op = .call { callee := .builtin .append, args := #[s, x], argTypes := #[t, t] })
    (base : Nat) (e : TypeId) (i : TypeInfo) (z : Value) (size bytes : Nat) (ht : P.underlying t = some (.slice e)) (hi : P.info? e = some i) (hz : i.zero = some z)
    (hsize : i.size = size) (hby : i.bytes = bytes) (hzs : z.cells.size = size) (hsz : 0 < size)
    (v : Value) (n : Nat) (xs : List Value) (hs : a.eval s = v) (hown : w.ownsRow base e size v n xs)
    (ao : Option Addr) (m c : Nat) (news : List Value) (hx : a.eval x = .slice ao m c) (hl : news.length = m * size) (hnone : ao = none → m = 0 ∧ c = 0) (hnews : ∀ ad, ao = some ad → ∀ j u, news[j]? = some u → w.cell? (ad.add j) = some u) (h1 : ∀ u ∈ news, u.oneCell' = true)
    (h63 : n + m ≤ maxLen) (hbytes : (n + m) * bytes ≤ 140737488355328) (hbase : base ≤ w.heap.size)
    (h : ∀ v' w', w'.ownsRow base e size v' (n + m) (xs ++ news) → w.grownBy w' v.ownBlock → wpList P ops Q rest (a.put o.dst v') w') : wpList P ops Q (o :: rest) a w := by
  cases ao with
  | some ad => exact wpList_append_own w hgd s x t ho base e i z size bytes ht hi hz hsize hby hzs hsz v n xs hs hown ad m c news hx hl (hnews ad rfl) h1 h63 hbytes hbase fun v' w' h2 h3 _ => h v' w' h2 h3
  | none =>
    obtain ⟨rfl, rfl⟩ := hnone rfl
    have hn : news = [] := List.eq_nil_of_length_eq_zero (by simpa using hl)
    subst hn
    exact wpList_append_own_none hgd s x t ho base e i size ht hi v n xs hs hown hx (h v w (by simpa using hown) (World.grownBy.refl _ _))

theorem Try.infoB : (Try.prog.info? 5).map (fun i => (i.zero, i.size, i.bytes)) = some (some (.int .u8 0), 1, 1) := by kernel_rfl
theorem Try.infoQ : (Try.prog.info? 30).map (fun i => (i.zero, i.size, i.bytes)) = some (some (.int .u64 0), 1, 8) := by kernel_rfl

end Go.Proofs.Ytfiamomadicbpaa
