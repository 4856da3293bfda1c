/-
  Texts of this claim, put together.
-/
import Derived.Test.YtfbojcaedcimcaaWbasm
import Derived.Deep.AppendLies
import Derived.Deep.MidRow
import Derived.Deep.Draws
import Derived.Laws.AppendOwnNone
import Derived.Laws.BytesArg
import Derived.OwnWalk
import Derived.OneCell

/-
  Which of the memory a call may turn; what it owns; append onto it.
-/
namespace Go.Proofs.Ytfbojcaedcimcaa
open Go.RowKit

theorem ret_b {a b : Bool} (h : a = b) : Ending.returned (.bool a) = .returned (.bool b) := by rw [h]

/-- All but the blocks of F is as it was. -/
structure Keep (F : Nat → Prop) (w w' : World) : Prop where
  os : w'.os = w.os
  tape : w'.tape = w.tape
  output : w'.output = w.output
  size : w.heap.size ≤ w'.heap.size
  block : ∀ k, k < w.heap.size → ¬ F k → w'.heap[k]? = w.heap[k]?

theorem Keep.refl (F : Nat → Prop) (w : World) : Keep F w w := ⟨rfl, rfl, rfl, Nat.le_refl _, fun _ _ _ => rfl⟩

theorem Keep.trans {F G : Nat → Prop} {a b c : World} (h : Keep F a b) (k : Keep G b c) (hG : ∀ i, i < a.heap.size → G i → F i) : Keep F a c :=
  ⟨k.os.trans h.os, k.tape.trans h.tape, k.output.trans h.output, Nat.le_trans h.size k.size, fun i hi hn => (k.block i (Nat.lt_of_lt_of_le hi h.size) (fun g => hn (hG i hi g))).trans (h.block i hi hn)⟩

theorem Keep.mono {F G : Nat → Prop} {a b : World} (h : Keep F a b) (hG : ∀ i, F i → G i) : Keep G a b :=
  ⟨h.os, h.tape, h.output, h.size, fun i hi hn => h.block i hi (fun f => hn (hG i f))⟩

theorem Keep.drewN {F : Nat → Prop} {a b : World} (h : Keep F a b) (q : Nat) : Keep F a (b.drewN q) := ⟨h.os, h.tape, h.output, h.size, h.block⟩

theorem Keep.drew {F : Nat → Prop} {a b : World} (h : Keep F a b) : Keep F a b.drew := ⟨h.os, h.tape, h.output, h.size, h.block⟩

theorem Keep.alloc {F : Nat → Prop} {a b : World} (h : Keep F a b) (o : Obj) : Keep F a (b.alloc o) :=
  h.trans (G := fun _ => False) ⟨rfl, rfl, rfl, by simp, fun k hk _ => Below.heap_alloc _ _ _ hk⟩ (fun _ _ f => f.elim)

theorem Keep.setCell {F : Nat → Prop} {a b : World} (h : Keep F a b) {p : Addr} (hp : F p.block) (u : Value) : Keep F a (b.setCell p u) :=
  h.trans (G := fun i => i = p.block) ⟨rfl, rfl, rfl, by simp [World.setCell], fun k hk hn => Below.heap_setCell _ _ _ _ hn⟩ (fun _ _ e => e ▸ hp)

theorem Keep.below {F : Nat → Prop} {a b : World} {N : Nat} (h : Keep F a b) (hN : N ≤ a.heap.size) (hF : ∀ k, F k → N ≤ k) : Below N a b :=
  ⟨h.os, h.tape, h.output, h.size, fun k hk => h.block k (by omega) (fun f => by have := hF k f; omega)⟩

theorem Keep.ofBelow {F : Nat → Prop} {a b : World} (h : Below a.heap.size a b) : Keep F a b := ⟨h.os, h.tape, h.output, h.size, fun k hk _ => h.block k hk⟩

theorem Keep.cell {F : Nat → Prop} {a b : World} (h : Keep F a b) {p : Addr} (hp : p.block < a.heap.size) (hn : ¬ F p.block) : b.cell? p = a.cell? p := World.cell?_of_block (w := a) (h.block p.block hp hn)

theorem Keep.frozen {F : Nat → Prop} {a b : World} (h : Keep F a b) {p : Addr} (hp : p.block < a.heap.size) (hn : ¬ F p.block) : b.frozen? p = a.frozen? p := World.frozen?_of_block (w := a) (h.block p.block hp hn)

theorem Keep.grown {F : Nat → Prop} {a b c : World} {row : Option Nat} (h : Keep F a b) (hg : b.grownBy c row) (hr : ∀ k, row = some k → F k ∨ a.heap.size ≤ k) : Keep F a c :=
  h.trans (G := fun i => row = some i) ⟨hg.os, hg.tape, hg.output, hg.size, fun k hk hn => hg.block k hk (fun e => hn e.symm)⟩ (fun i hi e => (hr i e).elim id (fun h => by omega))

theorem own_carry {w w' : World} {base e size n : Nat} {v : Value} {xs : List Value} (h : w.ownsRow base e size v n xs) (hb : ∀ k, v.ownBlock = some k → w'.heap[k]? = w.heap[k]?) : w'.ownsRow base e size v n xs := by
  obtain ⟨h1, h2⟩ := h
  refine ⟨h1, ?_⟩
  rcases h2 with h2 | ⟨g, cap, cur, rfl, hg, hh, r⟩
  · exact Or.inl h2
  · exact Or.inr ⟨g, cap, cur, rfl, hg, by rw [hb g rfl]; exact hh, r⟩

theorem own_form {w : World} {base : Nat} {e : TypeId} {size : Nat} {v : Value} {n : Nat} {xs : List Value} (h : w.ownsRow base e size v n xs) : ∃ a cap, v = .slice a n cap := by
  rcases h.2 with ⟨rfl, rfl⟩ | ⟨g, cap, cur, rfl, _⟩
  · exact ⟨none, 0, rfl⟩
  · exact ⟨_, cap, rfl⟩

theorem own_mono {w : World} {base base' : Nat} {e : TypeId} {size : Nat} {v : Value} {n : Nat} {xs : List Value} (h : w.ownsRow base e size v n xs) (hb : base' ≤ base) : w.ownsRow base' e size v n xs :=
  ⟨h.1, h.2.imp id fun ⟨g, cap, cur, h1, h2, h3⟩ => ⟨g, cap, cur, h1, Nat.le_trans hb h2, h3⟩⟩

/-- append onto what the call owns, whatever is appended: nil, empty, or not; and where it then lies. -/
theorem wpList_append_at {P : Program} {w : World} {ops : Array Oper} {rest : List Oper} {o : Oper} {a : Act} {Q : Exit → Act → World → Prop} (hgd : o.guard = none) (s x : Operand) (t : TypeId)
    (ho : o.op = .call { callee := .builtin .append, args := #[s, x], argTypes := #[t, t] })
    (base : Nat) (e : TypeId) (i : TypeInfo) (z : Value) (size bytes : Nat) (ht : P.underlying t = some (.slice e)) (hi : P.info? e = some i) (hz : i.zero = some z)
    (hsize : i.size = size) (hby : i.bytes = bytes) (hzs : z.cells.size = size) (hsz : 0 < size)
    (v : Value) (n : Nat) (xs : List Value) (hs : a.eval s = v) (hown : w.ownsRow base e size v n xs)
    (ao : Option Addr) (m c : Nat) (news : List Value) (hx : a.eval x = .slice ao m c) (hl : news.length = m * size) (hnone : ao = none → m = 0 ∧ c = 0) (hnews : ∀ ad, ao = some ad → ∀ j u, news[j]? = some u → w.cell? (ad.add j) = some u) (h1 : ∀ u ∈ news, u.oneCell' = true)
    (h63 : n + m ≤ maxLen) (hbytes : (n + m) * bytes ≤ 140737488355328) (hbase : base ≤ w.heap.size)
    (h : ∀ v' w', w'.ownsRow base e size v' (n + m) (xs ++ news) → w.grownBy w' v.ownBlock → (∀ k, v'.ownBlock = some k → v.ownBlock = some k ∨ w.heap.size ≤ k) → wpList P ops Q rest (a.put o.dst v') w') : wpList P ops Q (o :: rest) a w := by
  cases ao with
  | some ad =>
    refine wpList_plain hgd fun K hK => ?_
    obtain ⟨v', w', hr, h2, h3, _, h5⟩ := run_append_own_at (P := P) w base t o.type e i z size bytes ht hi hz hsize hby hzs hsz v n xs hown ad m c news hl (hnews ad rfl) h1 h63 hbytes hbase
    have hat : ∀ k, v'.ownBlock = some k → v.ownBlock = some k ∨ w.heap.size ≤ k := by
      intro k hk
      rcases h5 with h5 | h5
      · exact Or.inl (by rw [← h5]; exact hk)
      · exact Or.inr (Nat.le_of_eq (Option.some.inj (h5.symm.trans hk)))
    unfold Oper.wp execOp
    simp only [ho, resolve, invoke, builtin, Sem.run_bind, Sem.run_pure, Result.andThen_ok, List.map_toArray, List.map_cons, List.map_nil, hs, hx, hr]
    exact hK _ _ (h v' w' h2 h3 hat)
  | none =>
    obtain ⟨rfl, rfl⟩ := hnone rfl
    have hn : news = [] := List.eq_nil_of_length_eq_zero (by simpa using hl)
    subst hn
    exact wpList_append_own_none hgd s x t ho base e i size ht hi v n xs hs hown hx (h v w (by simpa using hown) (World.grownBy.refl _ _) (fun _ e => Or.inl e))

theorem cell_other {w : World} {p i j : Nat} {u : Value} (h : i ≠ j) : (w.setCell ⟨p, j, none⟩ u).cell? ⟨p, i, none⟩ = w.cell? ⟨p, i, none⟩ :=
  World.cell?_setCell_other (h := fun e => h (by simpa using congrArg Addr.off e.symm)) ..

end Go.Proofs.Ytfbojcaedcimcaa

/-
  Slices of values of one cell each, in memory.
-/
namespace Go.Proofs.Ytfbojcaedcimcaa
open Go.RowKit

/-- A slice value (its address a, its capacity) holds vs. -/
structure SlV (w : World) (a : Option Addr) (cap : Nat) (vs : List Value) : Prop where
  fit : vs.length ≤ cap
  max : cap ≤ maxLen
  nil : a = none → cap = 0
  cell : ∀ i (h : i < vs.length), ∃ b off, a = some ⟨b, off, none⟩ ∧ b < w.heap.size ∧ w.cell? ⟨b, off + i, none⟩ = some vs[i]

theorem SlV.below {w w' : World} {a : Option Addr} {cap : Nat} {vs : List Value} (h : SlV w a cap vs) (hb : Below w.heap.size w w') : SlV w' a cap vs :=
  ⟨h.fit, h.max, h.nil, fun i hi => by
    obtain ⟨b, off, e, hl, hc⟩ := h.cell i hi
    exact ⟨b, off, e, Nat.lt_of_lt_of_le hl hb.size, (hb.cell (p := ⟨b, off + i, none⟩) hl).trans hc⟩⟩

theorem SlV.none (w : World) : SlV w none 0 [] :=
  ⟨by simp, by unfold maxLen; omega, fun _ => rfl, fun i h => by simp at h⟩

/-- A cell of numbers. -/
theorem SlV.at {α : Type} {f : α → Value} {w : World} {a : Option Addr} {cap : Nat} {xs : List α} (h : SlV w a cap (xs.map f)) (i : Nat) (hi : i < xs.length) : ∃ b off, a = some ⟨b, off, Option.none⟩ ∧ b < w.heap.size ∧ w.cell? ⟨b, off + i, Option.none⟩ = some (f xs[i]) := by
  obtain ⟨b, off, e, hl, hc⟩ := h.cell i (by simpa using hi)
  exact ⟨b, off, e, hl, by rw [hc]; simp⟩

/-- What the call itself has made. -/
theorem own_slv {w : World} {base : Nat} {e : TypeId} {v : Value} {n : Nat} {vs : List Value} (h : w.ownsRow base e 1 v n vs) : n = vs.length ∧ ∃ a cap, v = .slice a vs.length cap ∧ SlV w a cap vs := by
  have hn : n = vs.length := by have := h.1; simp at this; omega
  subst hn
  refine ⟨rfl, ?_⟩
  rcases h.2 with ⟨rfl, e⟩ | ⟨g, cap, cur, rfl, _, hg, h1, h2, _⟩
  · obtain rfl : vs = [] := List.length_eq_zero_iff.1 e
    exact ⟨Option.none, 0, rfl, SlV.none _⟩
  · refine ⟨some ⟨g, 0, Option.none⟩, cap, rfl, h1, h2, fun e => by simp at e, fun i hi => ⟨g, 0, rfl, (Array.getElem?_eq_some_iff.1 hg).1, ?_⟩⟩
    rw [Nat.zero_add, h.cellAt i (by omega), List.getElem?_eq_getElem hi]

/-- A slice that is written out in the text. -/
theorem slv_lit (w : World) (vs : List Value) (cs : Array Value) (t : TypeId) (n : Nat) (hcs : cs = vs.toArray) (hn : vs.length = n) (hm : n ≤ maxLen) : SlV (w.alloc (.cells cs t)) (some ⟨w.heap.size, 0, none⟩) n vs := by
  subst hcs hn
  refine ⟨Nat.le_refl _, hm, (fun e => by cases e), fun i hi => ⟨w.heap.size, 0, rfl, by simp, ?_⟩⟩
  rw [Nat.zero_add]
  have h := World.news_of_block (cs := vs.toArray) (fr := (0, 0)) (heap_alloc_new w (.cells vs.toArray t)) i vs[i] (by simp [List.getElem?_eq_getElem hi])
  rw [Addr.add_lit, Nat.zero_add] at h
  exact h

theorem own_below {B : Nat} {e : TypeId} {k : Nat} {v : Value} {n : Nat} {xs : List Value} {w w' : World} (h : w.ownsRow B e k v n xs) (hb : Below w.heap.size w w') : w'.ownsRow B e k v n xs :=
  h.kept (row := none) ⟨hb.os, hb.tape, hb.output, hb.size, fun j hj _ => hb.block j hj⟩ (by cases hv : v.ownBlock <;> simp)

theorem SlV.take {w : World} {a : Option Addr} {cap : Nat} {vs : List Value} (h : SlV w a cap vs) (k : Nat) : SlV w a cap (vs.take k) :=
  ⟨Nat.le_trans (by simp; omega) h.fit, h.max, h.nil, fun i hi => by
    have hi' : i < vs.length := by simp at hi; omega
    obtain ⟨b, off, e, hl, hc⟩ := h.cell i hi'
    exact ⟨b, off, e, hl, by rw [List.getElem_take]; exact hc⟩⟩
theorem SlV.drop {w : World} {a : Option Addr} {cap : Nat} {vs : List Value} (h : SlV w a cap vs) (k : Nat) (hk : k ≤ vs.length) :
    SlV w (if cap = k then a else a.map (·.add k)) (cap - k) (vs.drop k) := by
  have hf := h.fit
  have hm := h.max
  refine ⟨by simp; omega, by omega, fun e => ?_, fun i hi => ?_⟩
  · by_cases h0 : cap = k
    · omega
    · rw [if_neg h0] at e
      have := h.nil (Option.map_eq_none_iff.1 e)
      omega
  · have hi' : k + i < vs.length := by simp at hi; omega
    obtain ⟨b, off, e, hl, hc⟩ := h.cell (k + i) hi'
    refine ⟨b, off + k, ?_, hl, ?_⟩
    · rw [if_neg (by omega), e]; simp [Addr.add_lit]
    · rw [List.getElem_drop, show off + k + i = off + (k + i) by omega]; exact hc
theorem SlV.news {w : World} {a : Option Addr} {cap : Nat} {vs : List Value} (h : SlV w a cap vs) : ∀ ad, a = some ad → ∀ j u, vs[j]? = some u → w.cell? (ad.add j) = some u := by
  intro ad hd j u hu
  have hj : j < vs.length := (List.getElem?_eq_some_iff.1 hu).1
  obtain ⟨b, off, e, hl, hc⟩ := h.cell j hj
  rw [hd] at e
  cases e
  rw [Addr.add_lit]
  refine hc.trans ?_
  rw [List.getElem?_eq_getElem hj] at hu
  exact hu
theorem SlV.empty {w : World} {a : Option Addr} {cap : Nat} {vs : List Value} (h : SlV w a cap vs) : a = Option.none → vs.length = 0 ∧ cap = 0 := by
  intro e
  have := h.nil e
  have := h.fit
  omega
theorem SlV.carry {w w' : World} {a : Option Addr} {cap : Nat} {vs : List Value} (h : SlV w a cap vs) (hs : w.heap.size ≤ w'.heap.size) (hb : ∀ ad, a = some ad → vs ≠ [] → ad.block < w.heap.size → w'.heap[ad.block]? = w.heap[ad.block]?) : SlV w' a cap vs :=
  ⟨h.fit, h.max, h.nil, fun i hi => by
    obtain ⟨b, off, e, hl, hc⟩ := h.cell i hi
    exact ⟨b, off, e, Nat.lt_of_lt_of_le hl hs, (World.cell?_of_block (w := w) (a := ⟨b, off + i, Option.none⟩) (hb ⟨b, off, Option.none⟩ e (fun h0 => by subst h0; simp at hi) hl)).trans hc⟩⟩

/-- append onto what the call owns, as a step of a region that draws its order; the addend may be empty. -/
theorem step_append_own {P : Program} {ops : Array Oper} {o : Oper} {a : Act} {w : World} {K : Act → World → Prop} {Q : Exit → Act → World → Prop} {E : Prop} (hgd : o.guard = none) (s x : Operand) (t : TypeId)
    (ho : o.op = .call { callee := .builtin .append, args := #[s, x], argTypes := #[t, t] })
    (base : Nat) (e : TypeId) (i : TypeInfo) (z : Value) (size bytes : Nat) (ht : P.underlying t = some (.slice e)) (hi : P.info? e = some i) (hz : i.zero = some z)
    (hsize : i.size = size) (hby : i.bytes = bytes) (hzs : z.cells.size = size) (hsz : 0 < size)
    (v : Value) (n : Nat) (xs : List Value) (hs : a.eval s = v) (hown : w.ownsRow base e size v n xs)
    (ad : Addr) (m c : Nat) (news : List Value) (hx : a.eval x = .slice (some ad) m c) (hl : news.length = m * size) (hnews : ∀ j u, news[j]? = some u → w.cell? (ad.add j) = some u) (h1 : ∀ u ∈ news, u.oneCell' = true)
    (h63 : n + m ≤ maxLen) (hbytes : (n + m) * bytes ≤ 140737488355328) (hbase : base ≤ w.heap.size)
    (h : ∀ a' cap w', w'.ownsRow base e size (.slice a' (n + m) cap) (n + m) (xs ++ news) → w.grownBy w' v.ownBlock → (∀ k, (Value.slice a' (n + m) cap).ownBlock = some k → v.ownBlock = some k ∨ w.heap.size ≤ k) → K (a.put o.dst (.slice a' (n + m) cap)) w') :
    if Region.wanted o (yielded ops a.tmps) = true then Oper.wp P o a w K Q else E := by
  have hw : Region.wanted o (yielded ops a.tmps) = true := by simp [Region.wanted, hgd]
  rw [if_pos hw]
  obtain ⟨v', w', hr, h2, h3, _, h5⟩ := run_append_own_at (P := P) w base t o.type e i z size bytes ht hi hz hsize hby hzs hsz v n xs hown ad m c news hl hnews h1 h63 hbytes hbase
  have hat : ∀ k, v'.ownBlock = some k → v.ownBlock = some k ∨ w.heap.size ≤ k := by
    intro k hk
    rcases h5 with h5 | h5
    · exact Or.inl (by rw [← h5]; exact hk)
    · exact Or.inr (Nat.le_of_eq (Option.some.inj (h5.symm.trans hk)))
  unfold Oper.wp execOp
  simp only [ho, resolve, invoke, builtin, Sem.run_bind, Sem.run_pure, Result.andThen_ok, List.map_toArray, List.map_cons, List.map_nil, hs, hx, hr]
  obtain ⟨a', cap, rfl⟩ := own_form h2
  exact h a' cap w' h2 h3 hat

end Go.Proofs.Ytfbojcaedcimcaa

/-
  A block of so many cells that nothing else holds.
-/
namespace Go.Proofs.Ytfbojcaedcimcaa
open Go.RowKit

def updc (V : Nat → Value) (o : Nat) (v : Value) : Nat → Value := fun x => if x = o then v else V x
/-- A block of n cells that nothing else holds. -/
structure Cel (n : Nat) (w : World) (B : Nat) (V : Nat → Value) : Prop where
  c : ∀ o, o < n → w.cell? ⟨B, o, none⟩ = some (V o)
  fz : ∀ o, w.frozen? ⟨B, o, none⟩ = false
  lt : B < w.heap.size
theorem Cel.keep {n : Nat} {w w' : World} {B : Nat} {V : Nat → Value} {F : Nat → Prop} (h : Cel n w B V) (hk : Keep F w w') (hF : ¬ F B) : Cel n w' B V :=
  ⟨fun o ho => (hk.cell (p := ⟨B, o, none⟩) h.lt hF).trans (h.c o ho), fun o => (hk.frozen (p := ⟨B, o, none⟩) h.lt hF).trans (h.fz o), Nat.lt_of_lt_of_le h.lt hk.size⟩
theorem Cel.below {n : Nat} {w w' : World} {B : Nat} {V : Nat → Value} (h : Cel n w B V) (hb : Below w.heap.size w w') : Cel n w' B V := h.keep (F := fun _ => False) (Keep.ofBelow hb) id
theorem Cel.put {n : Nat} {w : World} {B : Nat} {V : Nat → Value} (h : Cel n w B V) (o : Nat) (v : Value) : Cel n (w.setCell ⟨B, o, none⟩ v) B (updc V o v) := by
  refine ⟨fun x hx => ?_, fun x => (World.frozen?_setCell ..).trans (h.fz x), by simpa [World.setCell] using h.lt⟩
  unfold updc
  by_cases e : x = o
  · subst e
    rw [if_pos rfl]
    exact World.cell?_setCell_same w _ _ (h.c x hx)
  · rw [if_neg e]
    exact (World.cell?_setCell_other w _ _ v (fun e' => by cases e'; exact e rfl)).trans (h.c x hx)

theorem Cel.conv {n : Nat} {w : World} {B : Nat} {V V2 : Nat → Value} (h : Cel n w B V) (hv : ∀ o, o < n → V o = V2 o) : Cel n w B V2 :=
  ⟨fun o ho => by rw [h.c o ho, hv o ho], h.fz, h.lt⟩
theorem Cel.drewN {n : Nat} {w : World} {B : Nat} {V : Nat → Value} (h : Cel n w B V) (q : Nat) : Cel n (w.drewN q) B V := h.below ⟨rfl, rfl, rfl, Nat.le_refl _, fun _ _ => rfl⟩
theorem Cel.drew {n : Nat} {w : World} {B : Nat} {V : Nat → Value} (h : Cel n w B V) : Cel n w.drew B V := h.below (drew_below w)
/-- A new block. -/
theorem Cel.new (W : World) (vs : List Value) (t : TypeId) : Cel vs.length (W.alloc (.cells vs.toArray t)) W.heap.size (fun o => vs.getD o (.int .i64 0)) := by
  refine ⟨fun o ho => ?_, by simp, by simp⟩
  simp [ho]

/-- What a call on such a block leaves: its result, the block as it then is; all else as it was. -/
def CelPost (n : Nat) (V : Nat → Value) (W : World) (p : Nat) (r : Value) (e : Ending) (w : World) : Prop := e = .returned r ∧ Cel n w p V ∧ Keep (fun k => k = p) W w
theorem Keep.put {p : Nat} {a b : World} (h : Keep (fun k => k = p) a b) (i : Nat) (u : Value) : Keep (fun k => k = p) a (b.setCell ⟨p, i, none⟩ u) := h.setCell (p := ⟨p, i, none⟩) rfl u

end Go.Proofs.Ytfbojcaedcimcaa

/-
  Numbers in a row, exchanged two and two.
-/
namespace Go.Proofs.Ytfbojcaedcimcaa
open Go.RowKit

/-- Two exchanged. -/
def swp (f : Nat → Nat) (i j : Nat) : Nat → Nat := fun k => if k = i then f j else if k = j then f i else f k
/-- Exchanged two and two, so often as you like, from a on and below b. -/
inductive Sw (a b : Nat) : (Nat → Nat) → (Nat → Nat) → Prop
  | refl (f : Nat → Nat) : Sw a b f f
  | step {f g : Nat → Nat} (i j : Nat) (h : Sw a b f g) (ia : a ≤ i) (ib : i < b) (ja : a ≤ j) (jb : j < b) : Sw a b f (swp g i j)

theorem swp_out {f : Nat → Nat} {i j k : Nat} (hi : k ≠ i) (hj : k ≠ j) : swp f i j k = f k := by unfold swp; rw [if_neg hi, if_neg hj]
theorem swp_left (f : Nat → Nat) (i j : Nat) : swp f i j i = f j := by unfold swp; rw [if_pos rfl]
theorem swp_right (f : Nat → Nat) (i j : Nat) : swp f i j j = f i := by
  unfold swp
  by_cases h : j = i
  · rw [if_pos h, h]
  · rw [if_neg h, if_pos rfl]

section
variable {a b : Nat} {f g h : Nat → Nat}
theorem Sw.trans (p : Sw a b f g) (q : Sw a b g h) : Sw a b f h := by
  induction q with
  | refl => exact p
  | step i j _ ia ib ja jb ih => exact ih.step i j ia ib ja jb
theorem Sw.mono {a2 b2 : Nat} (p : Sw a b f g) (ha : a2 ≤ a) (hb : b ≤ b2) : Sw a2 b2 f g := by
  induction p with
  | refl => exact Sw.refl _
  | step i j _ ia ib ja jb ih => exact ih.step i j (by omega) (by omega) (by omega) (by omega)
theorem Sw.out (p : Sw a b f g) {k : Nat} (hk : k < a ∨ b ≤ k) : g k = f k := by
  induction p with
  | refl => rfl
  | step i j _ ia ib ja jb ih => rw [swp_out (by omega) (by omega), ih]
/-- What is there now was there. -/
theorem Sw.was (p : Sw a b f g) : ∀ k, a ≤ k → k < b → ∃ k', a ≤ k' ∧ k' < b ∧ g k = f k' := by
  induction p with
  | refl => exact fun k h1 h2 => ⟨k, h1, h2, rfl⟩
  | step i j _ ia ib ja jb ih =>
    intro k h1 h2
    unfold swp
    split
    · exact ih j ja jb
    · split
      · exact ih i ia ib
      · exact ih k h1 h2
/-- What was there is there. -/
theorem Sw.is (p : Sw a b f g) : ∀ k, a ≤ k → k < b → ∃ k', a ≤ k' ∧ k' < b ∧ g k' = f k := by
  induction p with
  | refl => exact fun k h1 h2 => ⟨k, h1, h2, rfl⟩
  | step i j _ ia ib ja jb ih =>
    intro k h1 h2
    obtain ⟨k', h3, h4, e⟩ := ih k h1 h2
    by_cases hi : k' = i
    · subst hi
      exact ⟨j, ja, jb, by rw [swp_right]; exact e⟩
    · by_cases hj : k' = j
      · subst hj
        exact ⟨i, ia, ib, by rw [swp_left]; exact e⟩
      · exact ⟨k', h3, h4, by rw [swp_out hi hj]; exact e⟩
/-- No two alike. -/
def Inj (n : Nat) (f : Nat → Nat) : Prop := ∀ i j, i < n → j < n → f i = f j → i = j
theorem Inj.swp {n i j : Nat} (hf : Inj n f) (hi : i < n) (hj : j < n) : Inj n (swp f i j) := by
  have sg : ∀ k, Go.Proofs.Ytfbojcaedcimcaa.swp f i j k = f (if k = i then j else if k = j then i else k) := fun k => by
    unfold Go.Proofs.Ytfbojcaedcimcaa.swp
    by_cases h1 : k = i
    · rw [if_pos h1, if_pos h1]
    · by_cases h2 : k = j
      · rw [if_neg h1, if_neg h1, if_pos h2, if_pos h2]
      · rw [if_neg h1, if_neg h1, if_neg h2, if_neg h2]
  have lt : ∀ k, k < n → (if k = i then j else if k = j then i else k) < n := fun k hk => by
    split
    · exact hj
    · split
      · exact hi
      · exact hk
  intro x y hx hy e
  rw [sg, sg] at e
  have := hf _ _ (lt x hx) (lt y hy) e
  by_cases x1 : x = i <;> by_cases x2 : x = j <;> by_cases y1 : y = i <;> by_cases y2 : y = j <;> simp only [x1, x2, y1, y2, if_true, if_false] at this <;> first | omega | (simp at this; omega) | (subst_vars; simp_all)
theorem Sw.inj {n : Nat} (p : Sw a b f g) (hb : b ≤ n) (hf : Inj n f) : Inj n g := by
  induction p with
  | refl => exact hf
  | step i j _ ia ib ja jb ih => exact ih.swp (by omega) (by omega)
end

/-- A row of numbers in a block of its own. -/
def uV (f : Nat → Nat) : Nat → Value := fun o => .int .u64 ((f o : Nat) : Int)
def Row (n : Nat) (w : World) (g : Nat) (f : Nat → Nat) : Prop := Cel n w g (uV f)

theorem Row.keep {n g : Nat} {w w' : World} {f : Nat → Nat} {F : Nat → Prop} (h : Row n w g f) (hk : Keep F w w') (hF : ¬ F g) : Row n w' g f := Cel.keep h hk hF
theorem Row.drewN {n g : Nat} {w : World} {f : Nat → Nat} (h : Row n w g f) (q : Nat) : Row n (w.drewN q) g f := Cel.drewN h q
theorem Row.drew {n g : Nat} {w : World} {f : Nat → Nat} (h : Row n w g f) : Row n w.drew g f := Cel.drew h
theorem Row.at {n g : Nat} {w : World} {f : Nat → Nat} (h : Row n w g f) {i : Nat} (hi : i < n) : w.cell? ⟨g, i, none⟩ = some (.int .u64 ((f i : Nat) : Int)) := h.c i hi
theorem Row.swp {n g i j : Nat} {w : World} {f : Nat → Nat} (h : Row n w g f) : Row n ((w.setCell ⟨g, i, none⟩ (.int .u64 ((f j : Nat) : Int))).setCell ⟨g, j, none⟩ (.int .u64 ((f i : Nat) : Int))) g (swp f i j) := by
  refine ((Cel.put h i _).put j _).conv (fun o ho => ?_)
  unfold updc uV Go.Proofs.Ytfbojcaedcimcaa.swp
  by_cases h1 : o = j
  · subst h1
    rw [if_pos rfl]
    by_cases h2 : o = i
    · rw [if_pos h2, h2]
    · rw [if_neg h2, if_pos rfl]
  · rw [if_neg h1]
    by_cases h2 : o = i
    · rw [if_pos h2, if_pos h2]
    · rw [if_neg h2, if_neg h2, if_neg h1]

/-- The same memory. -/
def Alike (A B : World) : Prop := B.heap = A.heap ∧ B.os = A.os ∧ B.tape = A.tape ∧ B.output = A.output
theorem Alike.keep {A B C : World} {F : Nat → Prop} (h : Alike B C) (k : Keep F A B) : Keep F A C :=
  ⟨h.2.1.trans k.os, h.2.2.1.trans k.tape, h.2.2.2.trans k.output, by rw [h.1]; exact k.size, fun i hi hn => by rw [h.1]; exact k.block i hi hn⟩
theorem Alike.row {n g : Nat} {A B : World} {f : Nat → Nat} (h : Alike A B) (k : Row n A g f) : Row n B g f := k.keep (F := fun _ => False) (h.keep (Keep.refl _ A)) id

/-- What a call leaves that exchanges from a on and below b: no result. -/
def SwPost (n g a b : Nat) (f : Nat → Nat) (W : World) (Q : (Nat → Nat) → Prop) (e : Ending) (w : World) : Prop :=
  e = .returned (.tuple #[]) ∧ ∃ f', Sw a b f f' ∧ Q f' ∧ Row n w g f' ∧ Keep (fun j => j = g) W w
/-- In order, from a on and below b. -/
def Srt (a b : Nat) (f : Nat → Nat) : Prop := ∀ i j, a ≤ i → i < j → j < b → f i < f j

theorem wrapN {z : Int} (h : -9223372036854775808 ≤ z ∧ z ≤ 9223372036854775807) : IntKind.i64.wrap z = z := by
  simp only [IntKind.wrap, IntKind.bits, IntKind.signed]
  simp
  omega

end Go.Proofs.Ytfbojcaedcimcaa

/-
  Append onto a row of one's own that begins somewhere in its block.
-/
namespace Go.Proofs.Ytfbojcaedcimcaa
open Go.RowKit

/-- A slice of one-cell elements in a block of one's own, from wherever in it. -/
def OwnAt (w : World) (base : Nat) (e : TypeId) (v : Value) (n : Nat) (xs : List Value) : Prop :=
  xs.length = n ∧ ((v = .slice none 0 0 ∧ n = 0) ∨
    ∃ g off cap cur, v = .slice (some ⟨g, off, none⟩) n cap ∧ base ≤ g ∧ w.heap[g]? = some (.cells cur e (0, 0)) ∧ n ≤ cap ∧ cap ≤ maxLen ∧ off + cap ≤ cur.size ∧ (cur.toList.drop off).take n = xs)
theorem own_at {w : World} {base : Nat} {e : TypeId} {v : Value} {n : Nat} {xs : List Value} (h : w.ownsRow base e 1 v n xs) : OwnAt w base e v n xs := by
  obtain ⟨h1, h2⟩ := h
  rw [Nat.mul_one] at h1
  refine ⟨h1, ?_⟩
  rcases h2 with h2 | ⟨g, cap, cur, hv, hb, hg, hn, hm, hs, hx⟩
  · exact Or.inl h2
  · rw [Nat.mul_one] at hs hx
    exact Or.inr ⟨g, 0, cap, cur, hv, hb, hg, hn, hm, by omega, by simpa using hx⟩
section
variable {w w' : World} {base n : Nat} {e : TypeId} {v : Value} {xs : List Value}
theorem OwnAt.lt (h : OwnAt w base e v n xs) : ∀ k, v.ownBlock = some k → base ≤ k ∧ k < w.heap.size := by
  intro k hk
  rcases h.2 with ⟨rfl, _⟩ | ⟨g, off, cap, cur, rfl, hb, hg, _⟩
  · cases hk
  · cases hk
    exact ⟨hb, (Array.getElem?_eq_some_iff.1 hg).1⟩
theorem OwnAt.carry (h : OwnAt w base e v n xs) (hb : ∀ k, v.ownBlock = some k → w'.heap[k]? = w.heap[k]?) : OwnAt w' base e v n xs := by
  refine ⟨h.1, ?_⟩
  rcases h.2 with h2 | ⟨g, off, cap, cur, rfl, h2, hg, hr⟩
  · exact Or.inl h2
  · exact Or.inr ⟨g, off, cap, cur, rfl, h2, by rw [hb g rfl]; exact hg, hr⟩
/-- It, read. -/
theorem OwnAt.cells {a : Addr} {cap : Nat} (h : OwnAt w base e (.slice (some a) n cap) n xs) : ∀ j u, xs[j]? = some u → w.cell? (a.add j) = some u := by
  intro j u hu
  rcases h.2 with ⟨hv, _⟩ | ⟨g, off, cap2, cur, hv, _, hg, _, _, _, hx⟩
  · cases hv
  · cases hv
    rw [Addr.add_lit, cell_of_row w g (off + j) cur e (0, 0) hg]
    rw [← hx, List.getElem?_take] at hu
    split at hu
    · rw [List.getElem?_drop] at hu
      simpa using hu
    · cases hu
/-- Without its first. -/
theorem OwnAt.tail {g off cap : Nat} {x : Value} {t : List Value} (h : OwnAt w base e (.slice (some ⟨g, off, none⟩) (n + 1) cap) (n + 1) (x :: t)) :
    OwnAt w base e (.slice (some ⟨g, if cap = 1 then off else off + 1, none⟩) n (cap - 1)) n t := by
  obtain ⟨h1, h2⟩ := h
  have hl : t.length = n := by simpa using h1
  refine ⟨hl, ?_⟩
  rcases h2 with ⟨hv, _⟩ | ⟨g2, off2, cap2, cur, hv, hb, hg, hn, hm, hs, hx⟩
  · cases hv
  · cases hv
    refine Or.inr ⟨g, _, _, cur, rfl, hb, hg, by omega, by omega, ?_, ?_⟩
    · split <;> omega
    · by_cases hc : cap = 1
      · obtain rfl : n = 0 := by omega
        rw [List.take_zero]
        exact (List.eq_nil_of_length_eq_zero hl).symm
      · rw [if_neg hc]
        have h3 : off < cur.toList.length := by rw [Array.length_toList]; omega
        rw [List.drop_eq_getElem_cons h3, List.take_succ_cons] at hx
        exact (List.cons.inj hx).2
theorem run_append_off {P : Program} (t ty : TypeId) (i : TypeInfo) (z : Value) (bytes : Nat) (ht : P.underlying t = some (.slice e)) (hi : P.info? e = some i) (hz : i.zero = some z)
    (hsize : i.size = 1) (hby : i.bytes = bytes) (hzs : z.cells.size = 1) (hown : OwnAt w base e v n xs)
    (a : Addr) (m c : Nat) (news : List Value) (hl : news.length = m) (hnews : ∀ j u, news[j]? = some u → w.cell? (a.add j) = some u) (h1 : ∀ u ∈ news, u.oneCell' = true)
    (h63 : n + m ≤ maxLen) (hbytes : (n + m) * bytes ≤ 140737488355328) (hbase : base ≤ w.heap.size) :
    ∃ v' w', (Builtin.append_ #[t, t] ty #[v, .slice (some a) m c]).run P w = .ok v' w' ∧ OwnAt w' base e v' (n + m) (xs ++ news) ∧ w.grownBy w' v.ownBlock ∧
      (∀ k, v'.ownBlock = some k → v.ownBlock = some k ∨ w.heap.size ≤ k) := by
  have hl1 : news.length = m * i.size := by rw [hsize, Nat.mul_one, hl]
  have hsmall : n + m ≤ 9223372036854775807 := by simp only [maxLen] at h63; omega
  rcases hown.2 with ⟨rfl, rfl⟩ | ⟨g, off, cap, cur, rfl, hbg, hg, hnc, hcm, hcs, htake⟩
  · have hx : xs = [] := List.eq_nil_of_length_eq_zero hown.1
    subst hx
    obtain ⟨v', w', hr, h2, h3, _⟩ := run_append_own (P := P) w w.heap.size t ty e i z 1 bytes ht hi hz hsize hby hzs (by decide) _ 0 [] (World.ownsRow_nil w _ e 1) a m c news (by rw [Nat.mul_one, hl]) hnews h1 h63 hbytes (Nat.le_refl _)
    have h4 := own_at h2
    refine ⟨v', w', hr, ⟨h4.1, ?_⟩, h3, fun k hk => Or.inr (h4.lt k hk).1⟩
    rcases h4.2 with h5 | ⟨g, off, cap, cur, hv, hb, hr2⟩
    · exact Or.inl h5
    · exact Or.inr ⟨g, off, cap, cur, hv, Nat.le_trans hbase hb, hr2⟩
  · have hxl := hown.1
    by_cases hroom : n + m ≤ cap
    · have hf := run_firstCells_some (P := P) w i.size m a m c news hl1 hnews
      have hst := run_storeCells_at P g (off + n) e news 0 cur w hg (by omega) h1
      simp only [Nat.add_zero] at hst
      rw [hsize] at hf
      have hr : (Builtin.append_ #[t, t] ty #[.slice (some ⟨g, off, none⟩) n cap, .slice (some a) m c]).run P w = .ok (.slice (some ⟨g, off, none⟩) (n + m) cap) (w.setRow g (cur.toList.take (off + n) ++ news ++ cur.toList.drop (off + n + news.length)).toArray) := by
        generalize w.setRow g (cur.toList.take (off + n) ++ news ++ cur.toList.drop (off + n + news.length)).toArray = W2 at hst ⊢
        simp [Builtin.append_, run_underlying ht, sizeOf, typeInfo, hi, Builtin.lenOf, hroom, hsize, hf, Addr.add_lit, hst]
      refine ⟨.slice (some ⟨g, off, none⟩) (n + m) cap, w.setRow g (cur.toList.take (off + n) ++ news ++ cur.toList.drop (off + n + news.length)).toArray, hr, ⟨by rw [List.length_append, hxl, hl], Or.inr ⟨g, off, cap, _, rfl, hbg, setRow_heap w g cur _ e _ hg, hroom, hcm, ?_, ?_⟩⟩, ⟨rfl, rfl, rfl, by simp, fun k _ hk => setRow_other w g k _ (fun e => hk (by simp [Value.ownBlock, e]))⟩, fun k hk => Or.inl hk⟩
      · simp only [List.size_toArray, List.length_append, List.length_take, List.length_drop, Array.length_toList]
        omega
      · have e1 : (cur.toList.take (off + n)).drop off = xs := by
          rw [List.drop_take, show off + n - off = n by omega]
          exact htake
        rw [List.append_assoc, List.drop_append_of_le_length (by rw [List.length_take, Array.length_toList]; omega), e1, ← List.append_assoc]
        rw [show n + m = (xs ++ news).length by rw [List.length_append, hxl, hl]]
        exact List.take_left
    · have holds : ∀ j u, xs[j]? = some u → w.cell? ((⟨g, off, none⟩ : Addr).add j) = some u := hown.cells
      have hr := run_append_grow (P := P) w t ty e i z ht hi hz ⟨g, off, none⟩ n cap xs (by rw [hsize, Nat.mul_one, hxl]) holds a m c news hl1 hnews (by omega) (by omega) (growslice_fits (by omega) (by rw [hby]; exact hbytes))
      have hge := grownCap_ge w (n + m) cap e
      have hcm2 : grownCap w (n + m) cap e ≤ maxLen := grownCap_le_maxLen w (n + m) cap e h63
      refine ⟨_, _, hr, ⟨by rw [List.length_append, hxl, hl], Or.inr ⟨w.heap.size, 0, _, _, rfl, hbase, heap_alloc_new w.drew _, hge, hcm2, ?_, ?_⟩⟩, ⟨rfl, rfl, rfl, by simp, fun k hk _ => (_root_.Go.heap_alloc_old w.drew _ (show k < w.drew.heap.size from hk)).trans rfl⟩, fun k hk => Or.inr (by cases hk; exact Nat.le_refl _)⟩
      · simp only [Array.size_append, List.size_toArray, size_zeroCells, hzs, hxl, hl]
        omega
      · simp only [Array.toList_append, List.drop_zero]
        rw [show n + m = (xs ++ news).length by rw [List.length_append, hxl, hl]]
        exact List.take_left
/-- Its form. -/
theorem OwnAt.form (h : OwnAt w base e v n xs) : ∃ a cap, v = .slice a n cap := by
  rcases h.2 with ⟨rfl, rfl⟩ | ⟨g, off, cap, cur, rfl, _⟩
  · exact ⟨none, 0, rfl⟩
  · exact ⟨_, _, rfl⟩
theorem run_append_off_none {P : Program} (t ty : TypeId) (i : TypeInfo) (ht : P.underlying t = some (.slice e)) (hi : P.info? e = some i) (hown : OwnAt w base e v n xs) :
    (Builtin.append_ #[t, t] ty #[v, .slice none 0 0]).run P w = .ok v w := by
  rcases hown.2 with ⟨rfl, rfl⟩ | ⟨g, off, cap, cur, rfl, _, _, hnc, _⟩
  · simp [Builtin.append_, run_underlying ht, sizeOf, typeInfo, hi, Builtin.lenOf, Builtin.firstCells]
  · simp [Builtin.append_, run_underlying ht, sizeOf, typeInfo, hi, Builtin.lenOf, Builtin.firstCells, hnc, storeCells]
/-- Append of whatever, nil too, outside a region. -/
theorem wpList_append_off {P : Program} {ops : Array Oper} {rest : List Oper} {o : Oper} {a : Act} {Q : Exit → Act → World → Prop} (hgd : o.guard = none) (s x : Operand) (t : TypeId)
    (ho : o.op = .call { callee := .builtin .append, args := #[s, x], argTypes := #[t, t] })
    (i : TypeInfo) (z : Value) (bytes : Nat) (ht : P.underlying t = some (.slice e)) (hi : P.info? e = some i) (hz : i.zero = some z) (hsize : i.size = 1) (hby : i.bytes = bytes) (hzs : z.cells.size = 1)
    (hs : a.eval s = v) (hown : OwnAt w base e v n xs)
    (ao : Option Addr) (m c : Nat) (news : List Value) (hx : a.eval x = .slice ao m c) (hl : news.length = m) (hnone : ao = none → m = 0 ∧ c = 0) (hnews : ∀ ad, ao = some ad → ∀ j u, news[j]? = some u → w.cell? (ad.add j) = some u) (h1 : ∀ u ∈ news, u.oneCell' = true)
    (h63 : n + m ≤ maxLen) (hbytes : (n + m) * bytes ≤ 140737488355328) (hbase : base ≤ w.heap.size)
    (h : ∀ v' w', OwnAt w' base e v' (n + m) (xs ++ news) → w.grownBy w' v.ownBlock → (∀ k, v'.ownBlock = some k → v.ownBlock = some k ∨ w.heap.size ≤ k) → wpList P ops Q rest (a.put o.dst v') w') : wpList P ops Q (o :: rest) a w := by
  refine wpList_plain hgd fun K hK => ?_
  cases ao with
  | some ad =>
    obtain ⟨v', w', hr, h2, h3, h4⟩ := run_append_off (P := P) t o.type i z bytes ht hi hz hsize hby hzs hown ad m c news hl (hnews ad rfl) h1 h63 hbytes hbase
    unfold Oper.wp execOp
    simp only [ho, resolve, invoke, builtin, Sem.run_bind, Sem.run_pure, Result.andThen_ok, List.map_toArray, List.map_cons, List.map_nil, hs, hx, hr]
    exact hK _ _ (h v' w' h2 h3 h4)
  | none =>
    obtain ⟨rfl, rfl⟩ := hnone rfl
    obtain rfl : news = [] := List.eq_nil_of_length_eq_zero hl
    have hr := run_append_off_none (P := P) t o.type i ht hi hown
    unfold Oper.wp execOp
    simp only [ho, resolve, invoke, builtin, Sem.run_bind, Sem.run_pure, Result.andThen_ok, List.map_toArray, List.map_cons, List.map_nil, hs, hx, hr]
    exact hK _ _ (h v w (by simpa using hown) (World.grownBy.refl _ _) (fun _ e => Or.inl e))
/-- The same as a step of a region. -/
theorem step_append_off {P : Program} {ops : Array Oper} {o : Oper} {a : Act} {K : Act → World → Prop} {Q : Exit → Act → World → Prop} {E : Prop} (hgd : o.guard = none) (s x : Operand) (t : TypeId)
    (ho : o.op = .call { callee := .builtin .append, args := #[s, x], argTypes := #[t, t] })
    (i : TypeInfo) (z : Value) (bytes : Nat) (ht : P.underlying t = some (.slice e)) (hi : P.info? e = some i) (hz : i.zero = some z) (hsize : i.size = 1) (hby : i.bytes = bytes) (hzs : z.cells.size = 1)
    (hs : a.eval s = v) (hown : OwnAt w base e v n xs)
    (ao : Option Addr) (m c : Nat) (news : List Value) (hx : a.eval x = .slice ao m c) (hl : news.length = m) (hnone : ao = none → m = 0 ∧ c = 0) (hnews : ∀ ad, ao = some ad → ∀ j u, news[j]? = some u → w.cell? (ad.add j) = some u) (h1 : ∀ u ∈ news, u.oneCell' = true)
    (h63 : n + m ≤ maxLen) (hbytes : (n + m) * bytes ≤ 140737488355328) (hbase : base ≤ w.heap.size)
    (h : ∀ a' cap w', OwnAt w' base e (.slice a' (n + m) cap) (n + m) (xs ++ news) → w.grownBy w' v.ownBlock → (∀ k, (Value.slice a' (n + m) cap).ownBlock = some k → v.ownBlock = some k ∨ w.heap.size ≤ k) → K (a.put o.dst (.slice a' (n + m) cap)) w') :
    if Region.wanted o (yielded ops a.tmps) = true then Oper.wp P o a w K Q else E := by
  have hw : Region.wanted o (yielded ops a.tmps) = true := by simp [Region.wanted, hgd]
  rw [if_pos hw]
  cases ao with
  | some ad =>
    obtain ⟨v', w', hr, h2, h3, h4⟩ := run_append_off (P := P) t o.type i z bytes ht hi hz hsize hby hzs hown ad m c news hl (hnews ad rfl) h1 h63 hbytes hbase
    obtain ⟨a', cap, rfl⟩ := h2.form
    unfold Oper.wp execOp
    simp only [ho, resolve, invoke, builtin, Sem.run_bind, Sem.run_pure, Result.andThen_ok, List.map_toArray, List.map_cons, List.map_nil, hs, hx, hr]
    exact h a' cap w' h2 h3 h4
  | none =>
    obtain ⟨rfl, rfl⟩ := hnone rfl
    obtain rfl : news = [] := List.eq_nil_of_length_eq_zero hl
    have hr := run_append_off_none (P := P) t o.type i ht hi hown
    obtain ⟨a', cap, rfl⟩ := hown.form
    unfold Oper.wp execOp
    simp only [ho, resolve, invoke, builtin, Sem.run_bind, Sem.run_pure, Result.andThen_ok, List.map_toArray, List.map_cons, List.map_nil, hs, hx, hr]
    exact h a' cap w (by simpa using hown) (World.grownBy.refl _ _) (fun _ e => Or.inl e)
end

end Go.Proofs.Ytfbojcaedcimcaa
