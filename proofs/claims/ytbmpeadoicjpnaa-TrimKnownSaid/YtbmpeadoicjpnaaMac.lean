/-
  Texts of this claim, put together.
-/
import Derived.Test.YtbmpeadoicjpnaaMaa
import Derived.Deep.AppendLies
import Derived.Deep.MidRow
import Derived.Deep.Draws
import Derived.Laws.AppendOwnNone
import Derived.Laws.BytesArg
import Derived.OwnWalk
import Derived.OneCell

/-
  Which of the memory a call may turn; what it owns; append onto it.
-/
namespace Go.Proofs.Ytbmpeadoicjpnaa
open Go.RowKit

theorem ret_b {a b : Bool} (h : a = b) : Ending.returned (.bool a) = .returned (.bool b) := by rw [h]

/-- All but the blocks of F is as it was. -/
structure Keep (F : Nat → Prop) (w w' : World) : Prop where
  os : w'.os = w.os
  tape : w'.tape = w.tape
  output : w'.output = w.output
  size : w.heap.size ≤ w'.heap.size
  block : ∀ k, k < w.heap.size → ¬ F k → w'.heap[k]? = w.heap[k]?

theorem Keep.refl (F : Nat → Prop) (w : World) : Keep F w w := ⟨rfl, rfl, rfl, Nat.le_refl _, fun _ _ _ => rfl⟩

theorem Keep.trans {F G : Nat → Prop} {a b c : World} (h : Keep F a b) (k : Keep G b c) (hG : ∀ i, i < a.heap.size → G i → F i) : Keep F a c :=
  ⟨k.os.trans h.os, k.tape.trans h.tape, k.output.trans h.output, Nat.le_trans h.size k.size, fun i hi hn => (k.block i (Nat.lt_of_lt_of_le hi h.size) (fun g => hn (hG i hi g))).trans (h.block i hi hn)⟩

theorem Keep.mono {F G : Nat → Prop} {a b : World} (h : Keep F a b) (hG : ∀ i, F i → G i) : Keep G a b :=
  ⟨h.os, h.tape, h.output, h.size, fun i hi hn => h.block i hi (fun f => hn (hG i f))⟩

theorem Keep.drewN {F : Nat → Prop} {a b : World} (h : Keep F a b) (q : Nat) : Keep F a (b.drewN q) := ⟨h.os, h.tape, h.output, h.size, h.block⟩

theorem Keep.drew {F : Nat → Prop} {a b : World} (h : Keep F a b) : Keep F a b.drew := ⟨h.os, h.tape, h.output, h.size, h.block⟩

theorem Keep.alloc {F : Nat → Prop} {a b : World} (h : Keep F a b) (o : Obj) : Keep F a (b.alloc o) :=
  h.trans (G := fun _ => False) ⟨rfl, rfl, rfl, by simp, fun k hk _ => Below.heap_alloc _ _ _ hk⟩ (fun _ _ f => f.elim)

theorem Keep.setCell {F : Nat → Prop} {a b : World} (h : Keep F a b) {p : Addr} (hp : F p.block) (u : Value) : Keep F a (b.setCell p u) :=
  h.trans (G := fun i => i = p.block) ⟨rfl, rfl, rfl, by simp [World.setCell], fun k hk hn => Below.heap_setCell _ _ _ _ hn⟩ (fun _ _ e => e ▸ hp)

theorem Keep.below {F : Nat → Prop} {a b : World} {N : Nat} (h : Keep F a b) (hN : N ≤ a.heap.size) (hF : ∀ k, F k → N ≤ k) : Below N a b :=
  ⟨h.os, h.tape, h.output, h.size, fun k hk => h.block k (by omega) (fun f => by have := hF k f; omega)⟩

theorem Keep.ofBelow {F : Nat → Prop} {a b : World} (h : Below a.heap.size a b) : Keep F a b := ⟨h.os, h.tape, h.output, h.size, fun k hk _ => h.block k hk⟩

theorem Keep.cell {F : Nat → Prop} {a b : World} (h : Keep F a b) {p : Addr} (hp : p.block < a.heap.size) (hn : ¬ F p.block) : b.cell? p = a.cell? p := World.cell?_of_block (w := a) (h.block p.block hp hn)

theorem Keep.frozen {F : Nat → Prop} {a b : World} (h : Keep F a b) {p : Addr} (hp : p.block < a.heap.size) (hn : ¬ F p.block) : b.frozen? p = a.frozen? p := World.frozen?_of_block (w := a) (h.block p.block hp hn)

theorem Keep.grown {F : Nat → Prop} {a b c : World} {row : Option Nat} (h : Keep F a b) (hg : b.grownBy c row) (hr : ∀ k, row = some k → F k ∨ a.heap.size ≤ k) : Keep F a c :=
  h.trans (G := fun i => row = some i) ⟨hg.os, hg.tape, hg.output, hg.size, fun k hk hn => hg.block k hk (fun e => hn e.symm)⟩ (fun i hi e => (hr i e).elim id (fun h => by omega))

theorem own_carry {w w' : World} {base e size n : Nat} {v : Value} {xs : List Value} (h : w.ownsRow base e size v n xs) (hb : ∀ k, v.ownBlock = some k → w'.heap[k]? = w.heap[k]?) : w'.ownsRow base e size v n xs := by
  obtain ⟨h1, h2⟩ := h
  refine ⟨h1, ?_⟩
  rcases h2 with h2 | ⟨g, cap, cur, rfl, hg, hh, r⟩
  · exact Or.inl h2
  · exact Or.inr ⟨g, cap, cur, rfl, hg, by rw [hb g rfl]; exact hh, r⟩

theorem own_form {w : World} {base : Nat} {e : TypeId} {size : Nat} {v : Value} {n : Nat} {xs : List Value} (h : w.ownsRow base e size v n xs) : ∃ a cap, v = .slice a n cap := by
  rcases h.2 with ⟨rfl, rfl⟩ | ⟨g, cap, cur, rfl, _⟩
  · exact ⟨none, 0, rfl⟩
  · exact ⟨_, cap, rfl⟩

theorem own_mono {w : World} {base base' : Nat} {e : TypeId} {size : Nat} {v : Value} {n : Nat} {xs : List Value} (h : w.ownsRow base e size v n xs) (hb : base' ≤ base) : w.ownsRow base' e size v n xs :=
  ⟨h.1, h.2.imp id fun ⟨g, cap, cur, h1, h2, h3⟩ => ⟨g, cap, cur, h1, Nat.le_trans hb h2, h3⟩⟩

/-- append onto what the call owns, whatever is appended: nil, empty, or not; and where it then lies. -/
theorem wpList_append_at {P : Program} {w : World} {ops : Array Oper} {rest : List Oper} {o : Oper} {a : Act} {Q : Exit → Act → World → Prop} (hgd : o.guard = none) (s x : Operand) (t : TypeId)
    (ho : o.op = .call { callee := .builtin .append, args := #[s, x], argTypes := #[t, t] })
    (base : Nat) (e : TypeId) (i : TypeInfo) (z : Value) (size bytes : Nat) (ht : P.underlying t = some (.slice e)) (hi : P.info? e = some i) (hz : i.zero = some z)
    (hsize : i.size = size) (hby : i.bytes = bytes) (hzs : z.cells.size = size) (hsz : 0 < size)
    (v : Value) (n : Nat) (xs : List Value) (hs : a.eval s = v) (hown : w.ownsRow base e size v n xs)
    (ao : Option Addr) (m c : Nat) (news : List Value) (hx : a.eval x = .slice ao m c) (hl : news.length = m * size) (hnone : ao = none → m = 0 ∧ c = 0) (hnews : ∀ ad, ao = some ad → ∀ j u, news[j]? = some u → w.cell? (ad.add j) = some u) (h1 : ∀ u ∈ news, u.oneCell' = true)
    (h63 : n + m ≤ maxLen) (hbytes : (n + m) * bytes ≤ 140737488355328) (hbase : base ≤ w.heap.size)
    (h : ∀ v' w', w'.ownsRow base e size v' (n + m) (xs ++ news) → w.grownBy w' v.ownBlock → (∀ k, v'.ownBlock = some k → v.ownBlock = some k ∨ w.heap.size ≤ k) → wpList P ops Q rest (a.put o.dst v') w') : wpList P ops Q (o :: rest) a w := by
  cases ao with
  | some ad =>
    refine wpList_plain hgd fun K hK => ?_
    obtain ⟨v', w', hr, h2, h3, _, h5⟩ := run_append_own_at (P := P) w base t o.type e i z size bytes ht hi hz hsize hby hzs hsz v n xs hown ad m c news hl (hnews ad rfl) h1 h63 hbytes hbase
    have hat : ∀ k, v'.ownBlock = some k → v.ownBlock = some k ∨ w.heap.size ≤ k := by
      intro k hk
      rcases h5 with h5 | h5
      · exact Or.inl (by rw [← h5]; exact hk)
      · exact Or.inr (Nat.le_of_eq (Option.some.inj (h5.symm.trans hk)))
    unfold Oper.wp execOp
    simp only [ho, resolve, invoke, builtin, Sem.run_bind, Sem.run_pure, Result.andThen_ok, List.map_toArray, List.map_cons, List.map_nil, hs, hx, hr]
    exact hK _ _ (h v' w' h2 h3 hat)
  | none =>
    obtain ⟨rfl, rfl⟩ := hnone rfl
    have hn : news = [] := List.eq_nil_of_length_eq_zero (by simpa using hl)
    subst hn
    exact wpList_append_own_none hgd s x t ho base e i size ht hi v n xs hs hown hx (h v w (by simpa using hown) (World.grownBy.refl _ _) (fun _ e => Or.inl e))

theorem cell_other {w : World} {p i j : Nat} {u : Value} (h : i ≠ j) : (w.setCell ⟨p, j, none⟩ u).cell? ⟨p, i, none⟩ = w.cell? ⟨p, i, none⟩ :=
  World.cell?_setCell_other (h := fun e => h (by simpa using congrArg Addr.off e.symm)) ..

end Go.Proofs.Ytbmpeadoicjpnaa

/-
  Slices of values of one cell each, in memory.
-/
namespace Go.Proofs.Ytbmpeadoicjpnaa
open Go.RowKit

/-- A slice value (its address a, its capacity) holds vs. -/
structure SlV (w : World) (a : Option Addr) (cap : Nat) (vs : List Value) : Prop where
  fit : vs.length ≤ cap
  max : cap ≤ maxLen
  nil : a = none → cap = 0
  cell : ∀ i (h : i < vs.length), ∃ b off, a = some ⟨b, off, none⟩ ∧ b < w.heap.size ∧ w.cell? ⟨b, off + i, none⟩ = some vs[i]

theorem SlV.below {w w' : World} {a : Option Addr} {cap : Nat} {vs : List Value} (h : SlV w a cap vs) (hb : Below w.heap.size w w') : SlV w' a cap vs :=
  ⟨h.fit, h.max, h.nil, fun i hi => by
    obtain ⟨b, off, e, hl, hc⟩ := h.cell i hi
    exact ⟨b, off, e, Nat.lt_of_lt_of_le hl hb.size, (hb.cell (p := ⟨b, off + i, none⟩) hl).trans hc⟩⟩

theorem SlV.none (w : World) : SlV w none 0 [] :=
  ⟨by simp, by unfold maxLen; omega, fun _ => rfl, fun i h => by simp at h⟩

/-- A cell of numbers. -/
theorem SlV.at {α : Type} {f : α → Value} {w : World} {a : Option Addr} {cap : Nat} {xs : List α} (h : SlV w a cap (xs.map f)) (i : Nat) (hi : i < xs.length) : ∃ b off, a = some ⟨b, off, Option.none⟩ ∧ b < w.heap.size ∧ w.cell? ⟨b, off + i, Option.none⟩ = some (f xs[i]) := by
  obtain ⟨b, off, e, hl, hc⟩ := h.cell i (by simpa using hi)
  exact ⟨b, off, e, hl, by rw [hc]; simp⟩

/-- What the call itself has made. -/
theorem own_slv {w : World} {base : Nat} {e : TypeId} {v : Value} {n : Nat} {vs : List Value} (h : w.ownsRow base e 1 v n vs) : n = vs.length ∧ ∃ a cap, v = .slice a vs.length cap ∧ SlV w a cap vs := by
  have hn : n = vs.length := by have := h.1; simp at this; omega
  subst hn
  refine ⟨rfl, ?_⟩
  rcases h.2 with ⟨rfl, e⟩ | ⟨g, cap, cur, rfl, _, hg, h1, h2, _⟩
  · obtain rfl : vs = [] := List.length_eq_zero_iff.1 e
    exact ⟨Option.none, 0, rfl, SlV.none _⟩
  · refine ⟨some ⟨g, 0, Option.none⟩, cap, rfl, h1, h2, fun e => by simp at e, fun i hi => ⟨g, 0, rfl, (Array.getElem?_eq_some_iff.1 hg).1, ?_⟩⟩
    rw [Nat.zero_add, h.cellAt i (by omega), List.getElem?_eq_getElem hi]

/-- A slice that is written out in the text. -/
theorem slv_lit (w : World) (vs : List Value) (cs : Array Value) (t : TypeId) (n : Nat) (hcs : cs = vs.toArray) (hn : vs.length = n) (hm : n ≤ maxLen) : SlV (w.alloc (.cells cs t)) (some ⟨w.heap.size, 0, none⟩) n vs := by
  subst hcs hn
  refine ⟨Nat.le_refl _, hm, (fun e => by cases e), fun i hi => ⟨w.heap.size, 0, rfl, by simp, ?_⟩⟩
  rw [Nat.zero_add]
  have h := World.news_of_block (cs := vs.toArray) (fr := (0, 0)) (heap_alloc_new w (.cells vs.toArray t)) i vs[i] (by simp [List.getElem?_eq_getElem hi])
  rw [Addr.add_lit, Nat.zero_add] at h
  exact h

theorem own_below {B : Nat} {e : TypeId} {k : Nat} {v : Value} {n : Nat} {xs : List Value} {w w' : World} (h : w.ownsRow B e k v n xs) (hb : Below w.heap.size w w') : w'.ownsRow B e k v n xs :=
  h.kept (row := none) ⟨hb.os, hb.tape, hb.output, hb.size, fun j hj _ => hb.block j hj⟩ (by cases hv : v.ownBlock <;> simp)

theorem SlV.take {w : World} {a : Option Addr} {cap : Nat} {vs : List Value} (h : SlV w a cap vs) (k : Nat) : SlV w a cap (vs.take k) :=
  ⟨Nat.le_trans (by simp; omega) h.fit, h.max, h.nil, fun i hi => by
    have hi' : i < vs.length := by simp at hi; omega
    obtain ⟨b, off, e, hl, hc⟩ := h.cell i hi'
    exact ⟨b, off, e, hl, by rw [List.getElem_take]; exact hc⟩⟩
theorem SlV.drop {w : World} {a : Option Addr} {cap : Nat} {vs : List Value} (h : SlV w a cap vs) (k : Nat) (hk : k ≤ vs.length) :
    SlV w (if cap = k then a else a.map (·.add k)) (cap - k) (vs.drop k) := by
  have hf := h.fit
  have hm := h.max
  refine ⟨by simp; omega, by omega, fun e => ?_, fun i hi => ?_⟩
  · by_cases h0 : cap = k
    · omega
    · rw [if_neg h0] at e
      have := h.nil (Option.map_eq_none_iff.1 e)
      omega
  · have hi' : k + i < vs.length := by simp at hi; omega
    obtain ⟨b, off, e, hl, hc⟩ := h.cell (k + i) hi'
    refine ⟨b, off + k, ?_, hl, ?_⟩
    · rw [if_neg (by omega), e]; simp [Addr.add_lit]
    · rw [List.getElem_drop, show off + k + i = off + (k + i) by omega]; exact hc
theorem SlV.news {w : World} {a : Option Addr} {cap : Nat} {vs : List Value} (h : SlV w a cap vs) : ∀ ad, a = some ad → ∀ j u, vs[j]? = some u → w.cell? (ad.add j) = some u := by
  intro ad hd j u hu
  have hj : j < vs.length := (List.getElem?_eq_some_iff.1 hu).1
  obtain ⟨b, off, e, hl, hc⟩ := h.cell j hj
  rw [hd] at e
  cases e
  rw [Addr.add_lit]
  refine hc.trans ?_
  rw [List.getElem?_eq_getElem hj] at hu
  exact hu
theorem SlV.empty {w : World} {a : Option Addr} {cap : Nat} {vs : List Value} (h : SlV w a cap vs) : a = Option.none → vs.length = 0 ∧ cap = 0 := by
  intro e
  have := h.nil e
  have := h.fit
  omega
theorem SlV.carry {w w' : World} {a : Option Addr} {cap : Nat} {vs : List Value} (h : SlV w a cap vs) (hs : w.heap.size ≤ w'.heap.size) (hb : ∀ ad, a = some ad → vs ≠ [] → ad.block < w.heap.size → w'.heap[ad.block]? = w.heap[ad.block]?) : SlV w' a cap vs :=
  ⟨h.fit, h.max, h.nil, fun i hi => by
    obtain ⟨b, off, e, hl, hc⟩ := h.cell i hi
    exact ⟨b, off, e, Nat.lt_of_lt_of_le hl hs, (World.cell?_of_block (w := w) (a := ⟨b, off + i, Option.none⟩) (hb ⟨b, off, Option.none⟩ e (fun h0 => by subst h0; simp at hi) hl)).trans hc⟩⟩

/-- append onto what the call owns, as a step of a region that draws its order; the addend may be empty. -/
theorem step_append_own {P : Program} {ops : Array Oper} {o : Oper} {a : Act} {w : World} {K : Act → World → Prop} {Q : Exit → Act → World → Prop} {E : Prop} (hgd : o.guard = none) (s x : Operand) (t : TypeId)
    (ho : o.op = .call { callee := .builtin .append, args := #[s, x], argTypes := #[t, t] })
    (base : Nat) (e : TypeId) (i : TypeInfo) (z : Value) (size bytes : Nat) (ht : P.underlying t = some (.slice e)) (hi : P.info? e = some i) (hz : i.zero = some z)
    (hsize : i.size = size) (hby : i.bytes = bytes) (hzs : z.cells.size = size) (hsz : 0 < size)
    (v : Value) (n : Nat) (xs : List Value) (hs : a.eval s = v) (hown : w.ownsRow base e size v n xs)
    (ad : Addr) (m c : Nat) (news : List Value) (hx : a.eval x = .slice (some ad) m c) (hl : news.length = m * size) (hnews : ∀ j u, news[j]? = some u → w.cell? (ad.add j) = some u) (h1 : ∀ u ∈ news, u.oneCell' = true)
    (h63 : n + m ≤ maxLen) (hbytes : (n + m) * bytes ≤ 140737488355328) (hbase : base ≤ w.heap.size)
    (h : ∀ a' cap w', w'.ownsRow base e size (.slice a' (n + m) cap) (n + m) (xs ++ news) → w.grownBy w' v.ownBlock → (∀ k, (Value.slice a' (n + m) cap).ownBlock = some k → v.ownBlock = some k ∨ w.heap.size ≤ k) → K (a.put o.dst (.slice a' (n + m) cap)) w') :
    if Region.wanted o (yielded ops a.tmps) = true then Oper.wp P o a w K Q else E := by
  have hw : Region.wanted o (yielded ops a.tmps) = true := by simp [Region.wanted, hgd]
  rw [if_pos hw]
  obtain ⟨v', w', hr, h2, h3, _, h5⟩ := run_append_own_at (P := P) w base t o.type e i z size bytes ht hi hz hsize hby hzs hsz v n xs hown ad m c news hl hnews h1 h63 hbytes hbase
  have hat : ∀ k, v'.ownBlock = some k → v.ownBlock = some k ∨ w.heap.size ≤ k := by
    intro k hk
    rcases h5 with h5 | h5
    · exact Or.inl (by rw [← h5]; exact hk)
    · exact Or.inr (Nat.le_of_eq (Option.some.inj (h5.symm.trans hk)))
  unfold Oper.wp execOp
  simp only [ho, resolve, invoke, builtin, Sem.run_bind, Sem.run_pure, Result.andThen_ok, List.map_toArray, List.map_cons, List.map_nil, hs, hx, hr]
  obtain ⟨a', cap, rfl⟩ := own_form h2
  exact h a' cap w' h2 h3 hat

end Go.Proofs.Ytbmpeadoicjpnaa

/-
  A block of so many cells that nothing else holds.
-/
namespace Go.Proofs.Ytbmpeadoicjpnaa
open Go.RowKit

def updc (V : Nat → Value) (o : Nat) (v : Value) : Nat → Value := fun x => if x = o then v else V x
/-- A block of n cells that nothing else holds. -/
structure Cel (n : Nat) (w : World) (B : Nat) (V : Nat → Value) : Prop where
  c : ∀ o, o < n → w.cell? ⟨B, o, none⟩ = some (V o)
  fz : ∀ o, w.frozen? ⟨B, o, none⟩ = false
  lt : B < w.heap.size
theorem Cel.keep {n : Nat} {w w' : World} {B : Nat} {V : Nat → Value} {F : Nat → Prop} (h : Cel n w B V) (hk : Keep F w w') (hF : ¬ F B) : Cel n w' B V :=
  ⟨fun o ho => (hk.cell (p := ⟨B, o, none⟩) h.lt hF).trans (h.c o ho), fun o => (hk.frozen (p := ⟨B, o, none⟩) h.lt hF).trans (h.fz o), Nat.lt_of_lt_of_le h.lt hk.size⟩
theorem Cel.below {n : Nat} {w w' : World} {B : Nat} {V : Nat → Value} (h : Cel n w B V) (hb : Below w.heap.size w w') : Cel n w' B V := h.keep (F := fun _ => False) (Keep.ofBelow hb) id
theorem Cel.put {n : Nat} {w : World} {B : Nat} {V : Nat → Value} (h : Cel n w B V) (o : Nat) (v : Value) : Cel n (w.setCell ⟨B, o, none⟩ v) B (updc V o v) := by
  refine ⟨fun x hx => ?_, fun x => (World.frozen?_setCell ..).trans (h.fz x), by simpa [World.setCell] using h.lt⟩
  unfold updc
  by_cases e : x = o
  · subst e
    rw [if_pos rfl]
    exact World.cell?_setCell_same w _ _ (h.c x hx)
  · rw [if_neg e]
    exact (World.cell?_setCell_other w _ _ v (fun e' => by cases e'; exact e rfl)).trans (h.c x hx)

theorem Cel.conv {n : Nat} {w : World} {B : Nat} {V V2 : Nat → Value} (h : Cel n w B V) (hv : ∀ o, o < n → V o = V2 o) : Cel n w B V2 :=
  ⟨fun o ho => by rw [h.c o ho, hv o ho], h.fz, h.lt⟩
theorem Cel.drewN {n : Nat} {w : World} {B : Nat} {V : Nat → Value} (h : Cel n w B V) (q : Nat) : Cel n (w.drewN q) B V := h.below ⟨rfl, rfl, rfl, Nat.le_refl _, fun _ _ => rfl⟩
theorem Cel.drew {n : Nat} {w : World} {B : Nat} {V : Nat → Value} (h : Cel n w B V) : Cel n w.drew B V := h.below (drew_below w)
/-- A new block. -/
theorem Cel.new (W : World) (vs : List Value) (t : TypeId) : Cel vs.length (W.alloc (.cells vs.toArray t)) W.heap.size (fun o => vs.getD o (.int .i64 0)) := by
  refine ⟨fun o ho => ?_, by simp, by simp⟩
  simp [ho]

/-- What a call on such a block leaves: its result, the block as it then is; all else as it was. -/
def CelPost (n : Nat) (V : Nat → Value) (W : World) (p : Nat) (r : Value) (e : Ending) (w : World) : Prop := e = .returned r ∧ Cel n w p V ∧ Keep (fun k => k = p) W w
theorem Keep.put {p : Nat} {a b : World} (h : Keep (fun k => k = p) a b) (i : Nat) (u : Value) : Keep (fun k => k = p) a (b.setCell ⟨p, i, none⟩ u) := h.setCell (p := ⟨p, i, none⟩) rfl u

end Go.Proofs.Ytbmpeadoicjpnaa
