/-
  The document's own ship: how it lies in memory.
-/
import Derived.Test.YtmahbmmeeifaiaaGsh
import Derived.Test.YtmahbmmeeifaiaaKpr
import Derived.Test.YtmahbmmeeifaiaaWreg
import Derived.Deep.Cut
import Derived.Deep.CutRange
namespace Go.Proofs.Ytmahbmmeeifaiaa
open Go.RowKit

theorem Try.infoRt : (Try.prog.info? 38).map (fun i => (i.zero, i.size, i.bytes)) = some (some (.agg #[.int .u64 0, .string ⟨#[]⟩]), 2, 24) := by kernel_rfl
theorem Try.infoSt : (Try.prog.info? 9).map (fun i => (i.zero, i.size, i.bytes)) = some (some (.string ⟨#[]⟩), 1, 16) := by kernel_rfl
theorem wrap_qr {z : Int} (h : 0 ≤ z ∧ z ≤ 18446744073709551615) : IntKind.u64.wrap z = z := by
  simp only [IntKind.wrap, IntKind.signed, IntKind.bits]
  simp
  omega

def reC (win que : Nat) (vo vw : Value) (last q : Nat) : Nat → Value
  | 0 => .int .i64 (win : Nat)
  | 1 => .int .i64 (que : Nat)
  | 2 => .pointer (some ⟨q, 0, none⟩)
  | 3 => vo
  | 4 => vw
  | _ => .int .u64 (last : Nat)

/-- Blocks that its rows may lie in. -/
def Free (X : Nat → Prop) (p q : Nat) (k : Nat) : Prop := k ≠ p ∧ k ≠ q ∧ ¬ X k

/-- Its memory: it writes into its block p and its alarm's q alone; nothing of it lies in X. -/
structure ReR (w : World) (N p q : Nat) (X : Nat → Prop) (win que g last : Nat) (P : Pa) (ao : Option Addr) (co : Nat) (LO : List ByteArray) (aw : Option Addr) (cw : Nat) (LW : List ByteArray) : Prop where
  c : Cel 6 w p (reC win que (.slice ao LO.length co) (.slice aw LW.length cw) last q)
  pr : PrAt w q P
  oo : RowV (Free X p q) w ao co LO.length 2 (itS g LO)
  ow : RowV (Free X p q) w aw cw LW.length 1 (LW.map Value.string)
  ne : p ≠ q
  nx : ¬ X p ∧ ¬ X q
  low : N ≤ p ∧ N ≤ q
  xs : ∀ k, X k → k < w.heap.size

section
variable {w w' : World} {N p q : Nat} {X X' : Nat → Prop} {win que g last : Nat} {P : Pa} {ao aw : Option Addr} {co cw : Nat} {LO LW : List ByteArray}

theorem ReR.cells (h : ReR w N p q X win que g last P ao co LO aw cw LW) : w.cell? ⟨p, 0, none⟩ = some (.int .i64 (win : Nat)) ∧ w.cell? ⟨p, 1, none⟩ = some (.int .i64 (que : Nat)) ∧ w.cell? ⟨p, 2, none⟩ = some (.pointer (some ⟨q, 0, none⟩)) ∧ w.cell? ⟨p, 3, none⟩ = some (.slice ao LO.length co) ∧
    w.cell? ⟨p, 4, none⟩ = some (.slice aw LW.length cw) ∧ w.cell? ⟨p, 5, none⟩ = some (.int .u64 (last : Nat)) :=
  ⟨h.c.c 0 (by decide), h.c.c 1 (by decide), h.c.c 2 (by decide), h.c.c 3 (by decide), h.c.c 4 (by decide), h.c.c 5 (by decide)⟩
theorem ReR.lt (h : ReR w N p q X win que g last P ao co LO aw cw LW) : p < w.heap.size ∧ q < w.heap.size := ⟨h.c.lt, h.pr.lt⟩
theorem ReR.carry (h : ReR w N p q X win que g last P ao co LO aw cw LW) (hs : w.heap.size ≤ w'.heap.size) (hb : ∀ k, k < w.heap.size → ¬ X k → w'.heap[k]? = w.heap[k]?) (hX : ∀ k, X' k → X k ∨ w.heap.size ≤ k) (hX' : ∀ k, X' k → k < w'.heap.size) : ReR w' N p q X' win que g last P ao co LO aw cw LW := by
  have hp := hb p h.c.lt h.nx.1
  have hq := hb q h.pr.lt h.nx.2
  have hm : ∀ k, k < w.heap.size → Free X p q k → Free X' p q k := fun k hk hA => ⟨hA.1, hA.2.1, fun f => (hX k f).elim hA.2.2 (fun l => by omega)⟩
  exact ⟨⟨fun o ho => (World.cell?_of_block (w := w) (a := ⟨p, o, none⟩) hp).trans (h.c.c o ho), fun o => (World.frozen?_of_block (w := w) (a := ⟨p, o, none⟩) hp).trans (h.c.fz o), Nat.lt_of_lt_of_le h.c.lt hs⟩,
    ⟨fun o ho => (World.cell?_of_block (w := w) (a := ⟨q, o, none⟩) hq).trans (h.pr.c o ho), fun o => (World.frozen?_of_block (w := w) (a := ⟨q, o, none⟩) hq).trans (h.pr.fz o), Nat.lt_of_lt_of_le h.pr.lt hs⟩,
    ((h.oo.carry hs (fun k hk hA => hb k hk hA.2.2)).mono (A' := Free X p q) (fun _ _ hA => hA)) |> fun hr => ⟨hr.len, hr.fit, hr.max, hr.nil, fun j u hj => by
      obtain ⟨b, off, e, hl, hA, hc⟩ := h.oo.cell j u hj
      obtain ⟨b2, off2, e2, hl2, _, hc2⟩ := hr.cell j u hj
      rw [e] at e2
      cases e2
      exact ⟨b, off, e, hl2, hm b hl hA, hc2⟩⟩,
    (h.ow.carry hs (fun k hk hA => hb k hk hA.2.2)) |> fun hr => ⟨hr.len, hr.fit, hr.max, hr.nil, fun j u hj => by
      obtain ⟨b, off, e, hl, hA, hc⟩ := h.ow.cell j u hj
      obtain ⟨b2, off2, e2, hl2, _, hc2⟩ := hr.cell j u hj
      rw [e] at e2
      cases e2
      exact ⟨b, off, e, hl2, hm b hl hA, hc2⟩⟩,
    h.ne, ⟨fun f => (hX p f).elim h.nx.1 (fun l => by have := h.c.lt; omega), fun f => (hX q f).elim h.nx.2 (fun l => by have := h.pr.lt; omega)⟩, h.low, hX'⟩
theorem ReR.below (h : ReR w N p q X win que g last P ao co LO aw cw LW) (hb : Below w.heap.size w w') : ReR w' N p q X win que g last P ao co LO aw cw LW :=
  h.carry hb.size (fun k hk _ => hb.block k hk) (fun _ f => Or.inl f) (fun k f => Nat.lt_of_lt_of_le (h.xs k f) hb.size)
theorem ReR.drewN (h : ReR w N p q X win que g last P ao co LO aw cw LW) (n : Nat) : ReR (w.drewN n) N p q X win que g last P ao co LO aw cw LW := h.below ⟨rfl, rfl, rfl, Nat.le_refl _, fun _ _ => rfl⟩
theorem ReR.less (h : ReR w N p q X win que g last P ao co LO aw cw LW) (hX : ∀ k, X' k → X k) : ReR w N p q X' win que g last P ao co LO aw cw LW :=
  h.carry (Nat.le_refl _) (fun _ _ _ => rfl) (fun k f => Or.inl (hX k f)) (fun k f => h.xs k (hX k f))

/-- Its cells turned. -/
theorem ReR.turn {g' last' co' cw' : Nat} {ao' aw' : Option Addr} {LO' LW' : List ByteArray} (h : ReR w N p q X win que g last P ao co LO aw cw LW) (hk : Keep (fun k => k = p) w w')
    (hc : Cel 6 w' p (reC win que (.slice ao' LO'.length co') (.slice aw' LW'.length cw') last' q)) (hoo : RowV (Free X p q) w' ao' co' LO'.length 2 (itS g' LO')) (how : RowV (Free X p q) w' aw' cw' LW'.length 1 (LW'.map Value.string)) :
    ReR w' N p q X win que g' last' P ao' co' LO' aw' cw' LW' :=
  ⟨hc, Cel.keep h.pr hk (fun e => h.ne e.symm), hoo, how, h.ne, h.nx, h.low, fun k f => Nat.lt_of_lt_of_le (h.xs k f) hk.size⟩
/-- Rows that lie elsewhere than in p are as they were. -/
theorem RowV.past {a : Option Addr} {cap n sz : Nat} {cs : List Value} (h : RowV (Free X p q) w a cap n sz cs) (hk : Keep (fun k => k = p) w w') : RowV (Free X p q) w' a cap n sz cs :=
  h.carry hk.size (fun k hk' hA => hk.block k hk' hA.1)
/-- Its alarm turned. -/
theorem ReR.alarm {P2 : Pa} {r : Value} {E : Ending} (h : ReR w N p q X win que g last P ao co LO aw cw LW) (hp : PrPost P2 w q r E w') : E = .returned r ∧ ReR w' N p q X win que g last P2 ao co LO aw cw LW ∧ Keep (fun k => k = p ∨ k = q) w w' := by
  obtain ⟨he, hA, hK⟩ := hp
  exact ⟨he, ⟨h.c.keep hK h.ne, hA, h.oo.carry hK.size (fun k hk hA => hK.block k hk hA.2.1), h.ow.carry hK.size (fun k hk hA => hK.block k hk hA.2.1), h.ne, h.nx, h.low, fun k f => Nat.lt_of_lt_of_le (h.xs k f) hK.size⟩, hK.mono (fun k e => Or.inr e)⟩
end

theorem row_lit2 (w : World) (u v : Value) (cs : Array Value) (t : TypeId) (hcs : cs = #[u, v]) : RowV (fun k => k = w.heap.size) (w.alloc (.cells cs t)) (some ⟨w.heap.size, 0, none⟩) 1 1 2 [u, v] := by
  subst hcs
  refine ⟨rfl, Nat.le_refl _, by unfold maxLen; omega, (fun e => by cases e), fun j x hj => ⟨w.heap.size, 0, rfl, by simp, rfl, ?_⟩⟩
  have h := World.news_of_block (cs := #[u, v]) (fr := (0, 0)) (heap_alloc_new w (.cells #[u, v] t)) j x hj
  rw [Addr.add_lit] at h
  exact h
theorem row_lit1 (w : World) (u : Value) (cs : Array Value) (t : TypeId) (hcs : cs = #[u]) : RowV (fun k => k = w.heap.size) (w.alloc (.cells cs t)) (some ⟨w.heap.size, 0, none⟩) 1 1 1 [u] := by
  subst hcs
  refine ⟨rfl, Nat.le_refl _, by unfold maxLen; omega, (fun e => by cases e), fun j x hj => ⟨w.heap.size, 0, rfl, by simp, rfl, ?_⟩⟩
  have h := World.news_of_block (cs := #[u]) (fr := (0, 0)) (heap_alloc_new w (.cells #[u] t)) j x hj
  rw [Addr.add_lit] at h
  exact h
theorem own_none (w : World) (e : TypeId) (B sz : Nat) (hB : B ≤ w.heap.size) : (w.alloc (.cells #[] e)).ownsRow B e sz (.slice (some ⟨w.heap.size, 0, none⟩) 0 0) 0 [] :=
  World.ownsRow_lit (base := B) (e := e) (size := sz) w #[] 0 hB (by unfold maxLen; omega) (by simp)
theorem ones_s (l : List ByteArray) : ∀ u ∈ l.map Value.string, u.oneCell' = true := by
  intro u hu
  obtain ⟨x, _, rfl⟩ := List.mem_map.1 hu
  rfl

end Go.Proofs.Ytmahbmmeeifaiaa
