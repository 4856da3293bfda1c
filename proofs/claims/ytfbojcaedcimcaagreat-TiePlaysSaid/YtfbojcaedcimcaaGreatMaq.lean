/-
  Texts of this claim, put together.
-/
import Derived.Test.YtfbojcaedcimcaaGreatMae
import Derived.Test.YtfbojcaedcimcaaGreatMad
import Derived.Test.YtfbojcaedcimcaaGreatWregm
import Derived.Deep.Cut
import Derived.Deep.CutRange
import Derived.Deep.RegionLaw
import Derived.Deep.RegionHeld3

/-
  The document's own ship: how it lies in memory.
-/
namespace Go.Proofs.YtfbojcaedcimcaaGreat
open Go.RowKit

theorem Tryz.infoRt : (Tryz.prog.info? 80).map (fun i => (i.zero, i.size, i.bytes)) = some (some (.agg #[.int .u64 0, .string ⟨#[]⟩]), 2, 24) := by kernel_rfl
theorem Tryz.infoSt : (Tryz.prog.info? 9).map (fun i => (i.zero, i.size, i.bytes)) = some (some (.string ⟨#[]⟩), 1, 16) := by kernel_rfl
theorem wrap_qr {z : Int} (h : 0 ≤ z ∧ z ≤ 18446744073709551615) : IntKind.u64.wrap z = z := by
  simp only [IntKind.wrap, IntKind.signed, IntKind.bits]
  simp
  omega

def reC (win que : Nat) (vo vw : Value) (last q : Nat) : Nat → Value
  | 0 => .int .i64 (win : Nat)
  | 1 => .int .i64 (que : Nat)
  | 2 => .pointer (some ⟨q, 0, none⟩)
  | 3 => vo
  | 4 => vw
  | _ => .int .u64 (last : Nat)

/-- Blocks that its rows may lie in. -/
def Free (X : Nat → Prop) (p q : Nat) (k : Nat) : Prop := k ≠ p ∧ k ≠ q ∧ ¬ X k

/-- Its memory: it writes into its block p and its alarm's q alone; nothing of it lies in X. -/
structure ReR (w : World) (N p q : Nat) (X : Nat → Prop) (win que g last : Nat) (P : Pa) (ao : Option Addr) (co : Nat) (LO : List ByteArray) (aw : Option Addr) (cw : Nat) (LW : List ByteArray) : Prop where
  c : Cel 6 w p (reC win que (.slice ao LO.length co) (.slice aw LW.length cw) last q)
  pr : PrAt w q P
  oo : RowV (Free X p q) w ao co LO.length 2 (itS g LO)
  ow : RowV (Free X p q) w aw cw LW.length 1 (LW.map Value.string)
  ne : p ≠ q
  nx : ¬ X p ∧ ¬ X q
  low : N ≤ p ∧ N ≤ q
  xs : ∀ k, X k → k < w.heap.size

section
variable {w w' : World} {N p q : Nat} {X X' : Nat → Prop} {win que g last : Nat} {P : Pa} {ao aw : Option Addr} {co cw : Nat} {LO LW : List ByteArray}

theorem ReR.cells (h : ReR w N p q X win que g last P ao co LO aw cw LW) : w.cell? ⟨p, 0, none⟩ = some (.int .i64 (win : Nat)) ∧ w.cell? ⟨p, 1, none⟩ = some (.int .i64 (que : Nat)) ∧ w.cell? ⟨p, 2, none⟩ = some (.pointer (some ⟨q, 0, none⟩)) ∧ w.cell? ⟨p, 3, none⟩ = some (.slice ao LO.length co) ∧
    w.cell? ⟨p, 4, none⟩ = some (.slice aw LW.length cw) ∧ w.cell? ⟨p, 5, none⟩ = some (.int .u64 (last : Nat)) :=
  ⟨h.c.c 0 (by decide), h.c.c 1 (by decide), h.c.c 2 (by decide), h.c.c 3 (by decide), h.c.c 4 (by decide), h.c.c 5 (by decide)⟩
theorem ReR.lt (h : ReR w N p q X win que g last P ao co LO aw cw LW) : p < w.heap.size ∧ q < w.heap.size := ⟨h.c.lt, h.pr.lt⟩
theorem ReR.carry (h : ReR w N p q X win que g last P ao co LO aw cw LW) (hs : w.heap.size ≤ w'.heap.size) (hb : ∀ k, k < w.heap.size → ¬ X k → w'.heap[k]? = w.heap[k]?) (hX : ∀ k, X' k → X k ∨ w.heap.size ≤ k) (hX' : ∀ k, X' k → k < w'.heap.size) : ReR w' N p q X' win que g last P ao co LO aw cw LW := by
  have hp := hb p h.c.lt h.nx.1
  have hq := hb q h.pr.lt h.nx.2
  have hm : ∀ k, k < w.heap.size → Free X p q k → Free X' p q k := fun k hk hA => ⟨hA.1, hA.2.1, fun f => (hX k f).elim hA.2.2 (fun l => by omega)⟩
  exact ⟨⟨fun o ho => (World.cell?_of_block (w := w) (a := ⟨p, o, none⟩) hp).trans (h.c.c o ho), fun o => (World.frozen?_of_block (w := w) (a := ⟨p, o, none⟩) hp).trans (h.c.fz o), Nat.lt_of_lt_of_le h.c.lt hs⟩,
    ⟨fun o ho => (World.cell?_of_block (w := w) (a := ⟨q, o, none⟩) hq).trans (h.pr.c o ho), fun o => (World.frozen?_of_block (w := w) (a := ⟨q, o, none⟩) hq).trans (h.pr.fz o), Nat.lt_of_lt_of_le h.pr.lt hs⟩,
    ((h.oo.carry hs (fun k hk hA => hb k hk hA.2.2)).mono (A' := Free X p q) (fun _ _ hA => hA)) |> fun hr => ⟨hr.len, hr.fit, hr.max, hr.nil, fun j u hj => by
      obtain ⟨b, off, e, hl, hA, hc⟩ := h.oo.cell j u hj
      obtain ⟨b2, off2, e2, hl2, _, hc2⟩ := hr.cell j u hj
      rw [e] at e2
      cases e2
      exact ⟨b, off, e, hl2, hm b hl hA, hc2⟩⟩,
    (h.ow.carry hs (fun k hk hA => hb k hk hA.2.2)) |> fun hr => ⟨hr.len, hr.fit, hr.max, hr.nil, fun j u hj => by
      obtain ⟨b, off, e, hl, hA, hc⟩ := h.ow.cell j u hj
      obtain ⟨b2, off2, e2, hl2, _, hc2⟩ := hr.cell j u hj
      rw [e] at e2
      cases e2
      exact ⟨b, off, e, hl2, hm b hl hA, hc2⟩⟩,
    h.ne, ⟨fun f => (hX p f).elim h.nx.1 (fun l => by have := h.c.lt; omega), fun f => (hX q f).elim h.nx.2 (fun l => by have := h.pr.lt; omega)⟩, h.low, hX'⟩
theorem ReR.below (h : ReR w N p q X win que g last P ao co LO aw cw LW) (hb : Below w.heap.size w w') : ReR w' N p q X win que g last P ao co LO aw cw LW :=
  h.carry hb.size (fun k hk _ => hb.block k hk) (fun _ f => Or.inl f) (fun k f => Nat.lt_of_lt_of_le (h.xs k f) hb.size)
theorem ReR.drewN (h : ReR w N p q X win que g last P ao co LO aw cw LW) (n : Nat) : ReR (w.drewN n) N p q X win que g last P ao co LO aw cw LW := h.below ⟨rfl, rfl, rfl, Nat.le_refl _, fun _ _ => rfl⟩
theorem ReR.less (h : ReR w N p q X win que g last P ao co LO aw cw LW) (hX : ∀ k, X' k → X k) : ReR w N p q X' win que g last P ao co LO aw cw LW :=
  h.carry (Nat.le_refl _) (fun _ _ _ => rfl) (fun k f => Or.inl (hX k f)) (fun k f => h.xs k (hX k f))

/-- Its cells turned. -/
theorem ReR.turn {g' last' co' cw' : Nat} {ao' aw' : Option Addr} {LO' LW' : List ByteArray} (h : ReR w N p q X win que g last P ao co LO aw cw LW) (hk : Keep (fun k => k = p) w w')
    (hc : Cel 6 w' p (reC win que (.slice ao' LO'.length co') (.slice aw' LW'.length cw') last' q)) (hoo : RowV (Free X p q) w' ao' co' LO'.length 2 (itS g' LO')) (how : RowV (Free X p q) w' aw' cw' LW'.length 1 (LW'.map Value.string)) :
    ReR w' N p q X win que g' last' P ao' co' LO' aw' cw' LW' :=
  ⟨hc, Cel.keep h.pr hk (fun e => h.ne e.symm), hoo, how, h.ne, h.nx, h.low, fun k f => Nat.lt_of_lt_of_le (h.xs k f) hk.size⟩
/-- Rows that lie elsewhere than in p are as they were. -/
theorem RowV.past {a : Option Addr} {cap n sz : Nat} {cs : List Value} (h : RowV (Free X p q) w a cap n sz cs) (hk : Keep (fun k => k = p) w w') : RowV (Free X p q) w' a cap n sz cs :=
  h.carry hk.size (fun k hk' hA => hk.block k hk' hA.1)
/-- Its alarm turned. -/
theorem ReR.alarm {P2 : Pa} {r : Value} {E : Ending} (h : ReR w N p q X win que g last P ao co LO aw cw LW) (hp : PrPost P2 w q r E w') : E = .returned r ∧ ReR w' N p q X win que g last P2 ao co LO aw cw LW ∧ Keep (fun k => k = p ∨ k = q) w w' := by
  obtain ⟨he, hA, hK⟩ := hp
  exact ⟨he, ⟨h.c.keep hK h.ne, hA, h.oo.carry hK.size (fun k hk hA => hK.block k hk hA.2.1), h.ow.carry hK.size (fun k hk hA => hK.block k hk hA.2.1), h.ne, h.nx, h.low, fun k f => Nat.lt_of_lt_of_le (h.xs k f) hK.size⟩, hK.mono (fun k e => Or.inr e)⟩
end

theorem row_lit2 (w : World) (u v : Value) (cs : Array Value) (t : TypeId) (hcs : cs = #[u, v]) : RowV (fun k => k = w.heap.size) (w.alloc (.cells cs t)) (some ⟨w.heap.size, 0, none⟩) 1 1 2 [u, v] := by
  subst hcs
  refine ⟨rfl, Nat.le_refl _, by unfold maxLen; omega, (fun e => by cases e), fun j x hj => ⟨w.heap.size, 0, rfl, by simp, rfl, ?_⟩⟩
  have h := World.news_of_block (cs := #[u, v]) (fr := (0, 0)) (heap_alloc_new w (.cells #[u, v] t)) j x hj
  rw [Addr.add_lit] at h
  exact h
theorem row_lit1 (w : World) (u : Value) (cs : Array Value) (t : TypeId) (hcs : cs = #[u]) : RowV (fun k => k = w.heap.size) (w.alloc (.cells cs t)) (some ⟨w.heap.size, 0, none⟩) 1 1 1 [u] := by
  subst hcs
  refine ⟨rfl, Nat.le_refl _, by unfold maxLen; omega, (fun e => by cases e), fun j x hj => ⟨w.heap.size, 0, rfl, by simp, rfl, ?_⟩⟩
  have h := World.news_of_block (cs := #[u]) (fr := (0, 0)) (heap_alloc_new w (.cells #[u] t)) j x hj
  rw [Addr.add_lit] at h
  exact h
theorem own_none (w : World) (e : TypeId) (B sz : Nat) (hB : B ≤ w.heap.size) : (w.alloc (.cells #[] e)).ownsRow B e sz (.slice (some ⟨w.heap.size, 0, none⟩) 0 0) 0 [] :=
  World.ownsRow_lit (base := B) (e := e) (size := sz) w #[] 0 hB (by unfold maxLen; omega) (by simp)
theorem ones_s (l : List ByteArray) : ∀ u ∈ l.map Value.string, u.oneCell' = true := by
  intro u hu
  obtain ⟨x, _, rfl⟩ := List.mem_map.1 hu
  rfl

end Go.Proofs.YtfbojcaedcimcaaGreat

/-
  The document's own ship: as many as there is room for go out.
-/
namespace Go.Proofs.YtfbojcaedcimcaaGreat
open Go.RowKit

def lenZ : Value → Nat
  | .slice _ n _ => n
  | _ => 0

section
variable {W : World} {N p q : Nat} {X : Nat → Prop} {win que g last : Nat} {P : Pa} {ao aw : Option Addr} {co cw : Nat} {LO LW : List ByteArray}

/-- A longer row of what is out is stored. -/
theorem ReR.longer {w w3 : World} {l2 cap : Nat} {a : Option Addr} {s : ByteArray} (h : ReR w N p q X win que g last P ao co LO aw cw LW) (hl : g + LO.length + 1 = l2) (hb : Below w.heap.size w w3)
    (hown : w3.ownsRow w.heap.size 80 2 (.slice a (LO.length + 1) cap) (LO.length + 1) (itS g LO ++ [.int .u64 (l2 : Int), .string s])) :
    ReR (w3.setCell ⟨p, 3, none⟩ (.slice a (LO.length + 1) cap)) N p q X win que g last P a cap (LO ++ [s]) aw cw LW ∧ Keep (fun k => k = p) w (w3.setCell ⟨p, 3, none⟩ (.slice a (LO.length + 1) cap)) := by
  subst hl
  have hk : Keep (fun k => k = p) w (w3.setCell ⟨p, 3, none⟩ (.slice a (LO.length + 1) cap)) := (Keep.ofBelow (F := fun k => k = p) hb).setCell (p := ⟨p, 3, none⟩) rfl _
  obtain ⟨a', cap', e, hr⟩ := own_row hown
  cases e
  have hlt := hown.lt
  have hpl := h.lt
  have e1 : itS g (LO ++ [s]) = itS g LO ++ [.int .u64 ((g + LO.length + 1 : Nat) : Int), .string s] := by rw [itS_append]; rfl
  have e2 : (LO ++ [s]).length = LO.length + 1 := by simp
  have hr2 : RowV (Free X p q) w3 a cap (LO ++ [s]).length 2 (itS g (LO ++ [s])) := by
    rw [e1, e2]
    exact hr.mono (fun k _ e => by
      have := (hlt k e).1
      exact ⟨by omega, by omega, fun f => by have := h.xs k f; omega⟩)
  refine ⟨h.turn hk ?_ ?_ (h.ow.past hk), hk⟩
  · rw [e2]
    exact ((h.c.below hb).put 3 _).conv (six rfl rfl rfl rfl rfl rfl)
  · exact hr2.carry (by simp [World.setCell]) (fun k _ hA => heap_setCell_other w3 ⟨p, 3, none⟩ k _ hA.1)

/-- The first that waits is taken; its number is the last one's. -/
theorem ReR.shift {w1 w4 : World} {l1 l2 : Nat} {A : Addr} {s : ByteArray} {T : List ByteArray} (h : ReR w1 N p q X win que g l1 P ao co LO aw cw (s :: T)) (hb : Below w1.heap.size (w1.setCell ⟨p, 5, none⟩ (.int .u64 (l2 : Int))) w4)
    (hT : RowV (Free X p q) w4 (some A) (cw - 1) T.length 1 (T.map Value.string)) :
    ReR (w4.setCell ⟨p, 4, none⟩ (.slice (some A) T.length (cw - 1))) N p q X win que g l2 P ao co LO (some A) (cw - 1) T ∧ Keep (fun k => k = p) w1 (w4.setCell ⟨p, 4, none⟩ (.slice (some A) T.length (cw - 1))) := by
  have hs : (w1.setCell ⟨p, 5, none⟩ (.int .u64 (l2 : Int))).heap.size = w1.heap.size := by simp [World.setCell]
  have k1 : Keep (fun k => k = p) w1 (w1.setCell ⟨p, 5, none⟩ (.int .u64 (l2 : Int))) := (Keep.refl (fun k => k = p) _).setCell (p := ⟨p, 5, none⟩) rfl _
  have k2 : Keep (fun k => k = p) w1 w4 := k1.trans (Keep.ofBelow (F := fun _ => False) (by rw [hs]; exact hb)) (fun _ _ f => f.elim)
  have k3 : Keep (fun k => k = p) w1 (w4.setCell ⟨p, 4, none⟩ (.slice (some A) T.length (cw - 1))) := k2.setCell (p := ⟨p, 4, none⟩) rfl _
  have hc : Cel 6 w4 p (updc (reC win que (.slice ao LO.length co) (.slice aw (s :: T).length cw) l1 q) 5 (.int .u64 (l2 : Int))) := (h.c.put 5 _).below (by rw [hs]; exact hb)
  refine ⟨h.turn k3 ((hc.put 4 _).conv (six rfl rfl rfl rfl rfl rfl)) (h.oo.past k3) (hT.carry (by simp [World.setCell]) (fun k _ hA => heap_setCell_other w4 ⟨p, 4, none⟩ k _ hA.1)), k3⟩

/-- What went out, by now. -/
def GoesRel (W : World) (N p q : Nat) (X : Nat → Prop) (win que g last : Nat) (P : Pa) (LO LW : List ByteArray) (m : Nat) (r : Value) (wr : World) : Prop :=
  ∃ (k : Nat) (a : Option Addr) (cap : Nat) (ao : Option Addr) (co : Nat) (aw : Option Addr) (cw : Nat), k ≤ m ∧ r = .slice a k cap ∧ wr.ownsRow W.heap.size 80 2 r k (itS last (LW.take k)) ∧
    ReR wr N p q (fun j => X j ∨ (Value.slice a k cap).ownBlock = some j) win que g (last + k) P ao co (LO ++ LW.take k) aw cw (LW.drop k) ∧ Keep (fun k => k = p) W wr

/-- As many as there is room for are out; these. -/
def GoesPost (W : World) (N p q : Nat) (X : Nat → Prop) (win que g last : Nat) (P : Pa) (LO LW : List ByteArray) (m : Nat) (E : Ending) (w' : World) : Prop :=
  ∃ a cap ao co aw cw, E = .returned (.slice a m cap) ∧ ReR w' N p q X win que g (last + m) P ao co (LO ++ LW.take m) aw cw (LW.drop m) ∧ Keep (fun k => k = p) W w' ∧ RtR (fun k => W.heap.size ≤ k) w' (.slice a m cap) last (LW.take m)

theorem goes_done {w' : World} {m cap : Nat} {a : Option Addr} {ao aw : Option Addr} {co cw : Nat} (hm : m ≤ LW.length) (hO : w'.ownsRow W.heap.size 80 2 (.slice a m cap) m (itS last (LW.take m)))
    (hR : ReR w' N p q (fun j => X j ∨ (Value.slice a m cap).ownBlock = some j) win que g (last + m) P ao co (LO ++ LW.take m) aw cw (LW.drop m)) (hK : Keep (fun k => k = p) W w') : GoesPost W N p q X win que g last P LO LW m (.returned (.slice a m cap)) w' := by
  obtain ⟨a2, c2, e, hr⟩ := own_row hO
  cases e
  have hl : (LW.take m).length = m := by rw [List.length_take]; omega
  exact ⟨a, cap, ao, co, aw, cw, rfl, hR.less (fun k f => Or.inl f), hK, ⟨a, cap, by rw [hl], by rw [hl]; exact hr.mono (fun k _ e => (hO.lt k e).1)⟩⟩

theorem goes_step {w7 w8 : World} {m k l2 g8 cap cap8 c3 cw3 : Nat} {a a3 aw3 : Option Addr} {s : ByteArray} {o : Obj} (hR : ReR w7 N p q (fun j => X j ∨ (Value.slice a k cap).ownBlock = some j) win que g l2 P a3 c3 (LO ++ LW.take k ++ [s]) aw3 cw3 (LW.drop (k + 1))) (hK : Keep (fun k => k = p) W w7)
    (hlo : ∀ j, (Value.slice a k cap).ownBlock = some j → W.heap.size ≤ j) (hl : last + k + 1 = l2) (hk : k < LW.length) (hs : LW[k]'hk = s) (hkm : k < m)
    (hown : w8.ownsRow W.heap.size 80 2 (.slice (some ⟨g8, 0, none⟩) (k + 1) cap8) (k + 1) (itS last (LW.take k) ++ [.int .u64 (l2 : Int), .string s])) (hgr : (w7.alloc o).grownBy w8 (Value.slice a k cap).ownBlock) (hat : (Value.slice a k cap).ownBlock = some g8 ∨ (w7.alloc o).heap.size ≤ g8) :
    GoesRel W N p q X win que g last P LO LW m (.slice (some ⟨g8, 0, none⟩) (k + 1) cap8) w8 := by
  subst hs hl
  have hal : (w7.alloc o).heap.size = w7.heap.size + 1 := World.size_alloc ..
  have hsz := hgr.size
  have hlt := hown.lt
  have hlk : (LW.take k).length = k := by rw [List.length_take]; omega
  have hxs := hR.xs
  have ht : LW.take (k + 1) = LW.take k ++ [LW[k]] := List.take_succ_eq_append_getElem hk
  refine ⟨k + 1, some ⟨g8, 0, none⟩, cap8, a3, c3, aw3, cw3, by omega, rfl, ?_, ?_, ?_⟩
  · rw [ht, itS_append, hlk]
    exact hown
  · rw [show last + (k + 1) = last + k + 1 by omega, ht, ← List.append_assoc]
    refine hR.carry (by omega) (fun j hj hn => (hgr.block j (by omega) (fun e => hn (Or.inr e.symm))).trans (Below.heap_alloc _ _ _ hj)) (fun j f => ?_) (fun j f => ?_)
    · rcases f with f | f
      · exact Or.inl (Or.inl f)
      · have e : g8 = j := by simpa [Value.ownBlock] using f
        subst e
        exact hat.imp Or.inr (fun l => by omega)
    · rcases f with f | f
      · have := hxs j (Or.inl f)
        omega
      · exact (hlt j f).2
  · exact (hK.alloc o).grown hgr (fun j e => Or.inr (hlo j e))

set_option maxRecDepth 20000 in
set_option maxHeartbeats 8000000 in
theorem goes_any (h : ReR W N p q X win que g last P ao co LO aw cw LW) (hlast : last = g + LO.length) (hwin : win ≤ 16) (hfit : LO.length ≤ win) (hLW : LW.length ≤ 1000) (hbig : last ≤ 1000000000) :
    Calls Tryz.prog 29 #[.pointer (some ⟨p, 0, none⟩)] W (GoesPost W N p q X win que g last P LO LW (min (win - LO.length) LW.length)) := by
  obtain ⟨i0, hi0, hz0, hz1, hz2⟩ := info_g Tryz.infoRt
  obtain ⟨m, hm⟩ : ∃ m, min (win - LO.length) LW.length = m := ⟨_, rfl⟩
  have hmw : m ≤ LW.length := by omega
  have H := Lib.hid h
  have HL := Lib.hid hlast
  have M := Lib.hid hm
  rw [hm]
  clear h hlast hm
  go_enter Tryz.func29, Tryz.ntmps29
  go_wp2_with fail
  go_loopw [3] (fun r wr => GoesRel W N p q X win que g last P LO LW m r wr) (fun r _ => m - lenZ r)
  case atStart => exact ⟨0, none, 0, ao, co, aw, cw, Nat.zero_le _, rfl, World.ownsRow_nil .., by rw [List.take_zero, List.append_nil, List.drop_zero]; exact H.out.carry (Nat.le_refl _) (fun _ _ _ => rfl) (fun k f => f.imp id (fun e => by cases e)) (fun k f => f.elim (H.out.xs k) (fun e => by cases e)), Keep.refl _ _⟩
  case round =>
    obtain ⟨k, a, cap, ao1, co1, aw1, cw1, hk, rfl, hO, hR, hK⟩ := hrel
    obtain ⟨nO, hnO⟩ : ∃ nO, (LO ++ LW.take k).length = nO := ⟨_, rfl⟩
    obtain ⟨nw, hnw⟩ : ∃ nw, (LW.drop k).length = nw := ⟨_, rfl⟩
    have eO : nO = LO.length + k := by rw [← hnO, List.length_append, List.length_take]; omega
    have eW : nw = LW.length - k := by rw [← hnw, List.length_drop]
    obtain ⟨c0, c1, c2, c3, c4, c5⟩ := hR.cells
    rw [hnO] at c3
    rw [hnw] at c4
    have R := Lib.hid hR
    have O := Lib.hid hO
    have K := Lib.hid hK
    have NO := Lib.hid hnO
    have NW := Lib.hid hnw
    have EO := Lib.hid eO
    have EW := Lib.hid eW
    have HK := Lib.hid hk
    clear hR hO hK hnO hnw eO eW H c1 c2 c5
    go_upto_region 2 with fail
    go_cut [22] from 5 to 22 (fun v wx => v = .bool (decide (k < m)) ∧ ∃ n, wx = wr.drewN n)
    case first =>
      have e1 := EO.out
      have e2 := EW.out
      have e3 := M.out
      by_cases h1 : 0 < nw
      · have d1 : decide ((nw : Int) > 0) = true := decide_eq_true (by omega)
        have d1' : decide (0 < nw) = true := decide_eq_true h1
        by_cases h2 : nO < win
        · have d2 : decide ((nO : Int) < (win : Int)) = true := decide_eq_true (by omega)
          have d2' : decide (nO < win) = true := decide_eq_true h2
          have D := Lib.hid (show decide (k < m) = true from decide_eq_true (by omega))
          clear e1 e2 e3 h1 h2
          go_quiet (fail)
          go_wp2_with fail
          go_meet
          exact ⟨by rw [D.out], _, rfl⟩
        · have d2 : decide ((nO : Int) < (win : Int)) = false := decide_eq_false (by omega)
          have d2' : decide (nO < win) = false := decide_eq_false h2
          have D := Lib.hid (show decide (k < m) = false from decide_eq_false (by have := HK.out; omega))
          clear e1 e2 e3 h1 h2
          go_quiet (fail)
          go_wp2_with fail
          go_meet
          exact ⟨by rw [D.out], _, rfl⟩
      · have d1 : decide ((nw : Int) > 0) = false := decide_eq_false (by omega)
        have d1' : decide (0 < nw) = false := decide_eq_false h1
        have D := Lib.hid (show decide (k < m) = false from decide_eq_false (by have := HK.out; omega))
        clear e1 e2 e3 h1
        go_quiet (fail)
        go_wp2_with fail
        go_meet
        exact ⟨by rw [D.out], _, rfl⟩
    case rest =>
      obtain ⟨rfl, n, rfl⟩ := hcut
      have R1 := Lib.hid (R.out.drewN n)
      have O1 := Lib.hid (own_below O.out (w' := wr.drewN n) ⟨rfl, rfl, rfl, Nat.le_refl _, fun _ _ => rfl⟩)
      have K1 := Lib.hid (K.out.drewN n)
      generalize wr.drewN n = w1 at *
      clear R O K c0 c3 c4
      have hk := HK.out
      by_cases hlt : k < m
      · have dk : decide (k < m) = true := decide_eq_true hlt
        rw [dk]
        have hkw : k < LW.length := by omega
        obtain ⟨s, hs⟩ : ∃ s, LW[k] = s := ⟨_, rfl⟩
        obtain ⟨l2, hl2⟩ : ∃ l2, last + k + 1 = l2 := ⟨_, rfl⟩
        obtain ⟨l1, hl1⟩ : ∃ l1, last + k = l1 := ⟨_, rfl⟩
        obtain ⟨t1, ht1⟩ : ∃ t1, (LW.drop (k + 1)).length = t1 := ⟨_, rfl⟩
        have hr1 := R1.out
        rw [List.drop_eq_getElem_cons hkw, hs, hl1] at hr1
        obtain ⟨b, off, rfl, hbW, hbF, k0⟩ := hr1.ow.cell 0 (.string s) rfl
        obtain ⟨A, hA⟩ : ∃ A : Addr, (if cw1 = 1 then some (⟨b, off, none⟩ : Addr) else some ⟨b, off + 1, none⟩) = some A := by split <;> exact ⟨_, rfl⟩
        have hD := hr1.ow.drop 1 (by simp)
        have hD2 : RowV (Free (fun j => X j ∨ (Value.slice a k cap).ownBlock = some j) p q) w1 (some A) (cw1 - 1) (LW.drop (k + 1)).length 1 ((LW.drop (k + 1)).map Value.string) := by
          have e : (if cw1 = 1 then some (⟨b, off, none⟩ : Addr) else (some (⟨b, off, none⟩ : Addr)).map (·.add (1 * 1))) = some A := by rw [← hA]; simp [Addr.add_lit]
          rw [e] at hD
          exact hD
        have hfit := hr1.ow.fit
        have hmax := hr1.ow.max
        unfold maxLen at hmax
        rw [List.length_cons, ht1] at hfit
        obtain ⟨c0, c1, c2, c3, c4, c5⟩ := hr1.cells
        rw [List.length_cons, ht1] at c4
        have f5 := hr1.c.fz 5
        have hbp : b ≠ p := hbF.1
        have y0 : w1.cell? ⟨b, off, none⟩ = some (.string s) := by simpa using k0
        have hw : IntKind.u64.wrap ((l1 : Int) + 1) = (l2 : Int) := by rw [wrap_qr (by omega)]; omega
        have r1p : (Value.slice a k cap).ownBlock ≠ some p := fun e => hr1.nx.1 (Or.inr e)
        have R2 := Lib.hid hr1
        have D2 := Lib.hid hD2
        have HS := Lib.hid hs
        have L1 := Lib.hid hl1
        have L2 := Lib.hid hl2
        have T1 := Lib.hid ht1
        have RP := Lib.hid r1p
        have hlt0 := hlt
        clear hr1 hbF k0 hD hD2 hs hl1 hl2 ht1 r1p R1 hk hlt
        go_upto_region 4 with fail
        obtain ⟨w2, hw2⟩ : ∃ w2, w2 = w1.setCell ⟨p, 5, none⟩ (.int .u64 (l2 : Int)) := ⟨_, rfl⟩
        have C2 := R2.out.c.put 5 (.int .u64 (l2 : Int))
        rw [← hw2] at C2 ⊢
        have z5 : w2.cell? ⟨p, 5, none⟩ = some (.int .u64 (l2 : Int)) := C2.c 5 (by decide)
        have z4 : w2.cell? ⟨p, 4, none⟩ = some (.slice (some ⟨b, off, none⟩) (t1 + 1) cw1) := by rw [C2.c 4 (by decide), ← T1.out]; rfl
        have z0 : w2.cell? ⟨b, off, none⟩ = some (.string s) := by rw [hw2]; exact (World.cell?_setCell_other w1 _ _ _ (fun e => by cases e; exact hbp rfl)).trans y0
        have hsz : w2.heap.size = w1.heap.size := by rw [hw2]; simp [World.setCell]
        have HW2 := Lib.hid hw2
        have SZ := Lib.hid hsz
        clear C2 hw2 hsz c0 c1 c2 c3 c4 c5 f5 y0 hw
        have t0 : (0 : Int) < (t1 : Int) + 1 := by omega
        have ba : Below w2.heap.size w2 (w2.alloc (.cells #[.int .u64 0, .string ⟨#[]⟩] 80)) := (Below.refl _ _).alloc (Nat.le_refl _) _
        have z5a := cell_go z5 ba
        have z4a := cell_go z4 ba
        have z0a := cell_go z0 ba
        clear ba
        go_cut [4] from 30 to 40 (fun v wx => ∃ xb, v = .pointer (some ⟨xb, 0, none⟩) ∧ w2.heap.size ≤ xb ∧ Below w2.heap.size w2 wx ∧ wx.cell? ⟨xb, 0, none⟩ = some (.int .u64 (l2 : Int)) ∧ wx.cell? ⟨xb, 1, none⟩ = some (.string s))
        case first =>
          go_region
          all_goals go_wp2_with fail
          all_goals go_meet
          all_goals exact ⟨_, rfl, Nat.le_refl _, ((Below.refl _ _).alloc (Nat.le_refl _) _).drew, by simp, by simp⟩
        case rest =>
          obtain ⟨xb, rfl, hxb, hbe, x0, x1⟩ := hcut
          have hbe1 : Below w1.heap.size (w1.setCell ⟨p, 5, none⟩ (.int .u64 (l2 : Int))) wc := by rw [← HW2.out, ← SZ.out]; exact hbe
          have hk14 : Keep (fun k => k = p) w1 wc := ((Keep.refl (fun k => k = p) w1).setCell (p := ⟨p, 5, none⟩) rfl (.int .u64 (l2 : Int))).trans (Keep.ofBelow (F := fun _ => False) (by rw [← HW2.out] at hbe1 ⊢; rw [SZ.out]; exact hbe1)) (fun _ _ f => f.elim)
          obtain ⟨r5, k5⟩ := R2.out.shift hbe1 (D2.out.past hk14)
          have y4 : wc.cell? ⟨p, 4, none⟩ = some (.slice (some ⟨b, off, none⟩) (t1 + 1) cw1) := cell_go z4 hbe
          have f4 : wc.frozen? ⟨p, 4, none⟩ = false := by
            have : w2.frozen? ⟨p, 4, none⟩ = false := by rw [HW2.out]; exact (R2.out.c.put 5 _).fz 4
            exact (World.frozen?_of_block (a := ⟨p, 4, none⟩) (hbe.block p (cell_lt z4))).trans this
          rw [T1.out] at r5 k5
          have R5a := Lib.hid r5
          have K5 := Lib.hid (K1.out.trans k5 (fun _ _ f => f))
          have X0 := Lib.hid ((Keep.refl (fun k => k = p) wc).setCell (p := ⟨p, 4, none⟩) rfl (.slice (some A) t1 (cw1 - 1)))
          have XL := Lib.hid (show xb < wc.heap.size from cell_lt x0)
          have XP := Lib.hid (show xb ≠ p from fun e => by have := R2.out.lt.1; have := SZ.out; omega)
          have O5a := Lib.hid (own_carry (w' := wc.setCell ⟨p, 4, none⟩ (.slice (some A) t1 (cw1 - 1))) O1.out (fun j hj => k5.block j (O1.out.lt j hj).2 (fun e => RP.out (e ▸ hj))))
          have j1 : (1 : Int) ≤ (t1 : Int) + 1 := by omega
          have j2 : (t1 : Int) + 1 ≤ (cw1 : Int) := by omega
          have j3 : 1 ≤ cw1 := by omega
          have i1 : (1 : Int) ≤ ((t1 + 1 : Nat) : Int) := by omega
          have i2 : ((t1 + 1 : Nat) : Int) ≤ (cw1 : Int) := by omega
          clear hbe1 hk14 r5 k5 z4 z5 z0 z4a z5a z0a hbe O1 K1 D2 R2
          go_upto_region 6 with fail
          obtain ⟨w5, hw5⟩ : ∃ w5, w5 = wc.setCell ⟨p, 4, none⟩ (.slice (some A) t1 (cw1 - 1)) := ⟨_, rfl⟩
          rw [← hw5] at R5a K5 X0 O5a ⊢
          have HC := Lib.hid (show w5.cell? ⟨p, 3, none⟩ = some (.slice ao1 nO co1) by rw [R5a.out.cells.2.2.2.1, NO.out])
          have HX0 := Lib.hid (show w5.cell? ⟨xb, 0, none⟩ = some (.int .u64 (l2 : Int)) from (X0.out.cell (p := ⟨xb, 0, none⟩) XL.out XP.out).trans x0)
          have HX1 := Lib.hid (show w5.cell? ⟨xb, 1, none⟩ = some (.string s) from (X0.out.cell (p := ⟨xb, 1, none⟩) XL.out XP.out).trans x1)
          have hpW := R5a.out.lt.1
          have hx5 : xb < w5.heap.size := Nat.lt_of_lt_of_le XL.out X0.out.size
          obtain ⟨csO, hcs⟩ : ∃ csO, itS g (LO ++ LW.take k) = csO := ⟨_, rfl⟩
          have LN := Lib.hid (show csO.length = nO * 2 by rw [← hcs, itS_len, NO.out])
          have ON := Lib.hid (show ∀ u ∈ csO, u.oneCell' = true by rw [← hcs]; exact itS_one _ _)
          have SL := Lib.hid (show RowV (Free (fun j => X j ∨ (Value.slice a k cap).ownBlock = some j) p q) w5 ao1 co1 nO 2 csO by rw [← hcs, ← NO.out]; exact R5a.out.oo)
          have hnO2 : nO ≤ 2000 := by have := NO.out; rw [List.length_append, List.length_take] at this; omega
          have RPF := Lib.hid (show ∀ (w3 : World) (a3 : Option Addr) (cap3 : Nat), Below w5.heap.size w5 w3 → w3.ownsRow w5.heap.size 80 2 (.slice a3 (nO + 1) cap3) (nO + 1) (csO ++ [.int .u64 (l2 : Int), .string s]) →
              ReR (w3.setCell ⟨p, 3, none⟩ (.slice a3 (nO + 1) cap3)) N p q (fun j => X j ∨ (Value.slice a k cap).ownBlock = some j) win que g l2 P a3 cap3 (LO ++ LW.take k ++ [s]) (some A) (cw1 - 1) (LW.drop (k + 1)) ∧ Keep (fun k => k = p) w5 (w3.setCell ⟨p, 3, none⟩ (.slice a3 (nO + 1) cap3)) by
            rw [← NO.out, ← hcs]
            intro w3 a3 cap3 h1 h2
            exact R5a.out.longer (by have := HL.out; have := L2.out; rw [List.length_append, List.length_take]; omega) h1 h2)
          have R5 := R5a
          have OA := Lib.hid (own_below (own_none w5 80 w5.heap.size 2 (Nat.le_refl _)) (drew_below _))
          have OB := Lib.hid (own_below (own_below (own_none w5 80 w5.heap.size 2 (Nat.le_refl _)) ((Below.refl _ _).alloc (Nat.le_refl _) (.cells #[.int .u64 (l2 : Int), .string s] 80))) (drew_below _))
          have OC := Lib.hid (own_below (own_none (w5.alloc (.cells #[.int .u64 (l2 : Int), .string s] 80)) 80 w5.heap.size 2 (by simp)) (drew_below _))
          have LB := Lib.hid ((row_lit2 (w5.alloc (.cells #[] 80)) (.int .u64 (l2 : Int)) (.string s) #[.int .u64 (l2 : Int), .string s] 80 rfl).below (drew_below _))
          have LC := Lib.hid (((row_lit2 w5 (.int .u64 (l2 : Int)) (.string s) #[.int .u64 (l2 : Int), .string s] 80 rfl).below ((Below.refl _ _).alloc (Nat.le_refl _) (.cells #[] 80))).below (drew_below _))
          clear hw5 R5a x0 x1 y4 f4 hcs X0
          go_cut [] from 49 to 60 (fun wx => ∃ a3 c3, ReR wx N p q (fun j => X j ∨ (Value.slice a k cap).ownBlock = some j) win que g l2 P a3 c3 (LO ++ LW.take k ++ [s]) (some A) (cw1 - 1) (LW.drop (k + 1)) ∧ Keep (fun k => k = p) w5 wx)
          case first =>
            refine wp_region_noPanic ?_
            refine wp_region_z (S := (fun w' => w'.cell? ⟨p, 3, none⟩ = some (.slice ao1 nO co1) ∧ w'.cell? ⟨xb, 0, none⟩ = some (.int .u64 (l2 : Int)) ∧ w'.cell? ⟨xb, 1, none⟩ = some (.string s) ∧ Hid (Below w5.heap.size w5 w'))) (z := 12) (by kernel_rfl) ?_ (fun hHeld => ?_)
            · exact ⟨HC.out, HX0.out, HX1.out, Lib.hid (drew_below w5)⟩
            refine anyZ_take (i := 0) (oi := { dst := some 49, op := Op.move (Operand.tmp 0), type := 28, pos := "ref.go:175", after := #[], guard := none }) (v := ?_) rfl (by kernel_rfl) (by kernel_rfl) (by kernel_rfl) (by kernel_rfl) (fun _ _ _ h => h) (Or.inl ⟨by rfl, ?_⟩) (by assumption) ?_
            rotate_left
            · (intro w hSw; (try dsimp only at hSw); go_simp; try with_reducible rfl)
            ((try simp only [Act.put]); (try simp only [List.setIfInBounds_toArray]); (try simp only [List.set_cons_succ]); (try simp only [List.set_cons_zero]))
            refine anyZ_take (i := 2) (oi := { dst := some 51, op := Op.move (Operand.tmp 0), type := 28, pos := "ref.go:175", after := #[], guard := none }) (v := ?_) rfl (by kernel_rfl) (by kernel_rfl) (by kernel_rfl) (by kernel_rfl) (fun _ _ _ h => h) (Or.inl ⟨by rfl, ?_⟩) (by assumption) ?_
            rotate_left
            · (intro w hSw; (try dsimp only at hSw); go_simp; try with_reducible rfl)
            ((try simp only [Act.put]); (try simp only [List.setIfInBounds_toArray]); (try simp only [List.set_cons_succ]); (try simp only [List.set_cons_zero]))
            refine anyZ_take (i := 3) (oi := { dst := some 52, op := Op.nilCheck (Operand.tmp 51), type := 0, pos := "ref.go:175", after := #[{ on := 2, ground := Ground.data }], guard := none }) (v := ?_) rfl (by kernel_rfl) (by kernel_rfl) (by kernel_rfl) (by kernel_rfl) (fun _ _ _ h => h) (Or.inl ⟨by rfl, ?_⟩) (by assumption) ?_
            rotate_left
            · (intro w hSw; (try dsimp only at hSw); go_simp; try with_reducible rfl)
            ((try simp only [Act.put]); (try simp only [List.setIfInBounds_toArray]); (try simp only [List.set_cons_succ]); (try simp only [List.set_cons_zero]))
            refine anyZ_take (i := 4) (oi := { dst := some 53, op := Op.fieldAddr 64 (Operand.tmp 52) 3, type := 0, pos := "ref.go:175", after := #[{ on := 3, ground := Ground.data }], guard := none }) (v := ?_) rfl (by kernel_rfl) (by kernel_rfl) (by kernel_rfl) (by kernel_rfl) (fun _ _ _ h => h) (Or.inl ⟨by rfl, ?_⟩) (by assumption) ?_
            rotate_left
            · (intro w hSw; (try dsimp only at hSw); go_simp; try with_reducible rfl)
            ((try simp only [Act.put]); (try simp only [List.setIfInBounds_toArray]); (try simp only [List.set_cons_succ]); (try simp only [List.set_cons_zero]))
            refine anyZ_take (i := 5) (oi := { dst := some 54, op := Op.load 39 (Operand.tmp 53), type := 39, pos := "ref.go:175", after := #[{ on := 4, ground := Ground.data }], guard := none }) (v := ?_) rfl (by kernel_rfl) (by kernel_rfl) (by kernel_rfl) (by kernel_rfl) (fun _ _ _ h => h) (Or.inl ⟨by rfl, ?_⟩) (by assumption) ?_
            rotate_left
            · (intro w hSw; (try dsimp only at hSw); go_simp; try with_reducible rfl)
            ((try simp only [Act.put]); (try simp only [List.setIfInBounds_toArray]); (try simp only [List.set_cons_succ]); (try simp only [List.set_cons_zero]))
            refine anyZ_take (i := 7) (oi := { dst := some 56, op := Op.load 80 (Operand.tmp 4), type := 80, pos := "ref.go:175", after := #[], guard := none }) (v := ?_) rfl (by kernel_rfl) (by kernel_rfl) (by kernel_rfl) (by kernel_rfl) (fun _ _ _ h => h) (Or.inl ⟨by rfl, ?_⟩) (by assumption) ?_
            rotate_left
            · (intro w hSw; (try dsimp only at hSw); go_simp; try with_reducible rfl)
            ((try simp only [Act.put]); (try simp only [List.setIfInBounds_toArray]); (try simp only [List.set_cons_succ]); (try simp only [List.set_cons_zero]))
            refine anyZ_ready (rs := [1, 8]) (by kernel_rfl) (by simp) ?_
            refine AllZ.cons (o := { dst := some 50, op := Op.buildSlice 39 0 #[], type := 39, pos := "ref.go:175", after := #[], guard := none }) rfl (fun K hK => ?_) (AllZ.cons (o := { dst := some 57, op := Op.buildSlice 39 1 #[(0, Operand.tmp 56)], type := 39, pos := "ref.go:175", after := #[{ on := 7, ground := Ground.data }], guard := none }) rfl (fun K hK => ?_) AllZ.nil)
            · skip
              go_simp
              refine hK.out _ _ ?_ (fun hNew => ?_)
              · first | exact hHeld | exact ⟨cell_go hHeld.1 ((Below.refl _ _).alloc (Nat.le_refl _) _), cell_go hHeld.2.1 ((Below.refl _ _).alloc (Nat.le_refl _) _), cell_go hHeld.2.2.1 ((Below.refl _ _).alloc (Nat.le_refl _) _), Lib.hid ((Hid.out hHeld.2.2.2).alloc (Hid.out hHeld.2.2.2).size _)⟩ | exact ⟨cell_go HC.out B3.out, cell_go HX0.out B3.out, cell_go HX1.out B3.out, B3⟩ | exact ⟨cell_go HC.out B2.out, cell_go HX0.out B2.out, cell_go HX1.out B2.out, B2⟩
              clear hK K
              replace hHeld := hNew
              clear hNew
              ((try simp only [Act.put]); (try simp only [List.setIfInBounds_toArray]); (try simp only [List.set_cons_succ]); (try simp only [List.set_cons_zero]))
              refine anyZ_ready (rs := [6, 8]) (by kernel_rfl) (by simp) ?_
              refine AllZ.cons (o := { dst := some 55, op := Op.call { callee := Callee.builtin Builtin.append, args := #[Operand.tmp 50, Operand.tmp 54], argTypes := #[39, 39] }, type := 39, pos := "ref.go:175", after := #[{ on := 1, ground := Ground.data }, { on := 5, ground := Ground.data }], guard := none }) rfl (fun K hK => ?_) (AllZ.cons (o := { dst := some 57, op := Op.buildSlice 39 1 #[(0, Operand.tmp 56)], type := 39, pos := "ref.go:175", after := #[{ on := 7, ground := Ground.data }], guard := none }) rfl (fun K hK => ?_) AllZ.nil)
              · skip
                refine step_append_at rfl (.tmp 50) (.tmp 54) 39 rfl w5.heap.size 80 i0 _ 2 24 Tryz.underlying39 hi0 hz0 hz1 hz2 rfl (by decide) _ _ _ (by first | (simp [Act.eval]; done) | (simp [Act.eval, Act.put]; done)) OA.out ao1 nO co1 csO (by first | (simp [Act.eval]; done) | (simp [Act.eval, Act.put]; done)) LN.out (SL.out.below (Hid.out hHeld.2.2.2)).empty (SL.out.below (Hid.out hHeld.2.2.2)).news ON.out (by unfold maxLen; omega) (by omega) (Hid.out hHeld.2.2.2).size ?_
                intro a2 cap2 w2 hown2 hgr2 hat2
                have hb2 := (Hid.out hHeld.2.2.2).grown hgr2 (Hid.out hHeld.2.2.2).size (fun k h => (OA.out.lt k h).1)
                have O2 := Lib.hid (show w2.ownsRow w5.heap.size 80 2 (.slice a2 (0 + nO) cap2) nO csO by rw [Nat.zero_add, List.nil_append] at hown2; rw [Nat.zero_add]; exact hown2)
                have B2 := Lib.hid hb2
                have L2 := Lib.hid (row_lit2 w2 (.int .u64 (l2 : Int)) (.string s) #[.int .u64 (l2 : Int), .string s] 80 rfl)
                have O3 := Lib.hid (own_below O2.out ((Below.refl _ w2).alloc (Nat.le_refl _) (.cells #[.int .u64 (l2 : Int), .string s] 80)))
                clear hown2 hgr2 hat2 hb2
                refine hK.out _ _ ?_ (fun hNew => ?_)
                · first | exact hHeld | exact ⟨cell_go hHeld.1 ((Below.refl _ _).alloc (Nat.le_refl _) _), cell_go hHeld.2.1 ((Below.refl _ _).alloc (Nat.le_refl _) _), cell_go hHeld.2.2.1 ((Below.refl _ _).alloc (Nat.le_refl _) _), Lib.hid ((Hid.out hHeld.2.2.2).alloc (Hid.out hHeld.2.2.2).size _)⟩ | exact ⟨cell_go HC.out B3.out, cell_go HX0.out B3.out, cell_go HX1.out B3.out, B3⟩ | exact ⟨cell_go HC.out B2.out, cell_go HX0.out B2.out, cell_go HX1.out B2.out, B2⟩
                clear hK K
                replace hHeld := hNew
                clear hNew
                ((try simp only [Act.put]); (try simp only [List.setIfInBounds_toArray]); (try simp only [List.set_cons_succ]); (try simp only [List.set_cons_zero]))
                refine anyZ_ready (rs := [8]) (by kernel_rfl) (by simp) ?_
                refine AllZ.cons (o := { dst := some 57, op := Op.buildSlice 39 1 #[(0, Operand.tmp 56)], type := 39, pos := "ref.go:175", after := #[{ on := 7, ground := Ground.data }], guard := none }) rfl (fun K hK => ?_) AllZ.nil
                go_simp
                refine hK.out _ _ ?_ (fun hNew => ?_)
                · first | exact hHeld | exact ⟨cell_go hHeld.1 ((Below.refl _ _).alloc (Nat.le_refl _) _), cell_go hHeld.2.1 ((Below.refl _ _).alloc (Nat.le_refl _) _), cell_go hHeld.2.2.1 ((Below.refl _ _).alloc (Nat.le_refl _) _), Lib.hid ((Hid.out hHeld.2.2.2).alloc (Hid.out hHeld.2.2.2).size _)⟩ | exact ⟨cell_go HC.out B3.out, cell_go HX0.out B3.out, cell_go HX1.out B3.out, B3⟩ | exact ⟨cell_go HC.out B2.out, cell_go HX0.out B2.out, cell_go HX1.out B2.out, B2⟩
                clear hK K
                replace hHeld := hNew
                clear hNew
                ((try simp only [Act.put]); (try simp only [List.setIfInBounds_toArray]); (try simp only [List.set_cons_succ]); (try simp only [List.set_cons_zero]))
                refine anyZ_ready (rs := [9]) (by kernel_rfl) (by simp) ?_
                refine AllZ.cons (o := { dst := some 58, op := Op.call { callee := Callee.builtin Builtin.append, args := #[Operand.tmp 55, Operand.tmp 57], argTypes := #[39, 39] }, type := 39, pos := "ref.go:175", after := #[{ on := 6, ground := Ground.data }, { on := 8, ground := Ground.data }, { on := 6, ground := Ground.chain }], guard := none }) rfl (fun K hK => ?_) AllZ.nil
                refine step_append_at rfl (.tmp 55) (.tmp 57) 39 rfl w5.heap.size 80 i0 _ 2 24 Tryz.underlying39 hi0 hz0 hz1 hz2 rfl (by decide) _ _ _ (by first | (simp [Act.eval]; done) | (simp [Act.eval, Act.put]; done)) O3.out _ 1 1 [.int .u64 (l2 : Int), .string s] (by first | (simp [Act.eval]; done) | (simp [Act.eval, Act.put]; done)) (by simp) (fun e => by cases e) L2.out.news (by simp [Value.oneCell']) (by unfold maxLen; omega) (by omega) (Hid.out hHeld.2.2.2).size ?_
                intro a3 cap3 w3 hown3 hgr3 hat3
                have hb3 := (Hid.out hHeld.2.2.2).grown hgr3 (Hid.out hHeld.2.2.2).size (fun k h => (O3.out.lt k h).1)
                have f3 : w3.frozen? ⟨p, 3, none⟩ = false := (World.frozen?_of_block (a := ⟨p, 3, none⟩) (hb3.block p hpW)).trans (R5.out.c.fz 3)
                have c3' : w3.cell? ⟨p, 3, none⟩ = some (.slice ao1 nO co1) := cell_go HC.out hb3
                have R := Lib.hid (RPF.out w3 a3 cap3 hb3 hown3)
                have B3 := Lib.hid hb3
                clear hown3 hgr3 hat3 hb3
                refine hK.out _ _ ?_ (fun hNew => ?_)
                · first | exact hHeld | exact ⟨cell_go hHeld.1 ((Below.refl _ _).alloc (Nat.le_refl _) _), cell_go hHeld.2.1 ((Below.refl _ _).alloc (Nat.le_refl _) _), cell_go hHeld.2.2.1 ((Below.refl _ _).alloc (Nat.le_refl _) _), Lib.hid ((Hid.out hHeld.2.2.2).alloc (Hid.out hHeld.2.2.2).size _)⟩ | exact ⟨cell_go HC.out B3.out, cell_go HX0.out B3.out, cell_go HX1.out B3.out, B3⟩ | exact ⟨cell_go HC.out B2.out, cell_go HX0.out B2.out, cell_go HX1.out B2.out, B2⟩
                clear hK K
                replace hHeld := hNew
                clear hNew
                ((try simp only [Act.put]); (try simp only [List.setIfInBounds_toArray]); (try simp only [List.set_cons_succ]); (try simp only [List.set_cons_zero]))
                refine anyZ_ready (rs := [10]) (by kernel_rfl) (by simp) ?_
                refine AllZ.cons (o := { dst := some 59, op := Op.nilCheck (Operand.tmp 49), type := 0, pos := "ref.go:175", after := #[{ on := 0, ground := Ground.data }, { on := 0, ground := Ground.phase }, { on := 1, ground := Ground.phase }, { on := 2, ground := Ground.phase }, { on := 3, ground := Ground.phase }, { on := 4, ground := Ground.phase }, { on := 5, ground := Ground.phase }, { on := 6, ground := Ground.phase }, { on := 7, ground := Ground.phase }, { on := 8, ground := Ground.phase }, { on := 9, ground := Ground.phase }], guard := none }) rfl (fun K hK => ?_) AllZ.nil
                go_simp
                refine hK.out _ _ ?_ (fun hNew => ?_)
                · first | exact hHeld | exact ⟨cell_go hHeld.1 ((Below.refl _ _).alloc (Nat.le_refl _) _), cell_go hHeld.2.1 ((Below.refl _ _).alloc (Nat.le_refl _) _), cell_go hHeld.2.2.1 ((Below.refl _ _).alloc (Nat.le_refl _) _), Lib.hid ((Hid.out hHeld.2.2.2).alloc (Hid.out hHeld.2.2.2).size _)⟩ | exact ⟨cell_go HC.out B3.out, cell_go HX0.out B3.out, cell_go HX1.out B3.out, B3⟩ | exact ⟨cell_go HC.out B2.out, cell_go HX0.out B2.out, cell_go HX1.out B2.out, B2⟩
                clear hK K
                replace hHeld := hNew
                clear hNew
                ((try simp only [Act.put]); (try simp only [List.setIfInBounds_toArray]); (try simp only [List.set_cons_succ]); (try simp only [List.set_cons_zero]))
                refine anyZ_take (i := 11) (oi := { dst := some 60, op := Op.fieldAddr 64 (Operand.tmp 59) 3, type := 0, pos := "ref.go:175", after := #[{ on := 10, ground := Ground.data }, { on := 0, ground := Ground.phase }, { on := 1, ground := Ground.phase }, { on := 2, ground := Ground.phase }, { on := 3, ground := Ground.phase }, { on := 4, ground := Ground.phase }, { on := 5, ground := Ground.phase }, { on := 6, ground := Ground.phase }, { on := 7, ground := Ground.phase }, { on := 8, ground := Ground.phase }, { on := 9, ground := Ground.phase }], guard := none }) (v := ?_) rfl (by kernel_rfl) (by kernel_rfl) (by kernel_rfl) (by kernel_rfl) (fun _ _ _ h => h) (Or.inl ⟨by rfl, ?_⟩) (by assumption) ?_
                rotate_left
                · (intro w hSw; (try dsimp only at hSw); go_simp; try with_reducible rfl)
                ((try simp only [Act.put]); (try simp only [List.setIfInBounds_toArray]); (try simp only [List.set_cons_succ]); (try simp only [List.set_cons_zero]))
                refine anyZ_ready (rs := [12]) (by kernel_rfl) (by simp) ?_
                refine AllZ.last (o := { dst := none, op := Op.store 39 (Operand.tmp 60) (Operand.tmp 58), type := 0, pos := "ref.go:175", after := #[{ on := 11, ground := Ground.data }, { on := 9, ground := Ground.data }, { on := 9, ground := Ground.chain }, { on := 0, ground := Ground.phase }, { on := 1, ground := Ground.phase }, { on := 2, ground := Ground.phase }, { on := 3, ground := Ground.phase }, { on := 4, ground := Ground.phase }, { on := 5, ground := Ground.phase }, { on := 6, ground := Ground.phase }, { on := 7, ground := Ground.phase }, { on := 8, ground := Ground.phase }, { on := 9, ground := Ground.phase }], guard := none }) rfl (fun K hK => ?_)
                go_simp
                refine hK.out _ _ ?_
                clear hK K
                ((try simp only [Act.put]); (try simp only [List.setIfInBounds_toArray]); (try simp only [List.set_cons_succ]); (try simp only [List.set_cons_zero]))
                refine anyZ_done (by kernel_rfl) ?_ _
                refine NoPanic.normal ?_
                go_wp2_with fail
                go_meet
                exact ⟨_, _, R.out.1, R.out.2⟩
              · skip
                go_simp
                refine hK.out _ _ ?_ (fun hNew => ?_)
                · first | exact hHeld | exact ⟨cell_go hHeld.1 ((Below.refl _ _).alloc (Nat.le_refl _) _), cell_go hHeld.2.1 ((Below.refl _ _).alloc (Nat.le_refl _) _), cell_go hHeld.2.2.1 ((Below.refl _ _).alloc (Nat.le_refl _) _), Lib.hid ((Hid.out hHeld.2.2.2).alloc (Hid.out hHeld.2.2.2).size _)⟩ | exact ⟨cell_go HC.out B3.out, cell_go HX0.out B3.out, cell_go HX1.out B3.out, B3⟩ | exact ⟨cell_go HC.out B2.out, cell_go HX0.out B2.out, cell_go HX1.out B2.out, B2⟩
                clear hK K
                replace hHeld := hNew
                clear hNew
                ((try simp only [Act.put]); (try simp only [List.setIfInBounds_toArray]); (try simp only [List.set_cons_succ]); (try simp only [List.set_cons_zero]))
                refine anyZ_ready (rs := [6]) (by kernel_rfl) (by simp) ?_
                refine AllZ.cons (o := { dst := some 55, op := Op.call { callee := Callee.builtin Builtin.append, args := #[Operand.tmp 50, Operand.tmp 54], argTypes := #[39, 39] }, type := 39, pos := "ref.go:175", after := #[{ on := 1, ground := Ground.data }, { on := 5, ground := Ground.data }], guard := none }) rfl (fun K hK => ?_) AllZ.nil
                refine step_append_at rfl (.tmp 50) (.tmp 54) 39 rfl w5.heap.size 80 i0 _ 2 24 Tryz.underlying39 hi0 hz0 hz1 hz2 rfl (by decide) _ _ _ (by first | (simp [Act.eval]; done) | (simp [Act.eval, Act.put]; done)) OB.out ao1 nO co1 csO (by first | (simp [Act.eval]; done) | (simp [Act.eval, Act.put]; done)) LN.out (SL.out.below (Hid.out hHeld.2.2.2)).empty (SL.out.below (Hid.out hHeld.2.2.2)).news ON.out (by unfold maxLen; omega) (by omega) (Hid.out hHeld.2.2.2).size ?_
                intro a2 cap2 w2 hown2 hgr2 hat2
                have hb2 := (Hid.out hHeld.2.2.2).grown hgr2 (Hid.out hHeld.2.2.2).size (fun k h => (OB.out.lt k h).1)
                have O2 := Lib.hid (show w2.ownsRow w5.heap.size 80 2 (.slice a2 (0 + nO) cap2) nO csO by rw [Nat.zero_add, List.nil_append] at hown2; rw [Nat.zero_add]; exact hown2)
                have B2 := Lib.hid hb2
                have L2 := Lib.hid (show RowV (fun _ => True) w2 _ 1 1 2 [.int .u64 (l2 : Int), .string s] from ((LB.out).carry hgr2.size (fun k hl hk => hgr2.block k hl (fun e2 => by subst hk; simp [Value.ownBlock] at e2))).mono (fun _ _ _ => trivial))
                clear hown2 hgr2 hat2 hb2
                refine hK.out _ _ ?_ (fun hNew => ?_)
                · first | exact hHeld | exact ⟨cell_go hHeld.1 ((Below.refl _ _).alloc (Nat.le_refl _) _), cell_go hHeld.2.1 ((Below.refl _ _).alloc (Nat.le_refl _) _), cell_go hHeld.2.2.1 ((Below.refl _ _).alloc (Nat.le_refl _) _), Lib.hid ((Hid.out hHeld.2.2.2).alloc (Hid.out hHeld.2.2.2).size _)⟩ | exact ⟨cell_go HC.out B3.out, cell_go HX0.out B3.out, cell_go HX1.out B3.out, B3⟩ | exact ⟨cell_go HC.out B2.out, cell_go HX0.out B2.out, cell_go HX1.out B2.out, B2⟩
                clear hK K
                replace hHeld := hNew
                clear hNew
                ((try simp only [Act.put]); (try simp only [List.setIfInBounds_toArray]); (try simp only [List.set_cons_succ]); (try simp only [List.set_cons_zero]))
                refine anyZ_ready (rs := [9]) (by kernel_rfl) (by simp) ?_
                refine AllZ.cons (o := { dst := some 58, op := Op.call { callee := Callee.builtin Builtin.append, args := #[Operand.tmp 55, Operand.tmp 57], argTypes := #[39, 39] }, type := 39, pos := "ref.go:175", after := #[{ on := 6, ground := Ground.data }, { on := 8, ground := Ground.data }, { on := 6, ground := Ground.chain }], guard := none }) rfl (fun K hK => ?_) AllZ.nil
                refine step_append_at rfl (.tmp 55) (.tmp 57) 39 rfl w5.heap.size 80 i0 _ 2 24 Tryz.underlying39 hi0 hz0 hz1 hz2 rfl (by decide) _ _ _ (by first | (simp [Act.eval]; done) | (simp [Act.eval, Act.put]; done)) O2.out _ 1 1 [.int .u64 (l2 : Int), .string s] (by first | (simp [Act.eval]; done) | (simp [Act.eval, Act.put]; done)) (by simp) (fun e => by cases e) L2.out.news (by simp [Value.oneCell']) (by unfold maxLen; omega) (by omega) (Hid.out hHeld.2.2.2).size ?_
                intro a3 cap3 w3 hown3 hgr3 hat3
                have hb3 := (Hid.out hHeld.2.2.2).grown hgr3 (Hid.out hHeld.2.2.2).size (fun k h => (O2.out.lt k h).1)
                have f3 : w3.frozen? ⟨p, 3, none⟩ = false := (World.frozen?_of_block (a := ⟨p, 3, none⟩) (hb3.block p hpW)).trans (R5.out.c.fz 3)
                have c3' : w3.cell? ⟨p, 3, none⟩ = some (.slice ao1 nO co1) := cell_go HC.out hb3
                have R := Lib.hid (RPF.out w3 a3 cap3 hb3 hown3)
                have B3 := Lib.hid hb3
                clear hown3 hgr3 hat3 hb3
                refine hK.out _ _ ?_ (fun hNew => ?_)
                · first | exact hHeld | exact ⟨cell_go hHeld.1 ((Below.refl _ _).alloc (Nat.le_refl _) _), cell_go hHeld.2.1 ((Below.refl _ _).alloc (Nat.le_refl _) _), cell_go hHeld.2.2.1 ((Below.refl _ _).alloc (Nat.le_refl _) _), Lib.hid ((Hid.out hHeld.2.2.2).alloc (Hid.out hHeld.2.2.2).size _)⟩ | exact ⟨cell_go HC.out B3.out, cell_go HX0.out B3.out, cell_go HX1.out B3.out, B3⟩ | exact ⟨cell_go HC.out B2.out, cell_go HX0.out B2.out, cell_go HX1.out B2.out, B2⟩
                clear hK K
                replace hHeld := hNew
                clear hNew
                ((try simp only [Act.put]); (try simp only [List.setIfInBounds_toArray]); (try simp only [List.set_cons_succ]); (try simp only [List.set_cons_zero]))
                refine anyZ_ready (rs := [10]) (by kernel_rfl) (by simp) ?_
                refine AllZ.cons (o := { dst := some 59, op := Op.nilCheck (Operand.tmp 49), type := 0, pos := "ref.go:175", after := #[{ on := 0, ground := Ground.data }, { on := 0, ground := Ground.phase }, { on := 1, ground := Ground.phase }, { on := 2, ground := Ground.phase }, { on := 3, ground := Ground.phase }, { on := 4, ground := Ground.phase }, { on := 5, ground := Ground.phase }, { on := 6, ground := Ground.phase }, { on := 7, ground := Ground.phase }, { on := 8, ground := Ground.phase }, { on := 9, ground := Ground.phase }], guard := none }) rfl (fun K hK => ?_) AllZ.nil
                go_simp
                refine hK.out _ _ ?_ (fun hNew => ?_)
                · first | exact hHeld | exact ⟨cell_go hHeld.1 ((Below.refl _ _).alloc (Nat.le_refl _) _), cell_go hHeld.2.1 ((Below.refl _ _).alloc (Nat.le_refl _) _), cell_go hHeld.2.2.1 ((Below.refl _ _).alloc (Nat.le_refl _) _), Lib.hid ((Hid.out hHeld.2.2.2).alloc (Hid.out hHeld.2.2.2).size _)⟩ | exact ⟨cell_go HC.out B3.out, cell_go HX0.out B3.out, cell_go HX1.out B3.out, B3⟩ | exact ⟨cell_go HC.out B2.out, cell_go HX0.out B2.out, cell_go HX1.out B2.out, B2⟩
                clear hK K
                replace hHeld := hNew
                clear hNew
                ((try simp only [Act.put]); (try simp only [List.setIfInBounds_toArray]); (try simp only [List.set_cons_succ]); (try simp only [List.set_cons_zero]))
                refine anyZ_take (i := 11) (oi := { dst := some 60, op := Op.fieldAddr 64 (Operand.tmp 59) 3, type := 0, pos := "ref.go:175", after := #[{ on := 10, ground := Ground.data }, { on := 0, ground := Ground.phase }, { on := 1, ground := Ground.phase }, { on := 2, ground := Ground.phase }, { on := 3, ground := Ground.phase }, { on := 4, ground := Ground.phase }, { on := 5, ground := Ground.phase }, { on := 6, ground := Ground.phase }, { on := 7, ground := Ground.phase }, { on := 8, ground := Ground.phase }, { on := 9, ground := Ground.phase }], guard := none }) (v := ?_) rfl (by kernel_rfl) (by kernel_rfl) (by kernel_rfl) (by kernel_rfl) (fun _ _ _ h => h) (Or.inl ⟨by rfl, ?_⟩) (by assumption) ?_
                rotate_left
                · (intro w hSw; (try dsimp only at hSw); go_simp; try with_reducible rfl)
                ((try simp only [Act.put]); (try simp only [List.setIfInBounds_toArray]); (try simp only [List.set_cons_succ]); (try simp only [List.set_cons_zero]))
                refine anyZ_ready (rs := [12]) (by kernel_rfl) (by simp) ?_
                refine AllZ.last (o := { dst := none, op := Op.store 39 (Operand.tmp 60) (Operand.tmp 58), type := 0, pos := "ref.go:175", after := #[{ on := 11, ground := Ground.data }, { on := 9, ground := Ground.data }, { on := 9, ground := Ground.chain }, { on := 0, ground := Ground.phase }, { on := 1, ground := Ground.phase }, { on := 2, ground := Ground.phase }, { on := 3, ground := Ground.phase }, { on := 4, ground := Ground.phase }, { on := 5, ground := Ground.phase }, { on := 6, ground := Ground.phase }, { on := 7, ground := Ground.phase }, { on := 8, ground := Ground.phase }, { on := 9, ground := Ground.phase }], guard := none }) rfl (fun K hK => ?_)
                go_simp
                refine hK.out _ _ ?_
                clear hK K
                ((try simp only [Act.put]); (try simp only [List.setIfInBounds_toArray]); (try simp only [List.set_cons_succ]); (try simp only [List.set_cons_zero]))
                refine anyZ_done (by kernel_rfl) ?_ _
                refine NoPanic.normal ?_
                go_wp2_with fail
                go_meet
                exact ⟨_, _, R.out.1, R.out.2⟩
            · skip
              go_simp
              refine hK.out _ _ ?_ (fun hNew => ?_)
              · first | exact hHeld | exact ⟨cell_go hHeld.1 ((Below.refl _ _).alloc (Nat.le_refl _) _), cell_go hHeld.2.1 ((Below.refl _ _).alloc (Nat.le_refl _) _), cell_go hHeld.2.2.1 ((Below.refl _ _).alloc (Nat.le_refl _) _), Lib.hid ((Hid.out hHeld.2.2.2).alloc (Hid.out hHeld.2.2.2).size _)⟩ | exact ⟨cell_go HC.out B3.out, cell_go HX0.out B3.out, cell_go HX1.out B3.out, B3⟩ | exact ⟨cell_go HC.out B2.out, cell_go HX0.out B2.out, cell_go HX1.out B2.out, B2⟩
              clear hK K
              replace hHeld := hNew
              clear hNew
              ((try simp only [Act.put]); (try simp only [List.setIfInBounds_toArray]); (try simp only [List.set_cons_succ]); (try simp only [List.set_cons_zero]))
              refine anyZ_ready (rs := [1]) (by kernel_rfl) (by simp) ?_
              refine AllZ.cons (o := { dst := some 50, op := Op.buildSlice 39 0 #[], type := 39, pos := "ref.go:175", after := #[], guard := none }) rfl (fun K hK => ?_) AllZ.nil
              go_simp
              refine hK.out _ _ ?_ (fun hNew => ?_)
              · first | exact hHeld | exact ⟨cell_go hHeld.1 ((Below.refl _ _).alloc (Nat.le_refl _) _), cell_go hHeld.2.1 ((Below.refl _ _).alloc (Nat.le_refl _) _), cell_go hHeld.2.2.1 ((Below.refl _ _).alloc (Nat.le_refl _) _), Lib.hid ((Hid.out hHeld.2.2.2).alloc (Hid.out hHeld.2.2.2).size _)⟩ | exact ⟨cell_go HC.out B3.out, cell_go HX0.out B3.out, cell_go HX1.out B3.out, B3⟩ | exact ⟨cell_go HC.out B2.out, cell_go HX0.out B2.out, cell_go HX1.out B2.out, B2⟩
              clear hK K
              replace hHeld := hNew
              clear hNew
              ((try simp only [Act.put]); (try simp only [List.setIfInBounds_toArray]); (try simp only [List.set_cons_succ]); (try simp only [List.set_cons_zero]))
              refine anyZ_ready (rs := [6]) (by kernel_rfl) (by simp) ?_
              refine AllZ.cons (o := { dst := some 55, op := Op.call { callee := Callee.builtin Builtin.append, args := #[Operand.tmp 50, Operand.tmp 54], argTypes := #[39, 39] }, type := 39, pos := "ref.go:175", after := #[{ on := 1, ground := Ground.data }, { on := 5, ground := Ground.data }], guard := none }) rfl (fun K hK => ?_) AllZ.nil
              refine step_append_at rfl (.tmp 50) (.tmp 54) 39 rfl w5.heap.size 80 i0 _ 2 24 Tryz.underlying39 hi0 hz0 hz1 hz2 rfl (by decide) _ _ _ (by first | (simp [Act.eval]; done) | (simp [Act.eval, Act.put]; done)) OC.out ao1 nO co1 csO (by first | (simp [Act.eval]; done) | (simp [Act.eval, Act.put]; done)) LN.out (SL.out.below (Hid.out hHeld.2.2.2)).empty (SL.out.below (Hid.out hHeld.2.2.2)).news ON.out (by unfold maxLen; omega) (by omega) (Hid.out hHeld.2.2.2).size ?_
              intro a2 cap2 w2 hown2 hgr2 hat2
              have hb2 := (Hid.out hHeld.2.2.2).grown hgr2 (Hid.out hHeld.2.2.2).size (fun k h => (OC.out.lt k h).1)
              have O2 := Lib.hid (show w2.ownsRow w5.heap.size 80 2 (.slice a2 (0 + nO) cap2) nO csO by rw [Nat.zero_add, List.nil_append] at hown2; rw [Nat.zero_add]; exact hown2)
              have B2 := Lib.hid hb2
              have L2 := Lib.hid (show RowV (fun _ => True) w2 _ 1 1 2 [.int .u64 (l2 : Int), .string s] from ((LC.out).carry hgr2.size (fun k hl hk => hgr2.block k hl (fun e2 => by subst hk; simp [Value.ownBlock] at e2))).mono (fun _ _ _ => trivial))
              clear hown2 hgr2 hat2 hb2
              refine hK.out _ _ ?_ (fun hNew => ?_)
              · first | exact hHeld | exact ⟨cell_go hHeld.1 ((Below.refl _ _).alloc (Nat.le_refl _) _), cell_go hHeld.2.1 ((Below.refl _ _).alloc (Nat.le_refl _) _), cell_go hHeld.2.2.1 ((Below.refl _ _).alloc (Nat.le_refl _) _), Lib.hid ((Hid.out hHeld.2.2.2).alloc (Hid.out hHeld.2.2.2).size _)⟩ | exact ⟨cell_go HC.out B3.out, cell_go HX0.out B3.out, cell_go HX1.out B3.out, B3⟩ | exact ⟨cell_go HC.out B2.out, cell_go HX0.out B2.out, cell_go HX1.out B2.out, B2⟩
              clear hK K
              replace hHeld := hNew
              clear hNew
              ((try simp only [Act.put]); (try simp only [List.setIfInBounds_toArray]); (try simp only [List.set_cons_succ]); (try simp only [List.set_cons_zero]))
              refine anyZ_ready (rs := [9]) (by kernel_rfl) (by simp) ?_
              refine AllZ.cons (o := { dst := some 58, op := Op.call { callee := Callee.builtin Builtin.append, args := #[Operand.tmp 55, Operand.tmp 57], argTypes := #[39, 39] }, type := 39, pos := "ref.go:175", after := #[{ on := 6, ground := Ground.data }, { on := 8, ground := Ground.data }, { on := 6, ground := Ground.chain }], guard := none }) rfl (fun K hK => ?_) AllZ.nil
              refine step_append_at rfl (.tmp 55) (.tmp 57) 39 rfl w5.heap.size 80 i0 _ 2 24 Tryz.underlying39 hi0 hz0 hz1 hz2 rfl (by decide) _ _ _ (by first | (simp [Act.eval]; done) | (simp [Act.eval, Act.put]; done)) O2.out _ 1 1 [.int .u64 (l2 : Int), .string s] (by first | (simp [Act.eval]; done) | (simp [Act.eval, Act.put]; done)) (by simp) (fun e => by cases e) L2.out.news (by simp [Value.oneCell']) (by unfold maxLen; omega) (by omega) (Hid.out hHeld.2.2.2).size ?_
              intro a3 cap3 w3 hown3 hgr3 hat3
              have hb3 := (Hid.out hHeld.2.2.2).grown hgr3 (Hid.out hHeld.2.2.2).size (fun k h => (O2.out.lt k h).1)
              have f3 : w3.frozen? ⟨p, 3, none⟩ = false := (World.frozen?_of_block (a := ⟨p, 3, none⟩) (hb3.block p hpW)).trans (R5.out.c.fz 3)
              have c3' : w3.cell? ⟨p, 3, none⟩ = some (.slice ao1 nO co1) := cell_go HC.out hb3
              have R := Lib.hid (RPF.out w3 a3 cap3 hb3 hown3)
              have B3 := Lib.hid hb3
              clear hown3 hgr3 hat3 hb3
              refine hK.out _ _ ?_ (fun hNew => ?_)
              · first | exact hHeld | exact ⟨cell_go hHeld.1 ((Below.refl _ _).alloc (Nat.le_refl _) _), cell_go hHeld.2.1 ((Below.refl _ _).alloc (Nat.le_refl _) _), cell_go hHeld.2.2.1 ((Below.refl _ _).alloc (Nat.le_refl _) _), Lib.hid ((Hid.out hHeld.2.2.2).alloc (Hid.out hHeld.2.2.2).size _)⟩ | exact ⟨cell_go HC.out B3.out, cell_go HX0.out B3.out, cell_go HX1.out B3.out, B3⟩ | exact ⟨cell_go HC.out B2.out, cell_go HX0.out B2.out, cell_go HX1.out B2.out, B2⟩
              clear hK K
              replace hHeld := hNew
              clear hNew
              ((try simp only [Act.put]); (try simp only [List.setIfInBounds_toArray]); (try simp only [List.set_cons_succ]); (try simp only [List.set_cons_zero]))
              refine anyZ_ready (rs := [10]) (by kernel_rfl) (by simp) ?_
              refine AllZ.cons (o := { dst := some 59, op := Op.nilCheck (Operand.tmp 49), type := 0, pos := "ref.go:175", after := #[{ on := 0, ground := Ground.data }, { on := 0, ground := Ground.phase }, { on := 1, ground := Ground.phase }, { on := 2, ground := Ground.phase }, { on := 3, ground := Ground.phase }, { on := 4, ground := Ground.phase }, { on := 5, ground := Ground.phase }, { on := 6, ground := Ground.phase }, { on := 7, ground := Ground.phase }, { on := 8, ground := Ground.phase }, { on := 9, ground := Ground.phase }], guard := none }) rfl (fun K hK => ?_) AllZ.nil
              go_simp
              refine hK.out _ _ ?_ (fun hNew => ?_)
              · first | exact hHeld | exact ⟨cell_go hHeld.1 ((Below.refl _ _).alloc (Nat.le_refl _) _), cell_go hHeld.2.1 ((Below.refl _ _).alloc (Nat.le_refl _) _), cell_go hHeld.2.2.1 ((Below.refl _ _).alloc (Nat.le_refl _) _), Lib.hid ((Hid.out hHeld.2.2.2).alloc (Hid.out hHeld.2.2.2).size _)⟩ | exact ⟨cell_go HC.out B3.out, cell_go HX0.out B3.out, cell_go HX1.out B3.out, B3⟩ | exact ⟨cell_go HC.out B2.out, cell_go HX0.out B2.out, cell_go HX1.out B2.out, B2⟩
              clear hK K
              replace hHeld := hNew
              clear hNew
              ((try simp only [Act.put]); (try simp only [List.setIfInBounds_toArray]); (try simp only [List.set_cons_succ]); (try simp only [List.set_cons_zero]))
              refine anyZ_take (i := 11) (oi := { dst := some 60, op := Op.fieldAddr 64 (Operand.tmp 59) 3, type := 0, pos := "ref.go:175", after := #[{ on := 10, ground := Ground.data }, { on := 0, ground := Ground.phase }, { on := 1, ground := Ground.phase }, { on := 2, ground := Ground.phase }, { on := 3, ground := Ground.phase }, { on := 4, ground := Ground.phase }, { on := 5, ground := Ground.phase }, { on := 6, ground := Ground.phase }, { on := 7, ground := Ground.phase }, { on := 8, ground := Ground.phase }, { on := 9, ground := Ground.phase }], guard := none }) (v := ?_) rfl (by kernel_rfl) (by kernel_rfl) (by kernel_rfl) (by kernel_rfl) (fun _ _ _ h => h) (Or.inl ⟨by rfl, ?_⟩) (by assumption) ?_
              rotate_left
              · (intro w hSw; (try dsimp only at hSw); go_simp; try with_reducible rfl)
              ((try simp only [Act.put]); (try simp only [List.setIfInBounds_toArray]); (try simp only [List.set_cons_succ]); (try simp only [List.set_cons_zero]))
              refine anyZ_ready (rs := [12]) (by kernel_rfl) (by simp) ?_
              refine AllZ.last (o := { dst := none, op := Op.store 39 (Operand.tmp 60) (Operand.tmp 58), type := 0, pos := "ref.go:175", after := #[{ on := 11, ground := Ground.data }, { on := 9, ground := Ground.data }, { on := 9, ground := Ground.chain }, { on := 0, ground := Ground.phase }, { on := 1, ground := Ground.phase }, { on := 2, ground := Ground.phase }, { on := 3, ground := Ground.phase }, { on := 4, ground := Ground.phase }, { on := 5, ground := Ground.phase }, { on := 6, ground := Ground.phase }, { on := 7, ground := Ground.phase }, { on := 8, ground := Ground.phase }, { on := 9, ground := Ground.phase }], guard := none }) rfl (fun K hK => ?_)
              go_simp
              refine hK.out _ _ ?_
              clear hK K
              ((try simp only [Act.put]); (try simp only [List.setIfInBounds_toArray]); (try simp only [List.set_cons_succ]); (try simp only [List.set_cons_zero]))
              refine anyZ_done (by kernel_rfl) ?_ _
              refine NoPanic.normal ?_
              go_wp2_with fail
              go_meet
              exact ⟨_, _, R.out.1, R.out.2⟩

          case rest =>
            obtain ⟨a3, c3, r6, k6⟩ := hcut
            have O7 := Lib.hid (own_carry O5a.out (fun j hj => k6.block j (O5a.out.lt j hj).2 (fun e => RP.out (e ▸ hj))))
            have x0 : wc.cell? ⟨xb, 0, none⟩ = some (.int .u64 (l2 : Int)) := (k6.cell (p := ⟨xb, 0, none⟩) hx5 XP.out).trans HX0.out
            have x1 : wc.cell? ⟨xb, 1, none⟩ = some (.string s) := (k6.cell (p := ⟨xb, 1, none⟩) hx5 XP.out).trans HX1.out
            have R6 := Lib.hid r6
            have K6 := Lib.hid (K5.out.trans k6 (fun _ _ f => f))
            have W6 := Lib.hid (Nat.le_trans K5.out.size k6.size)
            have hk2 : k ≤ 1000 := by omega
            clear r6 k6 HC HX0 HX1 LN ON SL RPF OA OB OC LB LC R5 O5a K5
            go_wp2_with (at_builtin
                         go_loud (refine wpList_append_at rfl (.tmp 61) (.tmp 63) 39 rfl W.heap.size 80 i0 _ 2 24 Tryz.underlying39 hi0 hz0 hz1 hz2 rfl (by decide) _ _ _ rfl (World.ownsRow.alloc O7.out _) (some ⟨wc.heap.size, 0, none⟩) 1 1 [.int .u64 (l2 : Int), .string s] rfl rfl (fun e => by cases e) (fun ad e => by cases e; exact World.news_of_block (heap_alloc_new _ _)) (by simp [Value.oneCell']) (by unfold maxLen; omega) (by omega) (by have := W6.out; simp; omega) ?_
                                  intro v8 w8 hown8 hgr8 hat8
                                  obtain ⟨g8, cap8, rfl, _⟩ := hown8.form (by omega)
                                  have R8 := Lib.hid (goes_step R6.out K6.out (fun j e => (O7.out.lt j e).1) L2.out hkw HS.out hlt0 hown8 hgr8 (hat8 g8 rfl))
                                  clear hown8 hgr8 hat8))
            go_roundw
            case rel => exact R8.out
            case measure => simp only [lenZ]; omega
      · obtain rfl : k = m := by omega
        have dk : decide (k < k) = false := decide_eq_false (by omega)
        have R := Lib.hid (goes_done hmw O1.out R1.out K1.out)
        clear hlt
        rw [dk]
        go_wp2_with fail
        go_ret
        exact R.out
end

end Go.Proofs.YtfbojcaedcimcaaGreat

/-
  The document's own ship: NewShip, Room, Push, Tick.
-/
namespace Go.Proofs.YtfbojcaedcimcaaGreat
open Go.RowKit

/-- It lies so. -/
def ReAt (w : World) (N p : Nat) (X : Nat → Prop) (S : Sh) : Prop := ∃ q ao co aw cw, ReR w N p q X S.win S.que S.g S.last S.pa ao co S.out aw cw S.waits
/-- A call's outcome. -/
def RePost (W : World) (N p : Nat) (X : Nat → Prop) (S : Sh) (r : Value → Value) (g : Nat) (ss : List ByteArray) (E : Ending) (w' : World) : Prop :=
  ∃ a cap, E = .returned (r (.slice a ss.length cap)) ∧ ReAt w' N p X S ∧ Keep (fun k => N ≤ k ∧ ¬ X k) W w' ∧ RtR (fun k => W.heap.size ≤ k) w' (.slice a ss.length cap) g ss

section
variable {w w' : World} {N p n : Nat} {X X' : Nat → Prop} {S : Sh}
theorem ReAt.carry (h : ReAt w N p X S) (hs : w.heap.size ≤ w'.heap.size) (hb : ∀ k, k < w.heap.size → ¬ X k → w'.heap[k]? = w.heap[k]?) (hX : ∀ k, X' k → X k ∨ w.heap.size ≤ k) (hX' : ∀ k, X' k → k < w'.heap.size) : ReAt w' N p X' S := by
  obtain ⟨q, ao, co, aw, cw, hR⟩ := h
  exact ⟨q, ao, co, aw, cw, hR.carry hs hb hX hX'⟩
theorem ReAt.below (h : ReAt w N p X S) (hb : Below w.heap.size w w') : ReAt w' N p X S := by
  obtain ⟨q, ao, co, aw, cw, hR⟩ := h
  exact ⟨q, ao, co, aw, cw, hR.below hb⟩
theorem ReAt.drewN (h : ReAt w N p X S) (k : Nat) : ReAt (w.drewN k) N p X S := h.below ⟨rfl, rfl, rfl, Nat.le_refl _, fun _ _ => rfl⟩
theorem ReAt.less (h : ReAt w N p X S) (hX : ∀ k, X' k → X k) : ReAt w N p X' S := by
  obtain ⟨q, ao, co, aw, cw, hR⟩ := h
  exact ⟨q, ao, co, aw, cw, hR.less hX⟩
theorem ReAt.size (h : ReAt w N p X S) : N ≤ w.heap.size ∧ p < w.heap.size := by
  obtain ⟨q, ao, co, aw, cw, hR⟩ := h
  have := hR.low.1
  have := hR.lt.1
  omega
theorem ReR.keepN {q win que g last : Nat} {P : Pa} {ao aw : Option Addr} {co cw : Nat} {LO LW : List ByteArray} (h : ReR w N p q X win que g last P ao co LO aw cw LW) : ∀ k, (k = p ∨ k = q) → N ≤ k ∧ ¬ X k := by
  rintro k (rfl | rfl)
  · exact ⟨h.low.1, h.nx.1⟩
  · exact ⟨h.low.2, h.nx.2⟩

theorem Sh.parts2 {LO LQ : List ByteArray} {m : Nat} (h : LO ++ LQ = S.all.drop S.g) (hm : LO.length + m = S.n) : LO ++ LQ.take m = S.out ∧ LQ.drop m = S.waits := by
  constructor
  · unfold Sh.out
    rw [← h, ← hm, List.take_length_add_append]
  · unfold Sh.waits
    rw [← List.drop_drop, ← h, ← hm, List.drop_length_add_append]
theorem Sh.went2 {T : Sh} {LO LQ : List ByteArray} {m : Nat} (h : LO ++ LQ = T.all.drop T.g) (hS : S.last = T.g + LO.length) (hm : LO.length + m = T.n) : LQ.take m = S.went T := by
  have hl : T.last = S.last + m := by unfold Sh.last at hS ⊢; omega
  unfold Sh.went
  rw [hl, Nat.add_sub_cancel_left, hS, ← List.drop_drop, ← h, List.drop_left]

theorem re_room {W : World} {q win que g last : Nat} {P : Pa} {ao aw : Option Addr} {co cw : Nat} {LO LW : List ByteArray} (h : ReR W N p q X win que g last P ao co LO aw cw LW) (r : Bool) (hq : 2 ≤ que ∧ que ≤ 32) :
    Calls Tryz.prog 9 #[.pointer (some ⟨p, 0, none⟩), .bool r] W fun E w' => E = .returned (.bool (decide ((LW.length : Int) < if r then (que : Int) else (que : Int) - 1))) ∧ ∃ n, w' = W.drewN n := by
  obtain ⟨c0, c1, c2, c3, c4, c5⟩ := h.cells
  have hw : IntKind.i64.wrap ((que : Int) - 1) = (que : Int) - 1 := wrap_j (by omega)
  clear h
  cases r
  · obtain ⟨b, hb⟩ : ∃ b, decide ((LW.length : Int) < (que : Int) - 1) = b := ⟨_, rfl⟩
    have e : decide ((LW.length : Int) < if false = true then (que : Int) else (que : Int) - 1) = b := hb
    rw [e]
    clear e
    go_enter Tryz.func9, Tryz.ntmps9
    go_wp2_with fail
    go_quiet (fail)
    go_wp2_with fail
    go_ret
    exact ⟨rfl, _, rfl⟩
  · obtain ⟨b, hb⟩ : ∃ b, decide ((LW.length : Int) < (que : Int)) = b := ⟨_, rfl⟩
    have hb2 : decide (LW.length < que) = b := by rw [← hb]; exact decide_eq_decide.2 (by omega)
    have e : decide ((LW.length : Int) < if true = true then (que : Int) else (que : Int) - 1) = b := hb
    rw [e]
    clear e
    go_enter Tryz.func9, Tryz.ntmps9
    go_wp2_with fail
    go_quiet (fail)
    go_wp2_with fail
    go_ret
    exact ⟨rfl, _, rfl⟩

/-- One more waits. -/
theorem ReR.queue {w w3 : World} {q win que g last cap : Nat} {P : Pa} {ao aw a : Option Addr} {co cw : Nat} {LO LW : List ByteArray} {s : ByteArray} (h : ReR w N p q X win que g last P ao co LO aw cw LW) (hb : Below w.heap.size w w3)
    (hown : w3.ownsRow w.heap.size 9 1 (.slice a (LW.length + 1) cap) (LW.length + 1) (LW.map Value.string ++ [.string s])) :
    ReR (w3.setCell ⟨p, 4, none⟩ (.slice a (LW.length + 1) cap)) N p q X win que g last P ao co LO a cap (LW ++ [s]) ∧ Keep (fun k => k = p) w (w3.setCell ⟨p, 4, none⟩ (.slice a (LW.length + 1) cap)) := by
  have hk : Keep (fun k => k = p) w (w3.setCell ⟨p, 4, none⟩ (.slice a (LW.length + 1) cap)) := (Keep.ofBelow (F := fun k => k = p) hb).setCell (p := ⟨p, 4, none⟩) rfl _
  obtain ⟨a', cap', e, hr⟩ := own_row hown
  cases e
  have hlt := hown.lt
  have hpl := h.lt
  have e2 : (LW ++ [s]).length = LW.length + 1 := by simp
  have hr2 : RowV (Free X p q) w3 a cap (LW ++ [s]).length 1 ((LW ++ [s]).map Value.string) := by
    rw [e2, List.map_append]
    exact hr.mono (fun k _ e => by
      have := (hlt k e).1
      exact ⟨by omega, by omega, fun f => by have := h.xs k f; omega⟩)
  refine ⟨h.turn hk ?_ (h.oo.past hk) ?_, hk⟩
  · rw [e2]
    exact ((h.c.below hb).put 4 _).conv (six rfl rfl rfl rfl rfl rfl)
  · exact hr2.carry (by simp [World.setCell]) (fun k _ hA => heap_setCell_other w3 ⟨p, 4, none⟩ k _ hA.1)

set_option maxRecDepth 20000 in
set_option maxHeartbeats 8000000 in
theorem re_push_no {W : World} {s : ByteArray} {r : Bool} (h : ReAt W N p X S) (ho : S.ok n) (hr : S.room r = false) :
    Calls Tryz.prog 11 #[.pointer (some ⟨p, 0, none⟩), .string s, .bool r] W (RePost W N p X S (fun v => .tuple #[v, .bool false]) S.last []) := by
  have H := Lib.hid h
  obtain ⟨q, ao, co, aw, cw, hR⟩ := h
  have RM := Lib.hid (show Calls Tryz.prog 9 #[.pointer (some ⟨p, 0, none⟩), .bool r] W fun E w' => E = .returned (.bool false) ∧ ∃ n, w' = W.drewN n by
    have := re_room hR r ho.que
    rw [show decide ((S.waits.length : Int) < if r then (S.que : Int) else (S.que : Int) - 1) = false from hr] at this
    exact this)
  clear hR hr
  go_enter Tryz.func11, Tryz.ntmps11
  go_wp2_with (go_at_call 9; refine RM.out.mono ?_; rintro e w' ⟨rfl, k, rfl⟩)
  go_ret2
  exact ⟨none, 0, rfl, H.out.drewN k, (Keep.refl _ _).drewN k, ⟨none, 0, rfl, RowV.none _ _ _⟩⟩

theorem re_push_done {W w' : World} {q mm : Nat} {P' : Pa} {s : ByteArray} {a5 ao5 aw5 : Option Addr} {cap5 co5 cw5 : Nat} (ho : S.ok n) (hm : min (S.win - S.out.length) (S.waits ++ [s]).length = mm) (hP : P' = S.pa.start)
    (h1 : ReR w' N p q X S.win S.que S.g (S.last + mm) P' ao5 co5 (S.out ++ (S.waits ++ [s]).take mm) aw5 cw5 ((S.waits ++ [s]).drop mm)) (h2 : Keep (fun k => N ≤ k ∧ ¬ X k) W w') (h3 : RtR (fun k => W.heap.size ≤ k) w' (.slice a5 mm cap5) S.last ((S.waits ++ [s]).take mm)) :
    RePost W N p X (S.push s) (fun v => .tuple #[v, .bool true]) S.last (S.went (S.push s)) (.returned (.tuple #[.slice a5 mm cap5, .bool true])) w' := by
  subst hP
  have hn := S.n_le
  have hg := ho.g
  have hw := ho.win
  have hLO := S.out_len
  have hLW := S.waits_len
  have hal : (S.push s).all.length = S.all.length + 1 := by show (S.all ++ [s]).length = _; simp
  have hTn : (S.push s).n = min S.win (S.all.length + 1 - S.g) := by
    show min S.win ((S.push s).all.length - S.g) = _
    rw [hal]
  have hSn : S.n = min S.win (S.all.length - S.g) := rfl
  have hlw : (S.waits ++ [s]).length = S.waits.length + 1 := by simp
  rw [hlw] at hm
  have hall : S.out ++ (S.waits ++ [s]) = (S.push s).all.drop (S.push s).g := by
    show _ = (S.all ++ [s]).drop S.g
    rw [List.drop_append_of_le_length hg, ← List.append_assoc]
    congr 1
    unfold Sh.out Sh.waits
    rw [← List.drop_drop, List.take_append_drop]
  have hmT : S.out.length + mm = (S.push s).n := by rw [hTn]; omega
  obtain ⟨e1, e2⟩ := Sh.parts2 hall hmT
  have e3 := Sh.went2 (S := S) hall (by show S.last = S.g + _; rw [hLO]; rfl) hmT
  have hla : (S.push s).last = S.last + mm := by
    show S.g + (S.push s).n = S.g + S.n + mm
    omega
  have hlen : (S.went (S.push s)).length = mm := by rw [← e3, List.length_take, hlw]; omega
  rw [e1, e2, ← hla] at h1
  rw [e3] at h3
  exact ⟨a5, cap5, by rw [hlen], ⟨q, ao5, co5, aw5, cw5, h1⟩, h2, by rw [hlen]; exact h3⟩

set_option maxRecDepth 20000 in
set_option maxHeartbeats 8000000 in
theorem re_push_ok {W : World} {s : ByteArray} {r : Bool} (h : ReAt W N p X S) (ho : S.ok n) (hn : n ≤ 500) (hr : S.room r = true) :
    Calls Tryz.prog 11 #[.pointer (some ⟨p, 0, none⟩), .string s, .bool r] W (RePost W N p X (S.push s) (fun v => .tuple #[v, .bool true]) S.last (S.went (S.push s))) := by
  obtain ⟨i0, hi0, hz0, hz1, hz2⟩ := info_g Tryz.infoSt
  obtain ⟨q, ao, co, aw, cw, hR⟩ := h
  have RM := Lib.hid (show Calls Tryz.prog 9 #[.pointer (some ⟨p, 0, none⟩), .bool r] W fun E w' => E = .returned (.bool true) ∧ ∃ n, w' = W.drewN n by
    have := re_room hR r ho.que
    rw [show decide ((S.waits.length : Int) < if r then (S.que : Int) else (S.que : Int) - 1) = true from hr] at this
    exact this)
  have hLO := S.out_len
  have hLW := S.waits_len
  have hoa := ho.all
  have hnn := S.n_le
  have R := Lib.hid hR
  have PQ := Lib.hid hR.lt
  have HO := Lib.hid ho
  have LLO := Lib.hid hLO
  have LLW := Lib.hid hLW
  have HN := Lib.hid hnn
  clear hR hr ho hLO hLW
  go_enter Tryz.func11, Tryz.ntmps11
  go_wp2_with fail
  refine RM.out.mono ?_
  rintro e w' ⟨rfl, k0, rfl⟩
  have R1 := Lib.hid (R.out.drewN k0)
  have K1 := Lib.hid ((Keep.refl (fun k => N ≤ k ∧ ¬ X k) W).drewN k0)
  generalize W.drewN k0 = W1 at *
  obtain ⟨c0, c1, c2, c3, c4, c5⟩ := R1.out.cells
  obtain ⟨nO, hnO⟩ : ∃ nO, S.out.length = nO := ⟨_, rfl⟩
  obtain ⟨nw, hnw⟩ : ∃ nw, S.waits.length = nw := ⟨_, rfl⟩
  obtain ⟨csW, hcs⟩ : ∃ csW, S.waits.map Value.string = csW := ⟨_, rfl⟩
  rw [hnO] at c3
  rw [hnw] at c4
  have hnw2 : nw ≤ 500 := by have := LLW.out; omega
  have SW := Lib.hid (show RowV (Free X p q) W1 aw cw nw 1 csW by rw [← hnw, ← hcs]; exact R1.out.ow)
  have OW := Lib.hid (show ∀ u ∈ csW, u.oneCell' = true by rw [← hcs]; exact ones_s _)
  have LW := Lib.hid (show csW.length = nw * 1 by rw [← hcs, List.length_map, hnw, Nat.mul_one])
  have O1 := Lib.hid (own_none W1 9 W1.heap.size 1 (Nat.le_refl _))
  have Bh := Lib.hid (show Below W1.heap.size W1 (W1.alloc (.cells #[] 9)) from (Below.refl _ _).alloc (Nat.le_refl _) _)
  have QU := Lib.hid (show ∀ (w3 : World) (a3 : Option Addr) (cap3 : Nat), Below W1.heap.size W1 w3 → w3.ownsRow W1.heap.size 9 1 (.slice a3 (nw + 1) cap3) (nw + 1) (csW ++ [.string s]) →
      ReR (w3.setCell ⟨p, 4, none⟩ (.slice a3 (nw + 1) cap3)) N p q X S.win S.que S.g S.last S.pa ao co S.out a3 cap3 (S.waits ++ [s]) ∧ Keep (fun k => k = p) W1 (w3.setCell ⟨p, 4, none⟩ (.slice a3 (nw + 1) cap3)) by
    rw [← hnw, ← hcs]
    intro w3 a3 cap3 h1 h2
    exact R1.out.queue h1 h2)
  have NO := Lib.hid hnO
  have hpW := R1.out.lt.1
  clear R hnO hnw hcs c0 c1 c2 c5
  have HN2 := Lib.hid hnn
  clear hnn HN2
  obtain ⟨bb, hbb⟩ : ∃ bb, ((nO : Int) == 0) = bb := ⟨_, rfl⟩
  have hbb2 : (nO == 0) = bb := by rw [← hbb]; exact Bool.eq_iff_iff.2 (by simp)
  have BB := Lib.hid hbb2
  go_wp2_with (at_builtin; first
    | (refine wpList_append_at rfl (.tmp 21) (.tmp 25) 43 rfl W1.heap.size 9 i0 _ 1 16 Tryz.underlying43 hi0 hz0 hz1 hz2 rfl (by decide) _ _ _ rfl O1.out _ _ _ csW rfl LW.out (SW.out.below Bh.out).empty (SW.out.below Bh.out).news OW.out (by unfold maxLen; omega) (by omega) (by simp) ?_
       intro v2 w2 hown2 hgr2 hat2
       rw [Nat.zero_add, List.nil_append] at hown2
       have hb2 := Bh.out.grown hgr2 (by simp) (fun k h => (O1.out.lt k h).1)
       have O2 := Lib.hid (own_below hown2 ((Below.refl _ w2).alloc (Nat.le_refl _) (.cells #[.string s] 9)))
       have L2 := Lib.hid (row_lit1 w2 (.string s) #[.string s] 9 rfl)
       have B2 := Lib.hid (hb2.alloc hb2.size (.cells #[.string s] 9))
       clear hown2 hgr2 hb2 hat2)
    | (refine wpList_append_at rfl (.tmp 26) (.tmp 28) 43 rfl W1.heap.size 9 i0 _ 1 16 Tryz.underlying43 hi0 hz0 hz1 hz2 rfl (by decide) _ _ _ rfl O2.out _ _ _ [.string s] rfl (by simp) (fun e => by cases e) L2.out.news (by simp [Value.oneCell']) (by unfold maxLen; omega) (by omega) B2.out.size ?_
       intro v3 w3 hown3 hgr3 hat3
       obtain ⟨a3, cap3, rfl⟩ := own_form hown3
       have hb4 := B2.out.grown hgr3 B2.out.size (fun k h => (O2.out.lt k h).1)
       have c4' : w3.cell? ⟨p, 4, none⟩ = some (.slice aw nw cw) := cell_go c4 hb4
       have f4' : w3.frozen? ⟨p, 4, none⟩ = false := (World.frozen?_of_block (a := ⟨p, 4, none⟩) (hb4.block p hpW)).trans (R1.out.c.fz 4)
       have R3 := Lib.hid (QU.out w3 a3 cap3 hb4 hown3)
       clear hown3 hgr3 hb4 hat3))
  obtain ⟨w4, hw4⟩ : ∃ w4, w4 = w3.setCell ⟨p, 4, none⟩ (.slice a3 (nw + 1) cap3) := ⟨_, rfl⟩
  rw [← hw4] at R3 ⊢
  have GO := Lib.hid (goes_any R3.out.1 (by rw [S.out_len]; rfl) HO.out.win.2 (by rw [S.out_len]; exact HN.out.1) (by rw [List.length_append, List.length_singleton]; have := LLW.out; omega) (by have := HO.out.last_le; omega))
  have GO := Lib.hid (show Calls Tryz.prog 29 #[.pointer (some ⟨p, 0, none⟩)] w4 (GoesPost w4 N p q X S.win S.que S.g S.last S.pa S.out (S.waits ++ [s]) (min (S.win - S.out.length) (S.waits ++ [s]).length)) from GO.out)
  obtain ⟨mm, hmm⟩ : ∃ mm, min (S.win - S.out.length) (S.waits ++ [s]).length = mm := ⟨_, rfl⟩
  rw [hmm] at GO
  have MM := Lib.hid hmm
  have K4 := Lib.hid (K1.out.trans (R3.out.2.mono (fun k e => R1.out.keepN k (Or.inl e))) (fun _ _ f => f))
  clear hw4 hmm
  refine GO.out.mono ?_
  rintro E w5 ⟨a5, cap5, ao5, co5, aw5, cw5, rfl, hR5, hK5, hI5⟩
  obtain ⟨x0, x1, x2, x3, x4, x5⟩ := hR5.cells
  obtain ⟨n5, hn5⟩ : ∃ n5, (S.out ++ (S.waits ++ [s]).take mm).length = n5 := ⟨_, rfl⟩
  rw [hn5] at x3
  have hpos : 0 < n5 := by
    have h1 := MM.out
    have h2 := LLO.out
    have h3 := HO.out.win
    have h4 := HN.out
    rw [List.length_append, List.length_singleton] at h1
    rw [← hn5, List.length_append, List.length_take, List.length_append, List.length_singleton]
    omega
  have d5 : decide ((n5 : Int) > 0) = true := decide_eq_true (by omega)
  have d5' : decide (0 < n5) = true := decide_eq_true hpos
  have R5 := Lib.hid hR5
  have K5 := Lib.hid (K4.out.trans (hK5.mono (fun k e => hR5.keepN k (Or.inl e))) (fun _ _ f => f))
  have I5 := Lib.hid (hI5.mono (A' := fun k => W.heap.size ≤ k) (fun k _ h => Nat.le_trans K4.out.size h))
  have DN := Lib.hid (fun (w' : World) (P' : Pa) (hP : P' = S.pa.start) (h1 : ReR w' N p q X S.win S.que S.g (S.last + mm) P' ao5 co5 (S.out ++ (S.waits ++ [s]).take mm) aw5 cw5 ((S.waits ++ [s]).drop mm)) (h2 : Keep (fun k => N ≤ k ∧ ¬ X k) W w') (h3 : RtR (fun k => W.heap.size ≤ k) w' (.slice a5 mm cap5) S.last ((S.waits ++ [s]).take mm)) => re_push_done HO.out MM.out hP h1 h2 h3)
  clear hR5 hK5 hI5 hn5 hpos GO x0 x1 x4 x5 K4 QU
  cases bb
  · have P5 := Lib.hid (show S.pa = S.pa.start by
      have h1 := of_decide_eq_false (show decide (nO = 0) = false from BB.out)
      have h2 := NO.out
      have h3 := S.out_len
      have h4 := HN.out
      have h5 := HO.out.runs
      show S.pa = if S.pa.l = 0 then _ else S.pa
      rw [if_neg (by omega)])
    go_wp2_with fail
    go_ret2
    exact DN.out w5 S.pa P5.out R5.out K5.out I5.out
  · go_wp2_with (go_at_call 30; refine (pr_start R5.out.pr HO.out.pa).mono ?_; intro e w6 hp; obtain ⟨rfl, h1, hk⟩ := R5.out.alarm hp
                 have R6 := Lib.hid h1
                 have K6 := Lib.hid (K5.out.trans (hk.mono (fun k e => R5.out.keepN k e)) (fun _ _ f => f))
                 have I6 := Lib.hid (I5.out.carry hk.size (fun k hk2 hA => hk.block k hk2 (fun e => by
                   have h8 := PQ.out
                   omega)))
                 clear hp h1 hk)
    go_ret2
    exact DN.out _ _ rfl R6.out K6.out I6.out
end

end Go.Proofs.YtfbojcaedcimcaaGreat

/-
  The document's own ship: NewShip, Tick, Ack.
-/
namespace Go.Proofs.YtfbojcaedcimcaaGreat
open Go.RowKit

section
variable {N p n : Nat} {X : Nat → Prop} {S : Sh}

set_option maxRecDepth 20000 in
set_option maxHeartbeats 8000000 in
theorem re_tick {W : World} (h : ReAt W N p X S) (ho : S.ok n) (hn : n ≤ 500) :
    Calls Tryz.prog 20 #[.pointer (some ⟨p, 0, none⟩)] W (RePost W N p X S.tick (fun v => v) S.g (if S.pa.rings then S.out else [])) := by
  obtain ⟨i0, hi0, hz0, hz1, hz2⟩ := info_g Tryz.infoRt
  obtain ⟨q, ao, co, aw, cw, hR⟩ := h
  obtain ⟨c0, c1, c2, c3, c4, c5⟩ := hR.cells
  have R := Lib.hid hR
  have T := Lib.hid (pr_tick hR.pr ho.pa (by omega))
  have hln : S.out.length ≤ 500 := by have := S.out_len; have := S.n_le; have := ho.all; omega
  clear hR c0 c1 c3 c4 c5
  go_enter Tryz.func20, Tryz.ntmps20
  cases hb : S.pa.rings
  · have PP := Lib.hid (show ∀ w', ReR w' N p q X S.win S.que S.g S.last S.pa.tick ao co S.out aw cw S.waits → Keep (fun k => N ≤ k ∧ ¬ X k) W w' → RePost W N p X S.tick (fun v => v) S.g (if false = true then S.out else []) (.returned (.slice none 0 0)) w' from
      fun w' h1 h2 => ⟨none, 0, rfl, ⟨q, ao, co, aw, cw, h1⟩, h2, ⟨none, 0, rfl, RowV.none _ _ _⟩⟩)
    rw [hb] at T
    clear hb
    go_wp2_with (go_at_call 42; refine T.out.mono ?_; intro e w' hp; obtain ⟨rfl, h1, hk⟩ := R.out.alarm hp; have R2 := Lib.hid h1; have K2 := Lib.hid (hk.mono R.out.keepN); clear hp h1 hk)
    go_ret
    exact PP.out _ R2.out K2.out
  · obtain ⟨nO, hnO⟩ : ∃ nO, S.out.length = nO := ⟨_, rfl⟩
    obtain ⟨csO, hcs⟩ : ∃ csO, itS S.g S.out = csO := ⟨_, rfl⟩
    have LN := Lib.hid (show csO.length = nO * 2 by rw [← hcs, itS_len, hnO])
    have ON := Lib.hid (show ∀ u ∈ csO, u.oneCell' = true by rw [← hcs]; exact itS_one _ _)
    have PQ := Lib.hid R.out.lt
    have PP := Lib.hid (show ∀ w1 w' a2 cap2, ReR w1 N p q X S.win S.que S.g S.last S.pa.tick ao co S.out aw cw S.waits → Keep (fun k => N ≤ k ∧ ¬ X k) W w1 → Below w1.heap.size w1 w' → w'.ownsRow w1.heap.size 80 2 (.slice a2 nO cap2) nO csO → RePost W N p X S.tick (fun v => v) S.g (if true = true then S.out else []) (.returned (.slice a2 nO cap2)) w' from by
      intro w1 w' a2 cap2 h1 h2 h3 h4
      obtain ⟨a3, c3, e, hr⟩ := own_row h4
      cases e
      subst hnO hcs
      exact ⟨a2, cap2, rfl, ⟨q, ao, co, aw, cw, h1.below h3⟩, h2.trans (Keep.ofBelow (F := fun _ => False) h3) (fun _ _ f => f.elim), ⟨a2, cap2, rfl, hr.mono (fun k _ e => Nat.le_trans h2.size (h4.lt k e).1)⟩⟩)
    rw [hb] at T
    have hnn : nO ≤ 500 := by omega
    clear hb
    go_wp2_with (first
      | (go_at_call 42; refine T.out.mono ?_; intro e w1 hp; obtain ⟨rfl, h1, hk⟩ := R.out.alarm hp
         have R2 := Lib.hid h1
         have K2 := Lib.hid (hk.mono R.out.keepN)
         have c3 := h1.cells.2.2.2.1
         have hpW := h1.lt.1
         rw [hnO] at c3
         have O1 := Lib.hid (own_none w1 80 w1.heap.size 2 (Nat.le_refl _))
         have Bh := Lib.hid (show Below w1.heap.size w1 (w1.alloc (.cells #[] 80)) from (Below.refl _ _).alloc (Nat.le_refl _) _)
         have SO := Lib.hid (show RowV (Free X p q) w1 ao co nO 2 csO by rw [← hnO, ← hcs]; exact h1.oo)
         clear hp h1 hk hnO hcs)
      | (at_builtin; refine wpList_append_at rfl (.tmp 9) (.tmp 13) 39 rfl w1.heap.size 80 i0 _ 2 24 Tryz.underlying39 hi0 hz0 hz1 hz2 rfl (by decide) _ _ _ rfl O1.out _ _ _ csO rfl LN.out (SO.out.below Bh.out).empty (SO.out.below Bh.out).news ON.out (by unfold maxLen; omega) (by omega) (by simp) ?_
         intro v2 w2 hown2 hgr2 hat2
         rw [Nat.zero_add, List.nil_append] at hown2
         obtain ⟨a2, cap2, rfl⟩ := own_form hown2
         have R9 := Lib.hid (PP.out w1 w2 a2 cap2 R2.out K2.out (Bh.out.grown hgr2 (by simp) (fun k h => (O1.out.lt k h).1)) hown2)
         clear hown2 hgr2 hat2))
    go_ret
    exact R9.out

theorem re_new (W : World) (N w q f m : Nat) (X : Nat → Prop) (hN : N ≤ W.heap.size) (hX : ∀ k, X k → k < W.heap.size) :
    Calls Tryz.prog 6 #[.int .i64 (w : Int), .int .i64 (q : Int), .int .i64 (f : Int), .int .i64 (m : Int)] W fun E w' => ∃ p, E = .returned (.pointer (some ⟨p, 0, none⟩)) ∧ ReAt w' N p X (Sh.new w q f m) ∧ Below W.heap.size W w' := by
  have PP := Lib.hid (show ∀ w1, PrAt w1 W.heap.size (Pa.new f m) → Below W.heap.size W w1 → W.heap.size < w1.heap.size →
      ReAt (w1.alloc (.cells #[.int .i64 (w : Int), .int .i64 (q : Int), .pointer (some ⟨W.heap.size, 0, none⟩), .slice none 0 0, .slice none 0 0, .int .u64 0] 64)) N w1.heap.size X (Sh.new w q f m) from by
    intro w1 hA hb hl
    have hc := (Cel.new w1 [.int .i64 (w : Int), .int .i64 (q : Int), .pointer (some ⟨W.heap.size, 0, none⟩), .slice none 0 0, .slice none 0 0, .int .u64 0] 64).conv (V2 := reC w q (.slice none 0 0) (.slice none 0 0) (Sh.new w q f m).last W.heap.size) (six rfl rfl rfl rfl rfl (by rw [new_last]; rfl))
    have e1 : (Sh.new w q f m).out = [] := by simp [Sh.out, Sh.new]
    have e2 : (Sh.new w q f m).waits = [] := by simp [Sh.waits, Sh.new]
    refine ⟨W.heap.size, none, 0, none, 0, ?_⟩
    rw [e1, e2]
    exact ⟨hc, hA.below ((Below.refl _ _).alloc (Nat.le_refl _) _), RowV.none _ _ _, RowV.none _ _ _, by omega, ⟨fun h => by have := hX _ h; omega, fun h => by have := hX _ h; omega⟩, ⟨by omega, hN⟩, fun k h => by have := hX k h; simp; omega⟩)
  go_enter Tryz.func6, Tryz.ntmps6
  go_wp2_with (go_at_call 25; refine (pr_new f m W).mono ?_; rintro e w1 ⟨rfl, hA, hb, hl⟩; have R := Lib.hid (PP.out w1 hA hb hl); have B := Lib.hid hb; clear hA hb hl)
  go_ret
  exact ⟨_, rfl, R.out, B.out.alloc B.out.size _⟩

theorem re_ack_no {W : World} {k : Nat} (h : ReAt W N p X S) (hr : S.acks k = false) :
    Calls Tryz.prog 16 #[.pointer (some ⟨p, 0, none⟩), .int .u64 (k : Int)] W (RePost W N p X S (fun v => v) S.last []) := by
  have PP := Lib.hid (show RePost W N p X S (fun v => v) S.last [] (.returned (.slice none 0 0)) W from ⟨none, 0, rfl, h, Keep.refl _ _, ⟨none, 0, rfl, RowV.none _ _ _⟩⟩)
  obtain ⟨q, ao, co, aw, cw, hR⟩ := h
  obtain ⟨c0, c1, c2, c3, c4, c5⟩ := hR.cells
  have hro := hR.oo
  have hr2 : ¬ (S.g < k ∧ k ≤ S.last) := fun h => by rw [show S.acks k = true by unfold Sh.acks; simp; exact h] at hr; cases hr
  by_cases h0 : S.out.length = 0
  · rw [h0] at c3
    clear hR hro hr hr2 h0
    go_enter Tryz.func16, Tryz.ntmps16
    go_wp2_with fail
    go_ret
    exact PP.out
  · obtain ⟨x0, -⟩ := itS_at 0 S.g S.out (by omega)
    obtain ⟨bk, off, rfl, hbW, -, k0⟩ := hro.cell _ _ x0
    obtain ⟨g1, hg1⟩ : ∃ g1, S.g + 0 + 1 = g1 := ⟨_, rfl⟩
    rw [hg1] at k0
    obtain ⟨nO, hnO⟩ : ∃ nO, S.out.length = nO := ⟨_, rfl⟩
    obtain ⟨la, hla⟩ : ∃ la, S.last = la := ⟨_, rfl⟩
    rw [hnO] at c3
    rw [hla] at c5
    have y0 : W.cell? ⟨bk, off, none⟩ = some (.int .u64 (g1 : Int)) := by simpa using k0
    have d0 : ((nO : Int) == 0) = false := by simp; omega
    have d0' : (nO == 0) = false := by simp; omega
    have d0n : (0 : Int) < (nO : Int) := by omega
    by_cases h1 : k < g1
    · have d1 : decide ((k : Int) < (g1 : Int)) = true := decide_eq_true (by omega)
      have d1' : decide (k < g1) = true := decide_eq_true (by omega)
      clear hR hro hr hr2 h0 x0 k0 hg1 hnO hla h1
      go_enter Tryz.func16, Tryz.ntmps16
      go_wp2_with fail
      go_ret
      exact PP.out
    · have d1 : decide ((k : Int) < (g1 : Int)) = false := decide_eq_false (by omega)
      have d1' : decide (k < g1) = false := decide_eq_false (by omega)
      have d2 : decide ((k : Int) > (la : Int)) = true := decide_eq_true (by omega)
      have d2' : decide (la < k) = true := decide_eq_true (by omega)
      clear hR hro hr hr2 h0 x0 k0 hg1 hnO hla h1
      go_enter Tryz.func16, Tryz.ntmps16
      go_wp2_with fail
      go_ret
      exact PP.out

/-- The first that is out is no more. -/
theorem ReR.one {w : World} {q win que g last : Nat} {P : Pa} {ao aw : Option Addr} {co cw : Nat} {A : Addr} {s : ByteArray} {T LW : List ByteArray} (h : ReR w N p q X win que g last P ao co (s :: T) aw cw LW)
    (hA : (if co = 1 then ao else ao.map (·.add (1 * 2))) = some A) :
    ReR (w.setCell ⟨p, 3, none⟩ (.slice (some A) T.length (co - 1))) N p q X win que (g + 1) last P (some A) (co - 1) T aw cw LW ∧ Keep (fun k => k = p) w (w.setCell ⟨p, 3, none⟩ (.slice (some A) T.length (co - 1))) := by
  have hk : Keep (fun k => k = p) w (w.setCell ⟨p, 3, none⟩ (.slice (some A) T.length (co - 1))) := (Keep.refl (fun k => k = p) w).setCell (p := ⟨p, 3, none⟩) rfl _
  have hD := h.oo.drop 1 (by simp)
  rw [hA] at hD
  have hD2 : RowV (Free X p q) w (some A) (co - 1) T.length 2 (itS (g + 1) T) := hD
  exact ⟨h.turn hk ((h.c.put 3 _).conv (six rfl rfl rfl rfl rfl rfl)) (hD2.past hk) (h.ow.past hk), hk⟩

def AckRel (W : World) (N p q : Nat) (X : Nat → Prop) (S : Sh) (k : Nat) (aw : Option Addr) (cw : Nat) (wr : World) : Prop :=
  ∃ (j : Nat) (ao : Option Addr) (co : Nat), S.g + j ≤ k ∧ ReR wr N p q X S.win S.que (S.g + j) S.last S.pa ao co (S.out.drop j) aw cw S.waits ∧ Keep (fun k => k = p) W wr
def lenAt (w : World) (p : Nat) : Nat := lenZ ((w.cell? ⟨p, 3, none⟩).getD (.bool false))

theorem re_ack_done {W w' : World} {q k mm : Nat} {P' : Pa} {a5 ao5 aw5 : Option Addr} {cap5 co5 cw5 : Nat} (ho : S.ok n) (hr : S.acks k = true) (hm : min (S.win - (S.out.drop (k - S.g)).length) S.waits.length = mm) (hP : P' = (S.ack k).pa)
    (h1 : ReR w' N p q X S.win S.que k (S.last + mm) P' ao5 co5 (S.out.drop (k - S.g) ++ S.waits.take mm) aw5 cw5 (S.waits.drop mm)) (h2 : Keep (fun k => N ≤ k ∧ ¬ X k) W w') (h3 : RtR (fun k => W.heap.size ≤ k) w' (.slice a5 mm cap5) S.last (S.waits.take mm)) :
    RePost W N p X (S.ack k) (fun v => v) S.last (S.went (S.ack k)) (.returned (.slice a5 mm cap5)) w' := by
  subst hP
  have hgk : S.g < k ∧ k ≤ S.last := by unfold Sh.acks at hr; simpa using hr
  obtain ⟨hg1, hg2⟩ := hgk
  have hn := S.n_le
  have hg := ho.g
  have hw := ho.win
  have hLO := S.out_len
  have hLW := S.waits_len
  have hla0 : S.last = S.g + S.n := rfl
  have hTn : (S.ack k).n = min S.win (S.all.length - k) := rfl
  have hSn : S.n = min S.win (S.all.length - S.g) := rfl
  have hld : (S.out.drop (k - S.g)).length = S.n - (k - S.g) := by rw [List.length_drop, hLO]
  rw [hld] at hm
  have hall : S.out.drop (k - S.g) ++ S.waits = (S.ack k).all.drop (S.ack k).g := by
    show _ = S.all.drop k
    unfold Sh.out Sh.waits
    rw [List.drop_take, List.drop_drop, show S.g + (k - S.g) = k by omega]
    have := List.take_append_drop (S.n - (k - S.g)) (S.all.drop k)
    rw [List.drop_drop] at this
    rw [show S.g + S.n = k + (S.n - (k - S.g)) by omega]
    exact this
  have hmT : (S.out.drop (k - S.g)).length + mm = (S.ack k).n := by rw [hTn, hld]; omega
  obtain ⟨e1, e2⟩ := Sh.parts2 hall hmT
  have e3 := Sh.went2 (S := S) hall (by show S.last = k + _; rw [hld]; omega) hmT
  have hla : (S.ack k).last = S.last + mm := by
    show k + (S.ack k).n = _
    omega
  have hlen : (S.went (S.ack k)).length = mm := by rw [← e3, List.length_take]; omega
  rw [e1, e2, ← hla] at h1
  rw [e3] at h3
  exact ⟨a5, cap5, by rw [hlen], ⟨q, ao5, co5, aw5, cw5, h1⟩, h2, by rw [hlen]; exact h3⟩

set_option maxRecDepth 20000 in
set_option maxHeartbeats 8000000 in
theorem re_ack_ok {W : World} {k : Nat} (h : ReAt W N p X S) (ho : S.ok n) (hn : n ≤ 500) (hr : S.acks k = true) :
    Calls Tryz.prog 16 #[.pointer (some ⟨p, 0, none⟩), .int .u64 (k : Int)] W (RePost W N p X (S.ack k) (fun v => v) S.last (S.went (S.ack k))) := by
  obtain ⟨q, ao, co, aw, cw, hR⟩ := h
  obtain ⟨hg1, hg2⟩ : S.g < k ∧ k ≤ S.last := by unfold Sh.acks at hr; simpa using hr
  have hla0 : S.last = S.g + S.n := rfl
  have hln := ho.last_le
  have hLO := S.out_len
  have hLW := S.waits_len
  have hoa := ho.all
  have hnn := S.n_le
  obtain ⟨c0, c1, c2, c3, c4, c5⟩ := hR.cells
  have hro := hR.oo
  obtain ⟨x0, -⟩ := itS_at 0 S.g S.out (by omega)
  obtain ⟨bk, off, rfl, hbW, -, k0⟩ := hro.cell _ _ x0
  obtain ⟨g1, hg1'⟩ : ∃ g1, S.g + 0 + 1 = g1 := ⟨_, rfl⟩
  rw [hg1'] at k0
  obtain ⟨nO, hnO⟩ : ∃ nO, S.out.length = nO := ⟨_, rfl⟩
  obtain ⟨la, hla⟩ : ∃ la, S.last = la := ⟨_, rfl⟩
  rw [hnO] at c3
  rw [hla] at c5
  have y0 : W.cell? ⟨bk, off, none⟩ = some (.int .u64 (g1 : Int)) := by simpa using k0
  have d0 : ((nO : Int) == 0) = false := by simp; omega
  have d0' : (nO == 0) = false := by simp; omega
  have d0n : (0 : Int) < (nO : Int) := by omega
  have d1 : decide ((k : Int) < (g1 : Int)) = false := decide_eq_false (by omega)
  have d1' : decide (k < g1) = false := decide_eq_false (by omega)
  have d2 : decide ((k : Int) > (la : Int)) = false := decide_eq_false (by omega)
  have d2' : decide (la < k) = false := decide_eq_false (by omega)
  have R := Lib.hid hR
  have HO := Lib.hid ho
  have HR := Lib.hid hr
  have LLO := Lib.hid hLO
  have LLW := Lib.hid hLW
  have LA := Lib.hid hla0
  have HN := Lib.hid hnn
  have HA := Lib.hid hoa
  clear hR hro x0 k0 hg1' hnO hla hLO hLW hla0 hr ho hnn hoa
  go_enter Tryz.func16, Tryz.ntmps16
  go_wp2_with fail
  go_loopw [] (fun wr => AckRel W N p q X S k aw cw wr) (fun wr => lenAt wr p)
  case atStart => exact ⟨0, _, _, by omega, by rw [List.drop_zero, Nat.add_zero]; exact R.out, Keep.refl _ _⟩
  case round =>
    obtain ⟨j, ao1, co1, hj, hR1, hK1⟩ := hrel
    obtain ⟨x0, x1, x2, x3, x4, x5⟩ := hR1.cells
    have f3 := hR1.c.fz 3
    obtain ⟨nj, hnj⟩ : ∃ nj, (S.out.drop j).length = nj := ⟨_, rfl⟩
    have hnj2 : nj = S.n - j := by rw [← hnj, List.length_drop, LLO.out]
    rw [hnj] at x3
    have R1 := Lib.hid hR1
    have K1 := Lib.hid hK1
    have NJ := Lib.hid hnj
    have NJ2 := Lib.hid hnj2
    clear hR1 hK1 hnj hnj2 x0 x1 x4 x5 c0 c1 c2 c3 c4 c5 y0 d0 d0' d0n d1 d1' d2 d2'
    obtain ⟨bb, hbb⟩ : ∃ bb, decide (S.g + j < k) = bb := ⟨_, rfl⟩
    have BB := Lib.hid hbb
    clear hbb
    go_upto_region 3 with fail
    go_cut [47] from 31 to 47 (fun v wx => v = .bool bb ∧ wx = wr)
    case first =>
      cases bb
      · have e1 := of_decide_eq_false BB.out
        by_cases h0 : nj = 0
        · have d0 : decide ((nj : Int) > 0) = false := decide_eq_false (by omega)
          have d0' : decide (0 < nj) = false := decide_eq_false (by omega)
          clear h0 e1
          go_wp2_with fail
          go_meet
          exact ⟨rfl, rfl⟩
        · obtain ⟨z0, -⟩ := itS_at 0 (S.g + j) (S.out.drop j) (by rw [NJ.out]; omega)
          obtain ⟨b2, off2, rfl, hb2, -, k2⟩ := R1.out.oo.cell _ _ z0
          obtain ⟨g2, hg2'⟩ : ∃ g2, S.g + j + 0 + 1 = g2 := ⟨_, rfl⟩
          rw [hg2'] at k2
          have y2 : wr.cell? ⟨b2, off2, none⟩ = some (.int .u64 (g2 : Int)) := by simpa using k2
          have d0 : decide ((nj : Int) > 0) = true := decide_eq_true (by omega)
          have d0' : decide (0 < nj) = true := decide_eq_true (by omega)
          have i0' : (0 : Int) < (nj : Int) := by omega
          have d3 : decide ((g2 : Int) ≤ (k : Int)) = false := decide_eq_false (by omega)
          have d3' : decide (g2 ≤ k) = false := decide_eq_false (by omega)
          clear h0 e1 z0 k2 hg2' hb2
          go_wp2_with fail
          go_meet
          exact ⟨rfl, rfl⟩
      · have e1 := of_decide_eq_true BB.out
        have e2 := NJ2.out
        have e3 := LA.out
        obtain ⟨z0, -⟩ := itS_at 0 (S.g + j) (S.out.drop j) (by rw [NJ.out]; omega)
        obtain ⟨b2, off2, rfl, hb2, -, k2⟩ := R1.out.oo.cell _ _ z0
        obtain ⟨g2, hg2'⟩ : ∃ g2, S.g + j + 0 + 1 = g2 := ⟨_, rfl⟩
        rw [hg2'] at k2
        have y2 : wr.cell? ⟨b2, off2, none⟩ = some (.int .u64 (g2 : Int)) := by simpa using k2
        have d0 : decide ((nj : Int) > 0) = true := decide_eq_true (by omega)
        have d0' : decide (0 < nj) = true := decide_eq_true (by omega)
        have i0' : (0 : Int) < (nj : Int) := by omega
        have d3 : decide ((g2 : Int) ≤ (k : Int)) = true := decide_eq_true (by omega)
        have d3' : decide (g2 ≤ k) = true := decide_eq_true (by omega)
        clear e1 e2 e3 z0 k2 hg2' hb2
        go_wp2_with fail
        go_meet
        exact ⟨rfl, rfl⟩
    case rest =>
      obtain ⟨rfl, rfl⟩ := hcut
      cases bb
      · obtain rfl : k = S.g + j := by have := of_decide_eq_false BB.out; omega
        have hjk : S.g + j - S.g = j := by omega
        go_wp2_with fail
        refine (pr_stop R1.out.pr).mono ?_
        intro e w4 hp
        obtain ⟨rfl, r4, k4⟩ := R1.out.alarm hp
        have GO := Lib.hid (goes_any r4 (by have := LA.out; have := NJ.out; have := NJ2.out; omega) HO.out.win.2 (by have := NJ.out; have := NJ2.out; have := HN.out; omega) (by have := LLW.out; have := HA.out; omega) (by omega))
        obtain ⟨mm, hmm⟩ : ∃ mm, min (S.win - (S.out.drop j).length) S.waits.length = mm := ⟨_, rfl⟩
        rw [hmm] at GO
        have K4 := Lib.hid ((K1.out.mono (fun k e => R.out.keepN k (Or.inl e))).trans (k4.mono R.out.keepN) (fun _ _ f => f))
        have MM := Lib.hid hmm
        clear hp r4 k4 hmm
        go_wp2_with fail
        refine GO.out.mono ?_
        rintro E w5 ⟨a5, cap5, ao5, co5, aw5, cw5, rfl, hR5, hK5, hI5⟩
        obtain ⟨z0, z1, z2, z3, z4, z5⟩ := hR5.cells
        obtain ⟨n5, hn5⟩ : ∃ n5, (S.out.drop j ++ S.waits.take mm).length = n5 := ⟨_, rfl⟩
        rw [hn5] at z3
        have R5 := Lib.hid hR5
        have K5 := Lib.hid (K4.out.trans (hK5.mono (fun k e => hR5.keepN k (Or.inl e))) (fun _ _ f => f))
        have I5 := Lib.hid (hI5.mono (A' := fun k => W.heap.size ≤ k) (fun k _ h => Nat.le_trans K4.out.size h))
        have DN := Lib.hid (fun (w' : World) (P' : Pa) (hP : P' = (S.ack (S.g + j)).pa) (h1 : ReR w' N p q X S.win S.que (S.g + j) (S.last + mm) P' ao5 co5 (S.out.drop j ++ S.waits.take mm) aw5 cw5 (S.waits.drop mm)) (h2 : Keep (fun k => N ≤ k ∧ ¬ X k) W w') (h3 : RtR (fun k => W.heap.size ≤ k) w' (.slice a5 mm cap5) S.last (S.waits.take mm)) => re_ack_done (k := S.g + j) HO.out HR.out (by rw [hjk]; exact MM.out) hP (by rw [hjk]; exact h1) h2 h3)
        have PQ := Lib.hid R.out.lt
        have hn5' : n5 = (S.n - j) + mm := by rw [← hn5, List.length_append, NJ.out, NJ2.out, List.length_take]; have := MM.out; omega
        have N5 := Lib.hid hn5'
        clear hR5 hK5 hI5 hn5 hn5' GO z0 z1 z4 z5 K4 hjk
        by_cases h0 : n5 = 0
        · have d5 : decide ((n5 : Int) > 0) = false := decide_eq_false (by omega)
          have d5' : decide (0 < n5) = false := decide_eq_false (by omega)
          have P5 := Lib.hid (show S.pa.stop = (S.ack (S.g + j)).pa by
            have h1 := MM.out
            have h2 := N5.out
            have h3 := NJ.out
            have h4 := NJ2.out
            have h5 := LLW.out
            have h6 := HN.out
            have h7 := HO.out.win
            have h8 : S.n = min S.win (S.all.length - S.g) := rfl
            show _ = if S.all.length ≤ S.g + j then S.pa.stop else S.pa.stop.start
            rw [if_pos (by omega)])
          clear h0
          go_wp2_with fail
          go_ret
          exact DN.out w5 _ P5.out R5.out K5.out I5.out
        · have d5 : decide ((n5 : Int) > 0) = true := decide_eq_true (by omega)
          have d5' : decide (0 < n5) = true := decide_eq_true (by omega)
          have P5 := Lib.hid (show S.pa.stop.start = (S.ack (S.g + j)).pa by
            have h1 := MM.out
            have h2 := N5.out
            have h3 := NJ.out
            have h4 := NJ2.out
            have h5 := LLW.out
            have h6 := HN.out
            have h9 := LA.out
            have h8 : S.n = min S.win (S.all.length - S.g) := rfl
            show _ = if S.all.length ≤ S.g + j then S.pa.stop else S.pa.stop.start
            rw [if_neg (by omega)])
          clear h0
          go_wp2_with (go_at_call 30; refine (pr_start R5.out.pr HO.out.pa.stop).mono ?_; intro e w6 hp; obtain ⟨rfl, h1, hk⟩ := R5.out.alarm hp
                       have R6 := Lib.hid h1
                       have K6 := Lib.hid (K5.out.trans (hk.mono (fun k e => R5.out.keepN k e)) (fun _ _ f => f))
                       have I6 := Lib.hid (I5.out.carry hk.size (fun k hk2 hA => hk.block k hk2 (fun e => by
                         have h8 := PQ.out
                         omega)))
                       clear hp h1 hk)
          go_ret
          exact DN.out _ _ P5.out R6.out K6.out I6.out
      · have e1 := of_decide_eq_true BB.out
        have e2 := NJ2.out
        have e3 := LA.out
        have hjl : j < S.out.length := by have := LLO.out; omega
        have hr1 := R1.out
        rw [List.drop_eq_getElem_cons hjl] at hr1
        obtain ⟨b2, off2, rfl, hb2, -, -⟩ := hr1.oo.cell 0 _ rfl
        obtain ⟨t1, ht1⟩ : ∃ t1, (S.out.drop (j + 1)).length = t1 := ⟨_, rfl⟩
        have hnt : nj = t1 + 1 := by rw [← NJ.out, List.drop_eq_getElem_cons hjl, List.length_cons, ht1]
        subst hnt
        obtain ⟨A, hA⟩ : ∃ A : Addr, (if co1 = 1 then some (⟨b2, off2, none⟩ : Addr) else some ⟨b2, off2 + 2, none⟩) = some A := by split <;> exact ⟨_, rfl⟩
        have hA2 : (if co1 = 1 then some (⟨b2, off2, none⟩ : Addr) else (some (⟨b2, off2, none⟩ : Addr)).map (·.add (1 * 2))) = some A := by rw [← hA]; simp [Addr.add_lit]
        obtain ⟨r1, k1⟩ := hr1.one hA2
        have hfit := hr1.oo.fit
        have hmax := hr1.oo.max
        unfold maxLen at hmax
        rw [List.length_cons, ht1] at hfit
        rw [ht1] at r1 k1
        have LN := Lib.hid (show lenAt (wc.setCell ⟨p, 3, none⟩ (.slice (some A) t1 (co1 - 1))) p < lenAt wc p by
          unfold lenAt
          have h1 := r1.cells.2.2.2.1
          rw [ht1] at h1
          rw [h1, x3]
          show t1 < t1 + 1
          omega)
        have R2 := Lib.hid (show AckRel W N p q X S k aw cw (wc.setCell ⟨p, 3, none⟩ (.slice (some A) t1 (co1 - 1))) from ⟨j + 1, some A, co1 - 1, by omega, r1, K1.out.trans k1 (fun _ _ f => f)⟩)
        have j1 : (1 : Int) ≤ (t1 : Int) + 1 := by omega
        have j2 : (t1 : Int) + 1 ≤ (co1 : Int) := by omega
        have j3 : 1 ≤ co1 := by omega
        clear e1 e2 e3 hr1 hb2 ht1 r1 k1 hA2
        go_wp2_with fail
        go_roundw
        case rel => exact R2.out
        case measure => exact LN.out
end

end Go.Proofs.YtfbojcaedcimcaaGreat
