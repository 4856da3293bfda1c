/-
  A config as the document's own.
-/
import Derived.Test.YtnipoknmhcgplaaDoorQro
import Derived.Deep.RegionHeld3
namespace Go.Proofs.YtnipoknmhcgplaaDoor
open Go.RowKit
attribute [local go_sem ↓] Go.wp_at_zero Go.wp_at_succ

theorem Tryd.infoQ : (Tryd.prog.info? 28).map (fun i => (i.zero, i.size, i.bytes)) = some (some (.int .u64 0), 1, 8) := by kernel_rfl

/-- What own's loop bears along: the config in block N, the result's variable in block R, the copy in block D, whose numbers so far it owns. -/
structure OwnV (W w : World) (N R D : Nat) (c : Cfg) (ao : Option Addr) (cap k : Nat) (v : Value) : Prop where
  nr : N < R
  rd : R < D
  big : D < w.heap.size
  be : Below N W w
  bx : Boxed w N c ao cap
  own : w.ownsRow (D + 1) 28 1 v k ((c.vs.take k).map uV)
  d0 : w.cell? ⟨D, 0, none⟩ = some (.int .i64 c.n)
  d1 : w.cell? ⟨D, 1, none⟩ = some v
  d2 : w.cell? ⟨D, 2, none⟩ = some (.int .i64 c.win)
  d3 : w.cell? ⟨D, 3, none⟩ = some (.int .i64 c.que)
  d4 : w.cell? ⟨D, 4, none⟩ = some (.int .i64 c.fst)
  d5 : w.cell? ⟨D, 5, none⟩ = some (.int .i64 c.mst)
  d6 : w.cell? ⟨D, 6, none⟩ = some (.int .i64 c.bod)
  d7 : w.cell? ⟨D, 7, none⟩ = some (.int .i64 c.eng)
  df : ∀ j, w.frozen? ⟨D, j, none⟩ = false
  r : ∀ j, j < 8 → ∃ u, w.cell? ⟨R, j, none⟩ = some u
  rf : ∀ j, w.frozen? ⟨R, j, none⟩ = false

theorem own_row {w : World} {B : Nat} {e : TypeId} {v : Value} {n : Nat} {xs : List Value} (h : w.ownsRow B e 1 v n xs) : ∀ g, v.ownBlock = some g → B ≤ g := by
  intro g hg
  rcases h.2 with ⟨rfl, _⟩ | ⟨g', cap, cur, rfl, hb, _⟩
  · simp [Value.ownBlock] at hg
  · simp [Value.ownBlock] at hg
    subst hg
    exact hb
theorem own_shape {w : World} {B : Nat} {e : TypeId} {v : Value} {n : Nat} {xs : List Value} (h : w.ownsRow B e 1 v n xs) : ∃ a cap, v = .slice a n cap := by
  rcases h.2 with ⟨rfl, rfl⟩ | ⟨g, cap, cur, rfl, _⟩
  · exact ⟨none, 0, rfl⟩
  · exact ⟨_, cap, rfl⟩

theorem OwnV.below {W w w' : World} {N R D : Nat} {c : Cfg} {ao : Option Addr} {cap k : Nat} {v : Value} (h : OwnV W w N R D c ao cap k v) (hb : Below w.heap.size w w') : OwnV W w' N R D c ao cap k v := by
  have hD := h.big
  have hR := h.rd
  have hN := h.nr
  exact ⟨h.nr, h.rd, Nat.lt_of_lt_of_le h.big hb.size, h.be.trans (hb.mono (by omega)), h.bx.below hb, own_below h.own hb, cell_go h.d0 hb, cell_go h.d1 hb, cell_go h.d2 hb, cell_go h.d3 hb, cell_go h.d4 hb, cell_go h.d5 hb, cell_go h.d6 hb, cell_go h.d7 hb,
    fun j => (World.frozen?_of_block (w := w) (a := ⟨D, j, none⟩) (hb.block D hD)).trans (h.df j), fun j hj => (h.r j hj).imp fun u hu => cell_go hu hb,
    fun j => (World.frozen?_of_block (w := w) (a := ⟨R, j, none⟩) (hb.block R (by omega))).trans (h.rf j)⟩

theorem OwnV.put {W w w2 : World} {N R D : Nat} {c : Cfg} {ao : Option Addr} {cap k : Nat} {v v2 : Value} (h : OwnV W w N R D c ao cap k v) (hk : k < c.vs.length)
    (hown : w2.ownsRow (D + 1) 28 1 v2 (k + 1) ((c.vs.take k).map uV ++ [uV c.vs[k]])) (hgr : w.grownBy w2 v.ownBlock) : OwnV W (w2.setCell ⟨D, 1, none⟩ v2) N R D c ao cap (k + 1) v2 := by
  have hD := h.big
  have hR := h.rd
  have hN := h.nr
  have hne : ∀ j, j ≤ D → v.ownBlock ≠ some j := fun j hj e => by have := own_row h.own j e; omega
  have hbl : ∀ j, j ≤ D → w2.heap[j]? = w.heap[j]? := fun j hj => hgr.block j (by omega) (fun e => hne j hj e.symm)
  have hap : v2.ownBlock ≠ some D := fun e => by have := own_row hown D e; omega
  have hbs : ∀ j, j < D → (w2.setCell ⟨D, 1, none⟩ v2).heap[j]? = w.heap[j]? := fun j hj => (Below.heap_setCell _ _ _ _ (by show j ≠ D; omega)).trans (hbl j (by omega))
  have hs : w2.heap.size ≤ (w2.setCell ⟨D, 1, none⟩ v2).heap.size := by simp [World.setCell]
  have cN : ∀ {j : Nat} {u : Value}, w.cell? ⟨N, j, none⟩ = some u → (w2.setCell ⟨D, 1, none⟩ v2).cell? ⟨N, j, none⟩ = some u := fun {j u} hu => (World.cell?_of_block (w := w) (a := ⟨N, j, none⟩) (hbs N (by omega))).trans hu
  have cD : ∀ {j : Nat} {u : Value}, j ≠ 1 → w.cell? ⟨D, j, none⟩ = some u → (w2.setCell ⟨D, 1, none⟩ v2).cell? ⟨D, j, none⟩ = some u := fun {j u} hj hu =>
    (World.cell?_setCell_other w2 ⟨D, 1, none⟩ ⟨D, j, none⟩ v2 (by intro e; cases e; exact hj rfl)).trans ((World.cell?_of_block (w := w) (a := ⟨D, j, none⟩) (hbl D (Nat.le_refl _))).trans hu)
  have c1 : w2.cell? ⟨D, 1, none⟩ = some v := (World.cell?_of_block (w := w) (a := ⟨D, 1, none⟩) (hbl D (Nat.le_refl _))).trans h.d1
  refine ⟨h.nr, h.rd, Nat.lt_of_lt_of_le (Nat.lt_of_lt_of_le hD hgr.size) hs, ?_, ⟨cN h.bx.c0, cN h.bx.c1, cN h.bx.c2, cN h.bx.c3, cN h.bx.c4, cN h.bx.c5, cN h.bx.c6, cN h.bx.c7⟩, ?_, cD (by decide) h.d0, World.cell?_setCell_same w2 _ _ c1, cD (by decide) h.d2, cD (by decide) h.d3, cD (by decide) h.d4, cD (by decide) h.d5, cD (by decide) h.d6, cD (by decide) h.d7, ?_, ?_, ?_⟩
  · exact ⟨hgr.os.trans h.be.os, hgr.tape.trans h.be.tape, hgr.output.trans h.be.output, Nat.le_trans h.be.size (Nat.le_trans hgr.size hs), fun j hj => (hbs j (by omega)).trans (h.be.block j hj)⟩
  · rw [List.take_succ_eq_append_getElem hk, List.map_append]
    exact ownsRow_setCell_other hown hap v2
  · exact fun j => (World.frozen?_setCell ..).trans ((World.frozen?_of_block (w := w) (a := ⟨D, j, none⟩) (hbl D (Nat.le_refl _))).trans (h.df j))
  · exact fun j hj => (h.r j hj).imp fun u hu => (World.cell?_of_block (w := w) (a := ⟨R, j, none⟩) (hbs R (by omega))).trans hu
  · exact fun j => (World.frozen?_of_block (w := w) (a := ⟨R, j, none⟩) (hbs R (by omega))).trans (h.rf j)

theorem OwnV.sl {W w : World} {N R D : Nat} {c : Cfg} {ao : Option Addr} {cap k : Nat} {v : Value} (h : OwnV W w N R D c ao cap k v) (hk : c.vs.length = k) : ∃ a cp, v = .slice a c.vs.length cp ∧ SlV w a cp (c.vs.map uV) := by
  have ho := h.own
  rw [List.take_of_length_le (by omega)] at ho
  obtain ⟨_, a, cp, e, hs⟩ := own_slv ho
  rw [List.length_map] at e
  exact ⟨a, cp, e, hs⟩

theorem own_start (W : World) (c : Cfg) (ao : Option Addr) (cap : Nat) : OwnV W (((W.alloc (.cells (cfgA c ao cap) 26)).alloc (.cells #[.int .i64 0, .slice none 0 0, .int .i64 0, .int .i64 0, .int .i64 0, .int .i64 0, .int .i64 0, .int .i64 0] 37)).alloc
      (.cells #[.int .i64 c.n, .slice none 0 0, .int .i64 c.win, .int .i64 c.que, .int .i64 c.fst, .int .i64 c.mst, .int .i64 c.bod, .int .i64 c.eng] 37)) W.heap.size (W.heap.size + 1) (W.heap.size + 1 + 1) c ao cap 0 (.slice none 0 0) := by
  have f0 : ∀ (w : World) (cs : Array Value) (t : TypeId) (j : Nat), (w.alloc (.cells cs t)).frozen? ⟨w.heap.size, j, none⟩ = false := fun w cs t j => by simp
  have b0 := below_alloc (Below.refl _ W) (.cells (cfgA c ao cap) 26)
  have x0 := boxed_new W c ao cap 26
  have hz : (W.alloc (.cells (cfgA c ao cap) 26)).heap.size = W.heap.size + 1 := by simp
  generalize W.alloc (.cells (cfgA c ao cap) 26) = w0 at *
  have b1 := below_alloc (Below.refl _ w0) (.cells #[.int .i64 0, .slice none 0 0, .int .i64 0, .int .i64 0, .int .i64 0, .int .i64 0, .int .i64 0, .int .i64 0] 37)
  have x1 : Boxed (w0.alloc (.cells #[.int .i64 0, .slice none 0 0, .int .i64 0, .int .i64 0, .int .i64 0, .int .i64 0, .int .i64 0, .int .i64 0] 37)) w0.heap.size ⟨0, [], 0, 0, 0, 0, 0, 0⟩ none 0 := boxed_new w0 ⟨0, [], 0, 0, 0, 0, 0, 0⟩ none 0 _
  have g1 := f0 w0 #[.int .i64 0, .slice none 0 0, .int .i64 0, .int .i64 0, .int .i64 0, .int .i64 0, .int .i64 0, .int .i64 0] 37
  have hz1 : (w0.alloc (.cells #[.int .i64 0, .slice none 0 0, .int .i64 0, .int .i64 0, .int .i64 0, .int .i64 0, .int .i64 0, .int .i64 0] 37)).heap.size = w0.heap.size + 1 := by simp
  generalize w0.alloc (.cells #[.int .i64 0, .slice none 0 0, .int .i64 0, .int .i64 0, .int .i64 0, .int .i64 0, .int .i64 0, .int .i64 0] 37) = w1 at *
  have b2 := below_alloc (Below.refl _ w1) (.cells #[.int .i64 c.n, .slice none 0 0, .int .i64 c.win, .int .i64 c.que, .int .i64 c.fst, .int .i64 c.mst, .int .i64 c.bod, .int .i64 c.eng] 37)
  have x2 : Boxed (w1.alloc (.cells #[.int .i64 c.n, .slice none 0 0, .int .i64 c.win, .int .i64 c.que, .int .i64 c.fst, .int .i64 c.mst, .int .i64 c.bod, .int .i64 c.eng] 37)) w1.heap.size ⟨c.n, [], c.win, c.que, c.fst, c.mst, c.bod, c.eng⟩ none 0 := boxed_new w1 ⟨c.n, [], c.win, c.que, c.fst, c.mst, c.bod, c.eng⟩ none 0 _
  have g2 := f0 w1 #[.int .i64 c.n, .slice none 0 0, .int .i64 c.win, .int .i64 c.que, .int .i64 c.fst, .int .i64 c.mst, .int .i64 c.bod, .int .i64 c.eng] 37
  have hz2 : (w1.alloc (.cells #[.int .i64 c.n, .slice none 0 0, .int .i64 c.win, .int .i64 c.que, .int .i64 c.fst, .int .i64 c.mst, .int .i64 c.bod, .int .i64 c.eng] 37)).heap.size = w1.heap.size + 1 := by simp
  generalize w1.alloc (.cells #[.int .i64 c.n, .slice none 0 0, .int .i64 c.win, .int .i64 c.que, .int .i64 c.fst, .int .i64 c.mst, .int .i64 c.bod, .int .i64 c.eng] 37) = w2 at *
  have x1' := x1.below b2
  have x0' := (x0.below b1).below b2
  have b3 := b1.trans (b2.mono (by omega))
  rw [hz] at x1' g1 b3 hz1
  rw [hz1] at x2 g2 hz2 b2
  refine ⟨by omega, by omega, by omega, b0.trans (b3.mono (by omega)), x0', ⟨by simp, Or.inl ⟨rfl, by simp⟩⟩, x2.c0, x2.c1, x2.c2, x2.c3, x2.c4, x2.c5, x2.c6, x2.c7, g2, ?_, fun j => (World.frozen?_of_block (w := w1) (a := ⟨W.heap.size + 1, j, none⟩) (b2.block (W.heap.size + 1) (by omega))).trans (g1 j)⟩
  intro j hj
  have hh : j = 0 ∨ j = 1 ∨ j = 2 ∨ j = 3 ∨ j = 4 ∨ j = 5 ∨ j = 6 ∨ j = 7 := by omega
  rcases hh with rfl | rfl | rfl | rfl | rfl | rfl | rfl | rfl
  · exact ⟨_, x1'.c0⟩
  · exact ⟨_, x1'.c1⟩
  · exact ⟨_, x1'.c2⟩
  · exact ⟨_, x1'.c3⟩
  · exact ⟨_, x1'.c4⟩
  · exact ⟨_, x1'.c5⟩
  · exact ⟨_, x1'.c6⟩
  · exact ⟨_, x1'.c7⟩
def ORel (W wr : World) (N R D : Nat) (c : Cfg) (ao : Option Addr) (cap : Nat) (i : Value) : Prop :=
  ∃ (k : Nat) (v : Value), k ≤ c.vs.length ∧ i = .int .i64 (k : Nat) ∧ Hid (OwnV W wr N R D c ao cap k v)

/-- Eight cells of one block written, one behind the other. -/
theorem set8 (w : World) (R : Nat) (v0 v1 v2 v3 v4 v5 v6 v7 : Value) (h : ∀ j, j < 8 → ∃ u, w.cell? ⟨R, j, none⟩ = some u) :
    ∃ w', ((((((((w.setCell ⟨R, 0, none⟩ v0).setCell ⟨R, 1, none⟩ v1).setCell ⟨R, 2, none⟩ v2).setCell ⟨R, 3, none⟩ v3).setCell ⟨R, 4, none⟩ v4).setCell ⟨R, 5, none⟩ v5).setCell ⟨R, 6, none⟩ v6).setCell ⟨R, 7, none⟩ v7) = w' ∧ w'.cell? ⟨R, 0, none⟩ = some v0 ∧ w'.cell? ⟨R, 1, none⟩ = some v1 ∧ w'.cell? ⟨R, 2, none⟩ = some v2 ∧ w'.cell? ⟨R, 3, none⟩ = some v3 ∧
      w'.cell? ⟨R, 4, none⟩ = some v4 ∧ w'.cell? ⟨R, 5, none⟩ = some v5 ∧ w'.cell? ⟨R, 6, none⟩ = some v6 ∧ w'.cell? ⟨R, 7, none⟩ = some v7 := by
  have ho : ∀ (w : World) (a b : Nat) (u : Value), a ≠ b → (w.setCell ⟨R, a, none⟩ u).cell? ⟨R, b, none⟩ = w.cell? ⟨R, b, none⟩ := fun w a b u hab => World.cell?_setCell_other w _ _ u (fun e => by cases e; exact hab rfl)
  have hs : ∀ (w : World) (a : Nat) (u : Value), (∃ x, w.cell? ⟨R, a, none⟩ = some x) → (w.setCell ⟨R, a, none⟩ u).cell? ⟨R, a, none⟩ = some u := fun w a u ⟨x, hx⟩ => World.cell?_setCell_same w _ _ hx
  refine ⟨_, rfl, ?_, ?_, ?_, ?_, ?_, ?_, ?_, ?_⟩
  · obtain ⟨x, hx⟩ := h 0 (by decide)
    exact (ho _ 7 0 _ (by decide)).trans ((ho _ 6 0 _ (by decide)).trans ((ho _ 5 0 _ (by decide)).trans ((ho _ 4 0 _ (by decide)).trans ((ho _ 3 0 _ (by decide)).trans ((ho _ 2 0 _ (by decide)).trans ((ho _ 1 0 _ (by decide)).trans (hs _ 0 _ ⟨x, hx⟩)))))))
  · obtain ⟨x, hx⟩ := h 1 (by decide)
    exact (ho _ 7 1 _ (by decide)).trans ((ho _ 6 1 _ (by decide)).trans ((ho _ 5 1 _ (by decide)).trans ((ho _ 4 1 _ (by decide)).trans ((ho _ 3 1 _ (by decide)).trans ((ho _ 2 1 _ (by decide)).trans (hs _ 1 _ ⟨x, (ho _ 0 1 _ (by decide)).trans (hx)⟩))))))
  · obtain ⟨x, hx⟩ := h 2 (by decide)
    exact (ho _ 7 2 _ (by decide)).trans ((ho _ 6 2 _ (by decide)).trans ((ho _ 5 2 _ (by decide)).trans ((ho _ 4 2 _ (by decide)).trans ((ho _ 3 2 _ (by decide)).trans (hs _ 2 _ ⟨x, (ho _ 1 2 _ (by decide)).trans ((ho _ 0 2 _ (by decide)).trans (hx))⟩)))))
  · obtain ⟨x, hx⟩ := h 3 (by decide)
    exact (ho _ 7 3 _ (by decide)).trans ((ho _ 6 3 _ (by decide)).trans ((ho _ 5 3 _ (by decide)).trans ((ho _ 4 3 _ (by decide)).trans (hs _ 3 _ ⟨x, (ho _ 2 3 _ (by decide)).trans ((ho _ 1 3 _ (by decide)).trans ((ho _ 0 3 _ (by decide)).trans (hx)))⟩))))
  · obtain ⟨x, hx⟩ := h 4 (by decide)
    exact (ho _ 7 4 _ (by decide)).trans ((ho _ 6 4 _ (by decide)).trans ((ho _ 5 4 _ (by decide)).trans (hs _ 4 _ ⟨x, (ho _ 3 4 _ (by decide)).trans ((ho _ 2 4 _ (by decide)).trans ((ho _ 1 4 _ (by decide)).trans ((ho _ 0 4 _ (by decide)).trans (hx))))⟩)))
  · obtain ⟨x, hx⟩ := h 5 (by decide)
    exact (ho _ 7 5 _ (by decide)).trans ((ho _ 6 5 _ (by decide)).trans (hs _ 5 _ ⟨x, (ho _ 4 5 _ (by decide)).trans ((ho _ 3 5 _ (by decide)).trans ((ho _ 2 5 _ (by decide)).trans ((ho _ 1 5 _ (by decide)).trans ((ho _ 0 5 _ (by decide)).trans (hx)))))⟩))
  · obtain ⟨x, hx⟩ := h 6 (by decide)
    exact (ho _ 7 6 _ (by decide)).trans (hs _ 6 _ ⟨x, (ho _ 5 6 _ (by decide)).trans ((ho _ 4 6 _ (by decide)).trans ((ho _ 3 6 _ (by decide)).trans ((ho _ 2 6 _ (by decide)).trans ((ho _ 1 6 _ (by decide)).trans ((ho _ 0 6 _ (by decide)).trans (hx))))))⟩)
  · obtain ⟨x, hx⟩ := h 7 (by decide)
    exact hs _ 7 _ ⟨x, (ho _ 6 7 _ (by decide)).trans ((ho _ 5 7 _ (by decide)).trans ((ho _ 4 7 _ (by decide)).trans ((ho _ 3 7 _ (by decide)).trans ((ho _ 2 7 _ (by decide)).trans ((ho _ 1 7 _ (by decide)).trans ((ho _ 0 7 _ (by decide)).trans (hx)))))))⟩

theorem SlV.far {w : World} {a : Option Addr} {cap : Nat} {vs : List Value} {R : Nat} (h : SlV w a cap vs) (hf : ∀ b off, a = some ⟨b, off, Option.none⟩ → b ≠ R) (j : Nat) (u : Value) : SlV (w.setCell ⟨R, j, Option.none⟩ u) a cap vs :=
  ⟨h.fit, h.max, h.nil, fun i hi => by
    obtain ⟨b, off, e, hl, hc⟩ := h.cell i hi
    have hb := hf b off e
    exact ⟨b, off, e, by simpa [World.setCell] using hl, (World.cell?_setCell_other w ⟨R, j, Option.none⟩ ⟨b, off + i, Option.none⟩ u (fun e => hb (congrArg Addr.block e).symm)).trans hc⟩⟩

set_option maxRecDepth 20000 in
set_option maxHeartbeats 8000000 in
theorem own_any (c : Cfg) (ao : Option Addr) (cap : Nat) (W : World) (hs : SlV W ao cap (c.vs.map uV)) (hl : c.vs.length ≤ 30) :
    Calls Tryd.prog 12 #[.agg (cfgA c ao cap)] W fun e w' => ∃ a cp, e = .returned (.agg (cfgA c a cp)) ∧ SlV w' a cp (c.vs.map uV) ∧ Below W.heap.size W w' := by
  obtain ⟨i0, hi0, hz0, hz1, hz2⟩ := info_parts Tryd.infoQ
  have hmax := hs.max
  have hfit := hs.fit
  unfold maxLen at hmax
  rw [List.length_map] at hfit
  have S := Lib.hid hs
  clear hs
  go_enter Tryd.func12, Tryd.ntmps12
  go_wp2_with fail
  have hV : OwnV W (((W.alloc (.cells (cfgA c ao cap) 26)).alloc (.cells #[.int .i64 0, .slice none 0 0, .int .i64 0, .int .i64 0, .int .i64 0, .int .i64 0, .int .i64 0, .int .i64 0] 37)).alloc
      (.cells #[.int .i64 c.n, .slice none 0 0, .int .i64 c.win, .int .i64 c.que, .int .i64 c.fst, .int .i64 c.mst, .int .i64 c.bod, .int .i64 c.eng] 37)) W.heap.size (W.heap.size + 1) (W.heap.size + 1 + 1) c ao cap 0 (.slice none 0 0) :=
    own_start W c ao cap
  generalize (((W.alloc (.cells (cfgA c ao cap) 26)).alloc (.cells #[.int .i64 0, .slice none 0 0, .int .i64 0, .int .i64 0, .int .i64 0, .int .i64 0, .int .i64 0, .int .i64 0] 37)).alloc
      (.cells #[.int .i64 c.n, .slice none 0 0, .int .i64 c.win, .int .i64 c.que, .int .i64 c.fst, .int .i64 c.mst, .int .i64 c.bod, .int .i64 c.eng] 37)) = w1 at hV ⊢
  have X1 := Lib.hid hV
  clear hV
  go_loopw [4] (fun i wr => ORel W wr W.heap.size (W.heap.size + 1) (W.heap.size + 1 + 1) c ao cap i) (fun i _ => c.vs.length - (intOf i).toNat)
  case atStart => exact ⟨0, _, Nat.zero_le _, rfl, X1⟩
  case round =>
    obtain ⟨k, v, hk, rfl, X⟩ := hrel
    clear X1
    have k1 := X.out.bx.c1
    have kv := X.out.d1
    have kf := X.out.df 1
    by_cases hlt : k < c.vs.length
    · obtain ⟨b, off, e, hbW, hcx⟩ := S.out.at k hlt
      subst e
      have hbe := X.out.be
      have kx : wr.cell? ⟨b, off + k, none⟩ = some (.int .u64 (c.vs[k] : Nat)) := (hbe.cell (p := ⟨b, off + k, none⟩) hbW).trans hcx
      have hV2 : OwnV W (wr.alloc (.cells #[.int .u64 (c.vs[k] : Nat)] 28)).drew W.heap.size (W.heap.size + 1) (W.heap.size + 1 + 1) c (some ⟨b, off, none⟩) cap k v := (X.out.below (below_alloc (Below.refl _ _) _)).below (drew_below _)
      have HO2 := Lib.hid hV2.own
      have hle := hV2.big
      have HV2 := Lib.hid hV2
      have hn1 := Lib.hid (show (wr.alloc (.cells #[.int .u64 (c.vs[k] : Nat)] 28)).drew.heap[wr.heap.size]? = some (.cells #[.int .u64 (c.vs[k] : Nat)] 28) from heap_alloc_new wr (.cells #[.int .u64 (c.vs[k] : Nat)] 28))
      have ff := hV2.df 1
      have R0 := Lib.hid (fun w2 (h : World.grownBy (wr.alloc (.cells #[.int .u64 (c.vs[k] : Nat)] 28)).drew w2 v.ownBlock) => (h.cell_far ⟨W.heap.size + 1 + 1, 1, none⟩ hV2.big (fun e => by have := own_row hV2.own (W.heap.size + 1 + 1) e.symm; omega)).trans hV2.d1)
      have R1 := Lib.hid (fun w2 (h : World.grownBy (wr.alloc (.cells #[.int .u64 (c.vs[k] : Nat)] 28)).drew w2 v.ownBlock) => (h.frozen_far ⟨W.heap.size + 1 + 1, 1, none⟩ hV2.big (fun e => by have := own_row hV2.own (W.heap.size + 1 + 1) e.symm; omega)).trans (hV2.df 1))
      have kx2 : (wr.alloc (.cells #[.int .u64 (c.vs[k] : Nat)] 28)).drew.cell? ⟨b, off + k, none⟩ = some (.int .u64 (c.vs[k] : Nat)) := (hV2.be.cell (p := ⟨b, off + k, none⟩) hbW).trans hcx
      have R2 := Lib.hid (fun w2 (h : World.grownBy (wr.alloc (.cells #[.int .u64 (c.vs[k] : Nat)] 28)).drew w2 v.ownBlock) => And.intro ((h.cell_far ⟨W.heap.size, 1, none⟩ (cell_lt hV2.bx.c1) (fun e => by have := own_row hV2.own W.heap.size e.symm; omega)).trans hV2.bx.c1) ((h.cell_far ⟨b, off + k, none⟩ (cell_lt kx2) (fun e => by have := own_row hV2.own b e.symm; omega)).trans kx2))
      have s3 := And.intro hV2.bx.c1 kx2
      have HX := Lib.hid hcx
      have hr : v.ownBlock ≠ some b := fun e => by have := own_row X.out.own b e; omega
      have hd : v.ownBlock ≠ some (W.heap.size + 1 + 1) := fun e => by have := own_row X.out.own _ e; omega
      have hnn : v.ownBlock ≠ some W.heap.size := fun e => by have := own_row X.out.own _ e; omega
      have PU := Lib.hid (fun w2 v2 h1 h2 => OwnV.put (w2 := w2) (v2 := v2) HV2.out hlt h1 h2)
      have hsz : W.heap.size + 1 + 1 < wr.heap.size := X.out.big
      generalize hx : c.vs[k] = x at *
      clear hV2 hcx hbe hx
      go_wp2_with fail
      refine wp_region_noPanic ?_
      refine wp_region_held_drew (S := (fun w' => w'.cell? ⟨W.heap.size, 1, none⟩ = some (.slice (some ⟨b, off, none⟩) c.vs.length cap) ∧ w'.cell? ⟨b, off + k, none⟩ = some (.int .u64 (x : Nat)))) (by kernel_rfl) ?_ (fun hHeld => ?_)
      · exact ⟨k1, kx⟩
      refine wpAnyH_take (i := 0) (oi := _) (v := ?_) rfl (by kernel_rfl) (by kernel_rfl) (by kernel_rfl) (fun _ _ _ h => h) (Or.inl ⟨by rfl, ?_⟩) (by assumption) ?_
      rotate_left
      · (intro w hSw; (try dsimp only at hSw); go_simp; try with_reducible rfl)
      ((try simp only [Act.put]); (try simp only [List.setIfInBounds_toArray]); (try simp only [List.set_cons_succ]); (try simp only [List.set_cons_zero]))
      refine wpAnyH_take (i := 2) (oi := _) (v := ?_) rfl (by kernel_rfl) (by kernel_rfl) (by kernel_rfl) (fun _ _ _ h => h) (Or.inl ⟨by rfl, ?_⟩) (by assumption) ?_
      rotate_left
      · (intro w hSw; (try dsimp only at hSw); go_simp; try with_reducible rfl)
      ((try simp only [Act.put]); (try simp only [List.setIfInBounds_toArray]); (try simp only [List.set_cons_succ]); (try simp only [List.set_cons_zero]))
      refine wpAnyH_take (i := 3) (oi := _) (v := ?_) rfl (by kernel_rfl) (by kernel_rfl) (by kernel_rfl) (fun _ _ _ h => h) (Or.inl ⟨by rfl, ?_⟩) (by assumption) ?_
      rotate_left
      · (intro w hSw; (try dsimp only at hSw); go_simp; try with_reducible rfl)
      ((try simp only [Act.put]); (try simp only [List.setIfInBounds_toArray]); (try simp only [List.set_cons_succ]); (try simp only [List.set_cons_zero]))
      refine wpAnyH_take (i := 4) (oi := _) (v := ?_) rfl (by kernel_rfl) (by kernel_rfl) (by kernel_rfl) (fun _ _ _ h => h) (Or.inl ⟨by rfl, ?_⟩) (by assumption) ?_
      rotate_left
      · (intro w hSw; (try dsimp only at hSw); go_simp; try with_reducible rfl)
      ((try simp only [Act.put]); (try simp only [List.setIfInBounds_toArray]); (try simp only [List.set_cons_succ]); (try simp only [List.set_cons_zero]))
      refine wpAnyH_take (i := 5) (oi := _) (v := ?_) rfl (by kernel_rfl) (by kernel_rfl) (by kernel_rfl) (fun _ _ _ h => h) (Or.inl ⟨by rfl, ?_⟩) (by assumption) ?_
      rotate_left
      · (intro w hSw; (try dsimp only at hSw); go_simp; try with_reducible rfl)
      ((try simp only [Act.put]); (try simp only [List.setIfInBounds_toArray]); (try simp only [List.set_cons_succ]); (try simp only [List.set_cons_zero]))
      refine wpAnyH_take (i := 6) (oi := _) (v := ?_) rfl (by kernel_rfl) (by kernel_rfl) (by kernel_rfl) (fun _ _ _ h => h) (Or.inl ⟨by rfl, ?_⟩) (by assumption) ?_
      rotate_left
      · (intro w hSw; (try dsimp only at hSw); go_simp; try with_reducible rfl)
      ((try simp only [Act.put]); (try simp only [List.setIfInBounds_toArray]); (try simp only [List.set_cons_succ]); (try simp only [List.set_cons_zero]))
      refine wpAnyH_ready (rs := [1, 7]) (by kernel_rfl) (by simp) ?_
      refine AllReadyH.cons (o := _) rfl (fun K hK => ?_) (AllReadyH.cons (o := _) rfl (fun K hK => ?_) AllReadyH.nil)
      · skip
        go_simp
        refine hK.out _ _ ?_ (fun hNew => ?_)
        · first | exact ⟨k1, kx⟩ | exact q3 | exact s3 | exact ⟨R.out.bx.c1, (R.out.be.cell (p := ⟨b, off + k, none⟩) hbW).trans HX.out⟩
        clear hK K
        replace hHeld := hNew
        clear hNew
        ((try simp only [Act.put]); (try simp only [List.setIfInBounds_toArray]); (try simp only [List.set_cons_succ]); (try simp only [List.set_cons_zero]))
        refine wpAnyH_ready (rs := [7]) (by kernel_rfl) (by simp) ?_
        refine AllReadyH.cons (o := _) rfl (fun K hK => ?_) AllReadyH.nil
        go_simp
        refine hK.out _ _ ?_ (fun hNew => ?_)
        · first | exact ⟨k1, kx⟩ | exact q3 | exact s3 | exact ⟨R.out.bx.c1, (R.out.be.cell (p := ⟨b, off + k, none⟩) hbW).trans HX.out⟩
        clear hK K
        replace hHeld := hNew
        clear hNew
        ((try simp only [Act.put]); (try simp only [List.setIfInBounds_toArray]); (try simp only [List.set_cons_succ]); (try simp only [List.set_cons_zero]))
        refine wpAnyH_ready (rs := [8]) (by kernel_rfl) (by simp) ?_
        refine AllReadyH.cons (o := _) rfl (fun K hK => ?_) AllReadyH.nil
        refine step_append_lies _ rfl (.tmp 28) (.tmp 34) 35 rfl (W.heap.size + 1 + 1 + 1) 28 i0 (.int .u64 0) 1 8 Tryd.underlying35 hi0 hz0 hz1 hz2 rfl (by decide) v k _ (by rfl) HO2.out ⟨wr.heap.size, 0, none⟩ 1 1 [.int .u64 (x : Nat)] (by rfl) rfl (World.news_of_block hn1.out) (fun u hu => by obtain rfl := List.mem_singleton.1 hu; rfl) (by decide) (by unfold maxLen; omega) (by omega) (by simp; omega) _ rfl ?_
        intro g2 cap2 w2 hown2 hgr2 hat2 hlt2
        have R := Lib.hid (PU.out w2 _ hown2 hgr2)
        have q1 : w2.cell? ⟨W.heap.size + 1 + 1, 1, none⟩ = some v := R0.out w2 hgr2
        have q2 : w2.frozen? ⟨W.heap.size + 1 + 1, 1, none⟩ = false := R1.out w2 hgr2
        have q3 : w2.cell? ⟨W.heap.size, 1, none⟩ = some (.slice (some ⟨b, off, none⟩) c.vs.length cap) ∧ w2.cell? ⟨b, off + k, none⟩ = some (.int .u64 (x : Nat)) := R2.out w2 hgr2
        clear hown2 hgr2 hat2
        try go_wp2_with fail
        refine hK.out _ _ ?_ (fun hNew => ?_)
        · first | exact ⟨k1, kx⟩ | exact q3 | exact s3 | exact ⟨R.out.bx.c1, (R.out.be.cell (p := ⟨b, off + k, none⟩) hbW).trans HX.out⟩
        clear hK K
        replace hHeld := hNew
        clear hNew
        ((try simp only [Act.put]); (try simp only [List.setIfInBounds_toArray]); (try simp only [List.set_cons_succ]); (try simp only [List.set_cons_zero]))
        refine wpAnyH_take (i := 9) (oi := _) (v := ?_) rfl (by kernel_rfl) (by kernel_rfl) (by kernel_rfl) (fun _ _ _ h => h) (Or.inl ⟨by rfl, ?_⟩) (by assumption) ?_
        rotate_left
        · (intro w hSw; (try dsimp only at hSw); go_simp; try with_reducible rfl)
        ((try simp only [Act.put]); (try simp only [List.setIfInBounds_toArray]); (try simp only [List.set_cons_succ]); (try simp only [List.set_cons_zero]))
        refine wpAnyH_ready (rs := [10]) (by kernel_rfl) (by simp) ?_
        refine AllReadyH.cons (o := _) rfl (fun K hK => ?_) AllReadyH.nil
        go_simp
        refine hK.out _ _ ?_ (fun hNew => ?_)
        · first | exact ⟨k1, kx⟩ | exact q3 | exact s3 | exact ⟨R.out.bx.c1, (R.out.be.cell (p := ⟨b, off + k, none⟩) hbW).trans HX.out⟩
        clear hK K
        replace hHeld := hNew
        clear hNew
        ((try simp only [Act.put]); (try simp only [List.setIfInBounds_toArray]); (try simp only [List.set_cons_succ]); (try simp only [List.set_cons_zero]))
        refine wpAnyH_done (by kernel_rfl) ?_ _
        refine NoPanic.normal ?_
        go_wp2_with fail
        go_roundw
        case rel => exact ⟨k + 1, _, hlt, by go_num, R⟩
        case measure => simp only [intOf]; omega
      · skip
        go_simp
        refine hK.out _ _ ?_ (fun hNew => ?_)
        · first | exact ⟨k1, kx⟩ | exact q3 | exact s3 | exact ⟨R.out.bx.c1, (R.out.be.cell (p := ⟨b, off + k, none⟩) hbW).trans HX.out⟩
        clear hK K
        replace hHeld := hNew
        clear hNew
        ((try simp only [Act.put]); (try simp only [List.setIfInBounds_toArray]); (try simp only [List.set_cons_succ]); (try simp only [List.set_cons_zero]))
        refine wpAnyH_ready (rs := [1]) (by kernel_rfl) (by simp) ?_
        refine AllReadyH.cons (o := _) rfl (fun K hK => ?_) AllReadyH.nil
        go_simp
        refine hK.out _ _ ?_ (fun hNew => ?_)
        · first | exact ⟨k1, kx⟩ | exact q3 | exact s3 | exact ⟨R.out.bx.c1, (R.out.be.cell (p := ⟨b, off + k, none⟩) hbW).trans HX.out⟩
        clear hK K
        replace hHeld := hNew
        clear hNew
        ((try simp only [Act.put]); (try simp only [List.setIfInBounds_toArray]); (try simp only [List.set_cons_succ]); (try simp only [List.set_cons_zero]))
        refine wpAnyH_ready (rs := [8]) (by kernel_rfl) (by simp) ?_
        refine AllReadyH.cons (o := _) rfl (fun K hK => ?_) AllReadyH.nil
        refine step_append_lies _ rfl (.tmp 28) (.tmp 34) 35 rfl (W.heap.size + 1 + 1 + 1) 28 i0 (.int .u64 0) 1 8 Tryd.underlying35 hi0 hz0 hz1 hz2 rfl (by decide) v k _ (by rfl) HO2.out ⟨wr.heap.size, 0, none⟩ 1 1 [.int .u64 (x : Nat)] (by rfl) rfl (World.news_of_block hn1.out) (fun u hu => by obtain rfl := List.mem_singleton.1 hu; rfl) (by decide) (by unfold maxLen; omega) (by omega) (by simp; omega) _ rfl ?_
        intro g2 cap2 w2 hown2 hgr2 hat2 hlt2
        have R := Lib.hid (PU.out w2 _ hown2 hgr2)
        have q1 : w2.cell? ⟨W.heap.size + 1 + 1, 1, none⟩ = some v := R0.out w2 hgr2
        have q2 : w2.frozen? ⟨W.heap.size + 1 + 1, 1, none⟩ = false := R1.out w2 hgr2
        have q3 : w2.cell? ⟨W.heap.size, 1, none⟩ = some (.slice (some ⟨b, off, none⟩) c.vs.length cap) ∧ w2.cell? ⟨b, off + k, none⟩ = some (.int .u64 (x : Nat)) := R2.out w2 hgr2
        clear hown2 hgr2 hat2
        try go_wp2_with fail
        refine hK.out _ _ ?_ (fun hNew => ?_)
        · first | exact ⟨k1, kx⟩ | exact q3 | exact s3 | exact ⟨R.out.bx.c1, (R.out.be.cell (p := ⟨b, off + k, none⟩) hbW).trans HX.out⟩
        clear hK K
        replace hHeld := hNew
        clear hNew
        ((try simp only [Act.put]); (try simp only [List.setIfInBounds_toArray]); (try simp only [List.set_cons_succ]); (try simp only [List.set_cons_zero]))
        refine wpAnyH_take (i := 9) (oi := _) (v := ?_) rfl (by kernel_rfl) (by kernel_rfl) (by kernel_rfl) (fun _ _ _ h => h) (Or.inl ⟨by rfl, ?_⟩) (by assumption) ?_
        rotate_left
        · (intro w hSw; (try dsimp only at hSw); go_simp; try with_reducible rfl)
        ((try simp only [Act.put]); (try simp only [List.setIfInBounds_toArray]); (try simp only [List.set_cons_succ]); (try simp only [List.set_cons_zero]))
        refine wpAnyH_ready (rs := [10]) (by kernel_rfl) (by simp) ?_
        refine AllReadyH.cons (o := _) rfl (fun K hK => ?_) AllReadyH.nil
        go_simp
        refine hK.out _ _ ?_ (fun hNew => ?_)
        · first | exact ⟨k1, kx⟩ | exact q3 | exact s3 | exact ⟨R.out.bx.c1, (R.out.be.cell (p := ⟨b, off + k, none⟩) hbW).trans HX.out⟩
        clear hK K
        replace hHeld := hNew
        clear hNew
        ((try simp only [Act.put]); (try simp only [List.setIfInBounds_toArray]); (try simp only [List.set_cons_succ]); (try simp only [List.set_cons_zero]))
        refine wpAnyH_done (by kernel_rfl) ?_ _
        refine NoPanic.normal ?_
        go_wp2_with fail
        go_roundw
        case rel => exact ⟨k + 1, _, hlt, by go_num, R⟩
        case measure => simp only [intOf]; omega
    · obtain rfl : k = c.vs.length := by omega
      obtain ⟨a2, cp2, rfl, hs2⟩ := X.out.sl rfl
      have hV := X.out
      have d0 := hV.d0
      have d1 := hV.d1
      have d2 := hV.d2
      have d3 := hV.d3
      have d4 := hV.d4
      have d5 := hV.d5
      have d6 := hV.d6
      have d7 := hV.d7
      obtain ⟨u0, r0⟩ := hV.r 0 (by decide)
      obtain ⟨u1, r1⟩ := hV.r 1 (by decide)
      obtain ⟨u2, r2⟩ := hV.r 2 (by decide)
      obtain ⟨u3, r3⟩ := hV.r 3 (by decide)
      obtain ⟨u4, r4⟩ := hV.r 4 (by decide)
      obtain ⟨u5, r5⟩ := hV.r 5 (by decide)
      obtain ⟨u6, r6⟩ := hV.r 6 (by decide)
      obtain ⟨u7, r7⟩ := hV.r 7 (by decide)
      have f0 := hV.rf 0
      have f1 := hV.rf 1
      have f2 := hV.rf 2
      have f3 := hV.rf 3
      have f4 := hV.rf 4
      have f5 := hV.rf 5
      have f6 := hV.rf 6
      have f7 := hV.rf 7
      have H2 := Lib.hid hs2
      clear hV hs2
      go_wp2_with fail
      obtain ⟨w9, e9, k0, k1', k2, k3, k4, k5, k6, k7⟩ := set8 wr (W.heap.size + 1) (.int .i64 c.n) (.slice a2 c.vs.length cp2) (.int .i64 c.win) (.int .i64 c.que) (.int .i64 c.fst) (.int .i64 c.mst) (.int .i64 c.bod) (.int .i64 c.eng) X.out.r
      have hfar : ∀ b off, a2 = some ⟨b, off, none⟩ → b ≠ W.heap.size + 1 := fun b off e => by
        subst e
        have := own_row X.out.own b (by simp [Value.ownBlock])
        omega
      have hS9 := H2.out
      have hS9 := hS9.far hfar 0 (.int .i64 c.n)
      have hS9 := hS9.far hfar 1 (.slice a2 c.vs.length cp2)
      have hS9 := hS9.far hfar 2 (.int .i64 c.win)
      have hS9 := hS9.far hfar 3 (.int .i64 c.que)
      have hS9 := hS9.far hfar 4 (.int .i64 c.fst)
      have hS9 := hS9.far hfar 5 (.int .i64 c.mst)
      have hS9 := hS9.far hfar 6 (.int .i64 c.bod)
      have hS9 := hS9.far hfar 7 (.int .i64 c.eng)
      have hB9 := X.out.be
      have hle : ∀ (w : World) (j : Nat) (u : Value), Below W.heap.size W w → Below W.heap.size W (w.setCell ⟨W.heap.size + 1, j, none⟩ u) := fun w j u h => h.setCell (by show W.heap.size ≤ W.heap.size + 1; omega) u
      have hB9 := hle _ 0 (.int .i64 c.n) hB9
      have hB9 := hle _ 1 (.slice a2 c.vs.length cp2) hB9
      have hB9 := hle _ 2 (.int .i64 c.win) hB9
      have hB9 := hle _ 3 (.int .i64 c.que) hB9
      have hB9 := hle _ 4 (.int .i64 c.fst) hB9
      have hB9 := hle _ 5 (.int .i64 c.mst) hB9
      have hB9 := hle _ 6 (.int .i64 c.bod) hB9
      have hB9 := hle _ 7 (.int .i64 c.eng) hB9
      rw [e9] at hS9 hB9
      clear d0 d1 d2 d3 d4 d5 d6 d7 r0 r1 r2 r3 r4 r5 r6 r7 f0 f1 f2 f3 f4 f5 f6 f7 hfar hle
      rw [e9]
      clear e9
      refine bodyPost_ret (v := .agg #[.int .i64 c.n, .slice a2 c.vs.length cp2, .int .i64 c.win, .int .i64 c.que, .int .i64 c.fst, .int .i64 c.mst, .int .i64 c.bod, .int .i64 c.eng]) (by simp [results, Tryd.results12, go_sem, k0, k1', k2, k3, k4, k5, k6, k7]) rfl ?_
      exact ⟨a2, cp2, rfl, hS9, hB9⟩

end Go.Proofs.YtnipoknmhcgplaaDoor
