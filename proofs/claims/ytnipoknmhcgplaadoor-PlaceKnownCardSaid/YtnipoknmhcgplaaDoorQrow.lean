/-
  Twelve configs side by side in one block.
-/
import Derived.Test.YtnipoknmhcgplaaDoorQfst
namespace Go.Proofs.YtnipoknmhcgplaaDoor
open Go.RowKit

def upd (V : Nat → Value) (o : Nat) (v : Value) : Nat → Value := fun x => if x = o then v else V x

/-- A block of 96 cells that the call has made. -/
structure Row12 (W : World) (N B : Nat) (V : Nat → Value) (w : World) : Prop where
  be : Below N W w
  le : N ≤ B
  lt : B < w.heap.size
  c : ∀ o, o < 96 → w.cell? ⟨B, o, none⟩ = some (V o)
  fz : ∀ o, w.frozen? ⟨B, o, none⟩ = false

theorem Row12.below {W w w' : World} {N B : Nat} {V : Nat → Value} (h : Row12 W N B V w) (hb : Below w.heap.size w w') : Row12 W N B V w' :=
  ⟨h.be.trans (hb.mono (by have := h.le; have := h.lt; omega)), h.le, Nat.lt_of_lt_of_le h.lt hb.size, fun o ho => cell_go (h.c o ho) hb,
    fun o => (World.frozen?_of_block (w := w) (a := ⟨B, o, none⟩) (hb.block B h.lt)).trans (h.fz o)⟩
theorem Row12.put {W w : World} {N B : Nat} {V : Nat → Value} (h : Row12 W N B V w) (o : Nat) (v : Value) : Row12 W N B (upd V o v) (w.setCell ⟨B, o, none⟩ v) := by
  refine ⟨h.be.setCell h.le v, h.le, by have := h.lt; simpa [World.setCell] using this, fun x hx => ?_, fun x => (World.frozen?_setCell ..).trans (h.fz x)⟩
  unfold upd
  by_cases e : x = o
  · subst e
    rw [if_pos rfl]
    exact World.cell?_setCell_same w _ _ (h.c x hx)
  · rw [if_neg e]
    exact (World.cell?_setCell_other w _ _ v (fun e' => by cases e'; exact e rfl)).trans (h.c x hx)

/-- A slice that lies elsewhere. -/
structure SlF (B : Nat) (a : Option Addr) (cap : Nat) (vs : List Value) (w : World) : Prop where
  sl : SlV w a cap vs
  far : ∀ b off, a = some ⟨b, off, none⟩ → b ≠ B
theorem SlF.below {w w' : World} {B : Nat} {a : Option Addr} {cap : Nat} {vs : List Value} (h : SlF B a cap vs w) (hb : Below w.heap.size w w') : SlF B a cap vs w' := ⟨h.sl.below hb, h.far⟩
theorem SlF.put {w : World} {B : Nat} {a : Option Addr} {cap : Nat} {vs : List Value} (h : SlF B a cap vs w) (o : Nat) (v : Value) : SlF B a cap vs (w.setCell ⟨B, o, none⟩ v) :=
  ⟨⟨h.sl.fit, h.sl.max, h.sl.nil, fun i hi => by
    obtain ⟨b, off, e, hl, hc⟩ := h.sl.cell i hi
    have hb := h.far b off e
    exact ⟨b, off, e, by simpa [World.setCell] using hl, (World.cell?_setCell_other w ⟨B, o, Option.none⟩ ⟨b, off + i, Option.none⟩ v (fun e => hb (congrArg Addr.block e).symm)).trans hc⟩⟩, h.far⟩

def plainCell (a : Option Addr) : Nat → Value
  | 0 => .int .i64 3
  | 1 => .slice a 1 1
  | 2 => .int .i64 2
  | 3 => .int .i64 3
  | 4 => .int .i64 2
  | 5 => .int .i64 8
  | 6 => .int .i64 64
  | _ => .int .i64 1
def zeroCell : Nat → Value
  | 1 => .slice none 0 0
  | _ => .int .i64 0
/-- The first k are small ones. -/
def rowV (k : Nat) (a : Nat → Option Addr) : Nat → Value := fun o => if o / 8 < k then plainCell (a (o / 8)) (o % 8) else zeroCell (o % 8)
theorem row_next (k : Nat) (a : Nat → Option Addr) (x : Option Addr) :
    upd (upd (upd (upd (upd (upd (upd (upd (rowV k a) (k * 8) (.int .i64 3)) (k * 8 + 1) (.slice x 1 1)) (k * 8 + 2) (.int .i64 2)) (k * 8 + 3) (.int .i64 3)) (k * 8 + 4) (.int .i64 2)) (k * 8 + 5) (.int .i64 8)) (k * 8 + 6) (.int .i64 64)) (k * 8 + 7) (.int .i64 1)
      = rowV (k + 1) (fun j => if j = k then x else a j) := by
  funext o
  by_cases h : o / 8 = k
  · have hr : o % 8 < 8 := Nat.mod_lt _ (by decide)
    have e : o = k * 8 + o % 8 := by omega
    have e1 : rowV (k + 1) (fun j => if j = k then x else a j) o = plainCell x (o % 8) := by unfold rowV; rw [if_pos (by omega)]; show plainCell (if o / 8 = k then x else a (o / 8)) (o % 8) = _; rw [if_pos h]
    rw [e1]
    generalize o % 8 = r at *
    subst e
    have hh : r = 0 ∨ r = 1 ∨ r = 2 ∨ r = 3 ∨ r = 4 ∨ r = 5 ∨ r = 6 ∨ r = 7 := by omega
    rcases hh with rfl | rfl | rfl | rfl | rfl | rfl | rfl | rfl <;> simp [upd, plainCell]
  · have e1 : rowV (k + 1) (fun j => if j = k then x else a j) o = rowV k a o := by
      unfold rowV
      by_cases h2 : o / 8 < k
      · rw [if_pos h2, if_pos (by omega)]; show plainCell (if o / 8 = k then x else a (o / 8)) (o % 8) = _; rw [if_neg h]
      · rw [if_neg h2, if_neg (by omega)]
    rw [e1]
    unfold upd
    rw [if_neg (by omega), if_neg (by omega), if_neg (by omega), if_neg (by omega), if_neg (by omega), if_neg (by omega), if_neg (by omega), if_neg (by omega)]

/-- What the twelve hold. -/
structure Rows12 (W : World) (N B k : Nat) (a : Nat → Option Addr) (w : World) : Prop where
  row : Row12 W N B (rowV k a) w
  sl : ∀ j, j < k → SlF B (a j) 1 [uV 7] w
theorem Rows12.below {W w w' : World} {N B k : Nat} {a : Nat → Option Addr} (h : Rows12 W N B k a w) (hb : Below w.heap.size w w') : Rows12 W N B k a w' := ⟨h.row.below hb, fun j hj => (h.sl j hj).below hb⟩
theorem Rows12.next {W w : World} {N B k : Nat} {a : Nat → Option Addr} (h : Rows12 W N B k a w) {x : Option Addr} (hx : SlF B x 1 [uV 7] w) :
    Rows12 W N B (k + 1) (fun j => if j = k then x else a j) ((((((((w.setCell ⟨B, k * 8, none⟩ (.int .i64 3)).setCell ⟨B, k * 8 + 1, none⟩ (.slice x 1 1)).setCell ⟨B, k * 8 + 2, none⟩ (.int .i64 2)).setCell ⟨B, k * 8 + 3, none⟩ (.int .i64 3)).setCell ⟨B, k * 8 + 4, none⟩ (.int .i64 2)).setCell ⟨B, k * 8 + 5, none⟩ (.int .i64 8)).setCell ⟨B, k * 8 + 6, none⟩ (.int .i64 64)).setCell ⟨B, k * 8 + 7, none⟩ (.int .i64 1)) := by
  refine ⟨?_, fun j hj => ?_⟩
  · rw [← row_next]
    exact (((((((h.row.put _ _).put _ _).put _ _).put _ _).put _ _).put _ _).put _ _).put _ _
  · have key : SlF B (if j = k then x else a j) 1 [uV 7] w := by
      by_cases e : j = k
      · rw [if_pos e]; exact hx
      · rw [if_neg e]; exact h.sl j (by omega)
    exact (((((((key.put _ _).put _ _).put _ _).put _ _).put _ _).put _ _).put _ _).put _ _

def zeros12 : Array Value := ((List.range 96).map fun o => zeroCell (o % 8)).toArray
theorem rows_start {W w : World} {N : Nat} (hb : Below N W w) (hN : N ≤ w.heap.size) (a : Nat → Option Addr) (t : TypeId) : Rows12 W N w.heap.size 0 a (w.alloc (.cells zeros12 t)) := by
  refine ⟨⟨hb.alloc hN _, hN, by simp, fun o ho => ?_, fun o => by simp⟩, fun j hj => absurd hj (Nat.not_lt_zero j)⟩
  have h := World.news_of_block (cs := zeros12) (fr := (0, 0)) (heap_alloc_new w (.cells zeros12 t)) o (rowV 0 a o) (by
    unfold zeros12 rowV
    simp [ho])
  rw [add_spot, Nat.zero_add] at h
  exact h

/-- A small one whose sets lie in a block of its own. -/
theorem plain_new (n g : Int) (W : World) (hn : IntOk n) :
    Calls Tryd.prog 7 #[.int .i64 n, .int .i64 g] W fun e w' => ∃ a, e = .returned (.agg #[.int .i64 n, .slice a 1 1, .int .i64 2, .int .i64 3, .int .i64 2, .int .i64 8, .int .i64 64, .int .i64 g]) ∧ SlV w' a 1 ((plainC n g).vs.map uV) ∧ Below W.heap.size W w' ∧ ∀ b off, a = some ⟨b, off, none⟩ → W.heap.size < b ∧ off = 0 := by
  have N := Lib.hid hn
  clear hn
  go_enter Tryd.func7, Tryd.ntmps7
  by_cases h : n ≤ 64
  · have R := Lib.hid (show (plainC n g).vs = [allN n] by unfold plainC; simp [h])
    go_wp2_with fail
    refine (all_any n _ N.out).mono ?_
    rintro e w' ⟨rfl, rfl⟩
    go_wp2_with fail
    refine bodyPost_ret (v := .agg #[.int .i64 n, .slice (some ⟨W.heap.size + 1, 0, none⟩) 1 1, .int .i64 2, .int .i64 3, .int .i64 2, .int .i64 8, .int .i64 64, .int .i64 g]) (by simp [results, Tryd.results7, go_sem]) rfl ?_
    refine ⟨_, rfl, ?_, ?_, fun b off e => by cases e; exact ⟨Nat.lt_succ_self _, rfl⟩⟩
    · rw [R.out]
      have := slv_lit (W.alloc (.cells #[.int .i64 n, .slice (some ⟨W.heap.size + 1, 0, none⟩) 1 1, .int .i64 2, .int .i64 3, .int .i64 2, .int .i64 8, .int .i64 64, .int .i64 g] 26)) [uV (allN n)] #[.int .u64 (allN n : Nat)] 29 1 rfl rfl (by unfold maxLen; omega)
      simpa using this
    · exact below_alloc (below_alloc (Below.refl _ W) _) _
  · have R := Lib.hid (show (plainC n g).vs = [0] by unfold plainC; simp [h])
    go_wp2_with fail
    refine bodyPost_ret (v := .agg #[.int .i64 n, .slice (some ⟨W.heap.size + 1, 0, none⟩) 1 1, .int .i64 2, .int .i64 3, .int .i64 2, .int .i64 8, .int .i64 64, .int .i64 g]) (by simp [results, Tryd.results7, go_sem]) rfl ?_
    refine ⟨_, rfl, ?_, ?_, fun b off e => by cases e; exact ⟨Nat.lt_succ_self _, rfl⟩⟩
    · rw [R.out]
      have := slv_lit (W.alloc (.cells #[.int .i64 n, .slice (some ⟨W.heap.size + 1, 0, none⟩) 1 1, .int .i64 2, .int .i64 3, .int .i64 2, .int .i64 8, .int .i64 64, .int .i64 g] 26)) [uV (0)] #[.int .u64 (0 : Nat)] 29 1 rfl rfl (by unfold maxLen; omega)
      simpa using this
    · exact below_alloc (below_alloc (Below.refl _ W) _) _

/-- The twelve, some of their cells turned; the small ones' sets. -/
structure RowsV (W : World) (N B : Nat) (V : Nat → Value) (a : Nat → Option Addr) (w : World) : Prop where
  row : Row12 W N B V w
  sl : ∀ j, j < 12 → SlF B (a j) 1 [uV 7] w
theorem RowsV.below {W w w' : World} {N B : Nat} {V : Nat → Value} {a : Nat → Option Addr} (h : RowsV W N B V a w) (hb : Below w.heap.size w w') : RowsV W N B V a w' := ⟨h.row.below hb, fun j hj => (h.sl j hj).below hb⟩
theorem RowsV.put {W w : World} {N B : Nat} {V : Nat → Value} {a : Nat → Option Addr} (h : RowsV W N B V a w) (o : Nat) (v : Value) : RowsV W N B (upd V o v) a (w.setCell ⟨B, o, none⟩ v) := ⟨h.row.put o v, fun j hj => (h.sl j hj).put o v⟩

/-- The twelve that may not be. -/
def badC : Nat → Cfg
  | 0 => ⟨17, [7], 2, 3, 2, 8, 64, 1⟩
  | 1 => ⟨3, [0], 2, 3, 2, 8, 64, 1⟩
  | 2 => ⟨3, [8], 2, 3, 2, 8, 64, 1⟩
  | 3 => ⟨3, [7], 0, 3, 2, 8, 64, 1⟩
  | 4 => ⟨3, [7], 2, 1, 2, 8, 64, 1⟩
  | 5 => ⟨3, [7], 2, 3, 9, 8, 64, 1⟩
  | 6 => ⟨3, [7], 2, 3, 2, 1001, 64, 1⟩
  | 7 => ⟨3, [7], 2, 3, 2, 8, 257, 1⟩
  | 8 => ⟨3, [7], 2, 3, 2, 8, 64, 3⟩
  | 9 => ⟨3, List.replicate 17 0, 2, 3, 2, 8, 64, 1⟩
  | 10 => ⟨3, [7], 2, 3, 0, 8, 64, 1⟩
  | _ => ⟨0, [7], 2, 3, 2, 8, 64, 1⟩
def badA (a : Nat → Option Addr) (s1 s2 s9 : Option Addr) : Nat → Option Addr
  | 1 => s1
  | 2 => s2
  | 9 => s9
  | k => a k
def badCap : Nat → Nat
  | 9 => 17
  | _ => 1
/-- All twelve as they stand in the end. -/
def badV (a : Nat → Option Addr) (s1 s2 s9 : Option Addr) : Nat → Value :=
  upd (upd (upd (upd (upd (upd (upd (upd (upd (upd (upd (upd (rowV 12 a) 0 (.int .i64 17)) 9 (.slice s1 1 1)) 17 (.slice s2 1 1)) 26 (.int .i64 0)) 35 (.int .i64 1)) 44 (.int .i64 9)) 53 (.int .i64 1001)) 62 (.int .i64 257)) 71 (.int .i64 3)) 73 (.slice s9 17 17)) 84 (.int .i64 0)) 88 (.int .i64 0)
theorem twelve {P : Nat → Prop} (h0 : P 0) (h1 : P 1) (h2 : P 2) (h3 : P 3) (h4 : P 4) (h5 : P 5) (h6 : P 6) (h7 : P 7) (h8 : P 8) (h9 : P 9) (h10 : P 10) (h11 : P 11) : ∀ k, k < 12 → P k := fun k hk => by
  have hh : k = 0 ∨ k = 1 ∨ k = 2 ∨ k = 3 ∨ k = 4 ∨ k = 5 ∨ k = 6 ∨ k = 7 ∨ k = 8 ∨ k = 9 ∨ k = 10 ∨ k = 11 := by omega
  rcases hh with rfl | rfl | rfl | rfl | rfl | rfl | rfl | rfl | rfl | rfl | rfl | rfl <;> assumption
theorem bad_cells (a : Nat → Option Addr) (s1 s2 s9 : Option Addr) : ∀ k, k < 12 → badV a s1 s2 s9 (k * 8) = .int .i64 (badC k).n ∧ badV a s1 s2 s9 (k * 8 + 1) = .slice (badA a s1 s2 s9 k) (badC k).vs.length (badCap k) ∧
    badV a s1 s2 s9 (k * 8 + 2) = .int .i64 (badC k).win ∧ badV a s1 s2 s9 (k * 8 + 3) = .int .i64 (badC k).que ∧ badV a s1 s2 s9 (k * 8 + 4) = .int .i64 (badC k).fst ∧ badV a s1 s2 s9 (k * 8 + 5) = .int .i64 (badC k).mst ∧
    badV a s1 s2 s9 (k * 8 + 6) = .int .i64 (badC k).bod ∧ badV a s1 s2 s9 (k * 8 + 7) = .int .i64 (badC k).eng := by
  refine twelve ?_ ?_ ?_ ?_ ?_ ?_ ?_ ?_ ?_ ?_ ?_ ?_
  all_goals exact ⟨rfl, rfl, rfl, rfl, rfl, rfl, rfl, rfl⟩
theorem bad_good : ∀ k, k < 12 → goodC (badC k) = false := by
  refine twelve ?_ ?_ ?_ ?_ ?_ ?_ ?_ ?_ ?_ ?_ ?_ ?_
  all_goals decide +kernel
theorem bad_ok : ∀ k, k < 12 → CfgOk (badC k) := by
  have ok : ∀ z : Int, (-9223372036854775808 ≤ z ∧ z ≤ 9223372036854775807) → IntOk z := fun _ h => h
  refine twelve ?_ ?_ ?_ ?_ ?_ ?_ ?_ ?_ ?_ ?_ ?_ ?_
  all_goals exact ⟨ok _ (by decide), by decide, ok _ (by decide), ok _ (by decide), ok _ (by decide), ok _ (by decide), ok _ (by decide), ok _ (by decide)⟩

/-- One of the twelve, as it lies. -/
structure BadAt (k : Nat) (B : Nat) (ao : Option Addr) (cap : Nat) (w : World) : Prop where
  c0 : w.cell? ⟨B, k * 8, none⟩ = some (.int .i64 (badC k).n)
  c1 : w.cell? ⟨B, k * 8 + 1, none⟩ = some (.slice ao (badC k).vs.length cap)
  c2 : w.cell? ⟨B, k * 8 + 2, none⟩ = some (.int .i64 (badC k).win)
  c3 : w.cell? ⟨B, k * 8 + 3, none⟩ = some (.int .i64 (badC k).que)
  c4 : w.cell? ⟨B, k * 8 + 4, none⟩ = some (.int .i64 (badC k).fst)
  c5 : w.cell? ⟨B, k * 8 + 5, none⟩ = some (.int .i64 (badC k).mst)
  c6 : w.cell? ⟨B, k * 8 + 6, none⟩ = some (.int .i64 (badC k).bod)
  c7 : w.cell? ⟨B, k * 8 + 7, none⟩ = some (.int .i64 (badC k).eng)
  sl : SlV w ao cap ((badC k).vs.map uV)
structure BadAll (W : World) (N B : Nat) (a : Nat → Option Addr) (s1 s2 s9 : Option Addr) (w : World) : Prop where
  rows : RowsV W N B (badV a s1 s2 s9) a w
  t1 : SlF B s1 1 [uV 0] w
  t2 : SlF B s2 1 [uV 8] w
  t9 : SlF B s9 17 ((List.replicate 17 0).map uV) w
theorem BadAll.below {W w w' : World} {N B : Nat} {a : Nat → Option Addr} {s1 s2 s9 : Option Addr} (h : BadAll W N B a s1 s2 s9 w) (hb : Below w.heap.size w w') : BadAll W N B a s1 s2 s9 w' := ⟨h.rows.below hb, h.t1.below hb, h.t2.below hb, h.t9.below hb⟩
theorem BadAll.at {W w : World} {N B : Nat} {a : Nat → Option Addr} {s1 s2 s9 : Option Addr} (h : BadAll W N B a s1 s2 s9 w) (k : Nat) (hk : k < 12) : BadAt k B (badA a s1 s2 s9 k) (badCap k) w := by
  obtain ⟨e0, e1, e2, e3, e4, e5, e6, e7⟩ := bad_cells a s1 s2 s9 k hk
  refine ⟨?_, ?_, ?_, ?_, ?_, ?_, ?_, ?_, ?_⟩
  · rw [← e0]; exact h.rows.row.c _ (by omega)
  · rw [← e1]; exact h.rows.row.c _ (by omega)
  · rw [← e2]; exact h.rows.row.c _ (by omega)
  · rw [← e3]; exact h.rows.row.c _ (by omega)
  · rw [← e4]; exact h.rows.row.c _ (by omega)
  · rw [← e5]; exact h.rows.row.c _ (by omega)
  · rw [← e6]; exact h.rows.row.c _ (by omega)
  · rw [← e7]; exact h.rows.row.c _ (by omega)
  · clear e0 e1 e2 e3 e4 e5 e6 e7
    have s := h.rows.sl
    revert k
    refine twelve ?_ ?_ ?_ ?_ ?_ ?_ ?_ ?_ ?_ ?_ ?_ ?_
    · exact (s 0 (by decide)).sl
    · exact h.t1.sl
    · exact h.t2.sl
    · exact (s 3 (by decide)).sl
    · exact (s 4 (by decide)).sl
    · exact (s 5 (by decide)).sl
    · exact (s 6 (by decide)).sl
    · exact (s 7 (by decide)).sl
    · exact (s 8 (by decide)).sl
    · exact h.t9.sl
    · exact (s 10 (by decide)).sl
    · exact (s 11 (by decide)).sl

theorem make1 (w : World) : ∃ w' H, (Instr.makeSlice 24 (.int .i64 1) (.int .i64 1)).run Tryd.prog w = .ok (.slice (some ⟨H, 0, none⟩) 1 1) w' ∧ Below w.heap.size w w' ∧ SlV w' (some ⟨H, 0, none⟩) 1 [uV 0] ∧ w.heap.size = H :=
  ⟨_, _, (show (Instr.makeSlice 24 (.int .i64 1) (.int .i64 1)).run Tryd.prog w = .ok (.slice (some ⟨w.heap.size, 0, none⟩) 1 1) (w.alloc (.cells #[.int .u64 0] 29)) by kernel_rfl),
    below_alloc (Below.refl _ _) _, slv_lit w [uV 0] #[.int .u64 0] 29 1 rfl rfl (by unfold maxLen; omega), rfl⟩
theorem make17 (w : World) : ∃ w' H, (Instr.makeSlice 24 (.int .i64 17) (.int .i64 17)).run Tryd.prog w = .ok (.slice (some ⟨H, 0, none⟩) 17 17) w' ∧ Below w.heap.size w w' ∧ SlV w' (some ⟨H, 0, none⟩) 17 ((List.replicate 17 0).map uV) ∧ w.heap.size = H :=
  ⟨_, _, (show (Instr.makeSlice 24 (.int .i64 17) (.int .i64 17)).run Tryd.prog w = .ok (.slice (some ⟨w.heap.size, 0, none⟩) 17 17) (w.alloc (.cells #[.int .u64 0, .int .u64 0, .int .u64 0, .int .u64 0, .int .u64 0, .int .u64 0, .int .u64 0, .int .u64 0, .int .u64 0, .int .u64 0, .int .u64 0, .int .u64 0, .int .u64 0, .int .u64 0, .int .u64 0, .int .u64 0, .int .u64 0] 29)) by kernel_rfl),
    below_alloc (Below.refl _ _) _, slv_lit w ((List.replicate 17 0).map uV) #[.int .u64 0, .int .u64 0, .int .u64 0, .int .u64 0, .int .u64 0, .int .u64 0, .int .u64 0, .int .u64 0, .int .u64 0, .int .u64 0, .int .u64 0, .int .u64 0, .int .u64 0, .int .u64 0, .int .u64 0, .int .u64 0, .int .u64 0] 29 17 rfl rfl (by unfold maxLen; omega), rfl⟩

end Go.Proofs.YtnipoknmhcgplaaDoor
