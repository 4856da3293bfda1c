/-
  Sixteen messages side by side in one block.
-/
import Derived.Test.YtjdnaonhfacpoaaJwd
import Derived.Laws.OwnMore
namespace Go.Proofs.Ytjdnaonhfacpoaa
open Go.RowKit

/-- A block of 160 cells that the call has made. -/
structure Row16 (W : World) (N B : Nat) (V : Nat → Value) (w : World) : Prop where
  be : Below N W w
  le : N ≤ B
  lt : B < w.heap.size
  c : ∀ o, o < 160 → w.cell? ⟨B, o, none⟩ = some (V o)
  fz : ∀ o, w.frozen? ⟨B, o, none⟩ = false
theorem Row16.below {W w w' : World} {N B : Nat} {V : Nat → Value} (h : Row16 W N B V w) (hb : Below w.heap.size w w') : Row16 W N B V w' :=
  ⟨h.be.trans (hb.mono (by have := h.le; have := h.lt; omega)), h.le, Nat.lt_of_lt_of_le h.lt hb.size, fun o ho => cell_go (h.c o ho) hb,
    fun o => (World.frozen?_of_block (w := w) (a := ⟨B, o, none⟩) (hb.block B h.lt)).trans (h.fz o)⟩
theorem Row16.put {W w : World} {N B : Nat} {V : Nat → Value} (h : Row16 W N B V w) (o : Nat) (v : Value) : Row16 W N B (upd V o v) (w.setCell ⟨B, o, none⟩ v) := by
  refine ⟨h.be.setCell h.le v, h.le, by have := h.lt; simpa [World.setCell] using this, fun x hx => ?_, fun x => (World.frozen?_setCell ..).trans (h.fz x)⟩
  unfold upd
  by_cases e : x = o
  · subst e
    rw [if_pos rfl]
    exact World.cell?_setCell_same w _ _ (h.c x hx)
  · rw [if_neg e]
    exact (World.cell?_setCell_other w _ _ v (fun e' => by cases e'; exact e rfl)).trans (h.c x hx)

/-- A slice of bytes that lies elsewhere. -/
structure SlF (B : Nat) (a : Option Addr) (cap : Nat) (xs : List Nat) (w : World) : Prop where
  sl : SlAt bV 256 w a cap xs
  far : ∀ ad, a = some ad → ad.block ≠ B
theorem SlF.below {w w' : World} {B : Nat} {a : Option Addr} {cap : Nat} {xs : List Nat} (h : SlF B a cap xs w) (hb : Below w.heap.size w w') : SlF B a cap xs w' := ⟨h.sl.below hb, h.far⟩
theorem SlF.put {w : World} {B : Nat} {a : Option Addr} {cap : Nat} {xs : List Nat} (h : SlF B a cap xs w) (o : Nat) (v : Value) : SlF B a cap xs (w.setCell ⟨B, o, none⟩ v) :=
  ⟨h.sl.keep (F := fun k => k = B) (Keep.setCell (F := fun k => k = B) (Keep.refl _ _) (p := ⟨B, o, none⟩) rfl v) (fun ad e _ => h.far ad e), h.far⟩

def wordCell (a : Option Addr) : Nat → Value
  | 0 => .int .i64 0
  | 1 => .int .u64 1
  | 2 => .int .u64 2
  | 3 => .int .i64 0
  | 4 => .int .i64 0
  | 5 => .float .f64 0
  | 6 => .int .i64 0
  | 7 => .int .u64 0
  | 8 => .slice a 1 1
  | _ => .slice none 0 0
/-- The first k are words. -/
def rowV (k : Nat) (a : Nat → Option Addr) : Nat → Value := fun o => if o / 10 < k then wordCell (a (o / 10)) (o % 10) else zeroV (o % 10)
theorem row_next (k : Nat) (a : Nat → Option Addr) (x : Option Addr) :
    upd (upd (upd (upd (upd (upd (upd (upd (upd (upd (rowV k a) (k * 10) (.int .i64 0)) (k * 10 + 1) (.int .u64 1)) (k * 10 + 2) (.int .u64 2)) (k * 10 + 3) (.int .i64 0)) (k * 10 + 4) (.int .i64 0)) (k * 10 + 5) (.float .f64 0)) (k * 10 + 6) (.int .i64 0)) (k * 10 + 7) (.int .u64 0)) (k * 10 + 8) (.slice x 1 1)) (k * 10 + 9) (.slice none 0 0) = rowV (k + 1) (fun j => if j = k then x else a j) := by
  funext o
  by_cases h : o / 10 = k
  · have hr : o % 10 < 10 := Nat.mod_lt _ (by decide)
    have e : o = k * 10 + o % 10 := by omega
    have e1 : rowV (k + 1) (fun j => if j = k then x else a j) o = wordCell x (o % 10) := by unfold rowV; rw [if_pos (by omega)]; show wordCell (if o / 10 = k then x else a (o / 10)) (o % 10) = _; rw [if_pos h]
    rw [e1]
    generalize o % 10 = r at *
    subst e
    have hh : r = 0 ∨ r = 1 ∨ r = 2 ∨ r = 3 ∨ r = 4 ∨ r = 5 ∨ r = 6 ∨ r = 7 ∨ r = 8 ∨ r = 9 := by omega
    rcases hh with rfl | rfl | rfl | rfl | rfl | rfl | rfl | rfl | rfl | rfl <;> simp [upd, wordCell]
  · have e1 : rowV (k + 1) (fun j => if j = k then x else a j) o = rowV k a o := by
      unfold rowV
      by_cases h2 : o / 10 < k
      · rw [if_pos h2, if_pos (by omega)]; show wordCell (if o / 10 = k then x else a (o / 10)) (o % 10) = _; rw [if_neg h]
      · rw [if_neg h2, if_neg (by omega)]
    rw [e1]
    unfold upd
    rw [if_neg (by omega), if_neg (by omega), if_neg (by omega), if_neg (by omega), if_neg (by omega), if_neg (by omega), if_neg (by omega), if_neg (by omega), if_neg (by omega), if_neg (by omega)]

structure Rows16 (W : World) (N B k : Nat) (a : Nat → Option Addr) (w : World) : Prop where
  row : Row16 W N B (rowV k a) w
  sl : ∀ j, j < k → SlF B (a j) 1 [97] w
theorem Rows16.below {W w w' : World} {N B k : Nat} {a : Nat → Option Addr} (h : Rows16 W N B k a w) (hb : Below w.heap.size w w') : Rows16 W N B k a w' := ⟨h.row.below hb, fun j hj => (h.sl j hj).below hb⟩
theorem Rows16.next {W w : World} {N B k : Nat} {a : Nat → Option Addr} (h : Rows16 W N B k a w) {x : Option Addr} (hx : SlF B x 1 [97] w) :
    Rows16 W N B (k + 1) (fun j => if j = k then x else a j) ((((((((((w.setCell ⟨B, k * 10, none⟩ (.int .i64 0)).setCell ⟨B, k * 10 + 1, none⟩ (.int .u64 1)).setCell ⟨B, k * 10 + 2, none⟩ (.int .u64 2)).setCell ⟨B, k * 10 + 3, none⟩ (.int .i64 0)).setCell ⟨B, k * 10 + 4, none⟩ (.int .i64 0)).setCell ⟨B, k * 10 + 5, none⟩ (.float .f64 0)).setCell ⟨B, k * 10 + 6, none⟩ (.int .i64 0)).setCell ⟨B, k * 10 + 7, none⟩ (.int .u64 0)).setCell ⟨B, k * 10 + 8, none⟩ (.slice x 1 1)).setCell ⟨B, k * 10 + 9, none⟩ (.slice none 0 0)) := by
  refine ⟨?_, fun j hj => ?_⟩
  · rw [← row_next]
    exact ((((((((((h.row.put _ _).put _ _).put _ _).put _ _).put _ _).put _ _).put _ _).put _ _).put _ _).put _ _)
  · have key : SlF B (if j = k then x else a j) 1 [97] w := by
      by_cases e : j = k
      · rw [if_pos e]; exact hx
      · rw [if_neg e]; exact h.sl j (by omega)
    exact ((((((((((key.put _ _).put _ _).put _ _).put _ _).put _ _).put _ _).put _ _).put _ _).put _ _).put _ _)

def zeros16 : Array Value := ((List.range 160).map fun o => zeroV (o % 10)).toArray
theorem rows_start {W w : World} {N : Nat} (hb : Below N W w) (hN : N ≤ w.heap.size) (a : Nat → Option Addr) (t : TypeId) : Rows16 W N w.heap.size 0 a (w.alloc (.cells zeros16 t)) := by
  refine ⟨⟨hb.alloc hN _, hN, by simp, fun o ho => ?_, fun o => by simp⟩, fun j hj => absurd hj (Nat.not_lt_zero j)⟩
  have h := World.news_of_block (cs := zeros16) (fr := (0, 0)) (heap_alloc_new w (.cells zeros16 t)) o (rowV 0 a o) (by
    unfold zeros16 rowV
    simp [ho])
  rw [add_spot, Nat.zero_add] at h
  exact h

/-- The sixteen, some of their cells turned; the words' bytes. -/
structure RowsV (W : World) (N B : Nat) (V : Nat → Value) (a : Nat → Option Addr) (w : World) : Prop where
  row : Row16 W N B V w
  sl : ∀ j, j < 16 → SlF B (a j) 1 [97] w
theorem RowsV.below {W w w' : World} {N B : Nat} {V : Nat → Value} {a : Nat → Option Addr} (h : RowsV W N B V a w) (hb : Below w.heap.size w w') : RowsV W N B V a w' := ⟨h.row.below hb, fun j hj => (h.sl j hj).below hb⟩
theorem RowsV.put {W w : World} {N B : Nat} {V : Nat → Value} {a : Nat → Option Addr} (h : RowsV W N B V a w) (o : Nat) (v : Value) : RowsV W N B (upd V o v) a (w.setCell ⟨B, o, none⟩ v) := ⟨h.row.put o v, fun j hj => (h.sl j hj).put o v⟩

/-- The sixteen that may not be. -/
def badM : Nat → Msg
  | 0 => ⟨16, 1, 2, 0, 0, 0, 0, 0, [97], []⟩
  | 1 => ⟨0, 0, 2, 0, 0, 0, 0, 0, [97], []⟩
  | 2 => ⟨0, 1, 1, 0, 0, 0, 0, 0, [97], []⟩
  | 3 => ⟨0, 1, 65536, 0, 0, 0, 0, 0, [97], []⟩
  | 4 => ⟨0, 1, 2, 4, 0, 0, 0, 0, [97], []⟩
  | 5 => ⟨0, 1, 2, 0, 0, 0, 0, 0, List.replicate 257 0, []⟩
  | 6 => ⟨0, 1, 2, 2, 0, 0, 0, 0, [97], []⟩
  | 7 => ⟨0, 1, 2, 0, 1, 0, 0, 0, [97], []⟩
  | 8 => ⟨0, 1, 2, 0, 0, 4607182418800017408, 0, 0, [97], []⟩
  | 9 => ⟨0, 1, 2, 0, 0, 0, 1, 0, [97], []⟩
  | 10 => ⟨0, 1, 2, 0, 0, 0, 0, 1, [97], []⟩
  | 11 => ⟨0, 1, 2, 0, 0, 0, 0, 0, [97], List.replicate 20001 0⟩
  | 12 => ⟨0, 1, 2, 1, 0, 0, 1, 1, [], []⟩
  | 13 => ⟨0, 1, 2, 1, 0, 0, 0, 0, [], []⟩
  | 14 => ⟨0, 1, 2, 3, 0, 0, 2, 0, [], []⟩
  | _ => ⟨0, 1, 2, 0, 0, 9223372036854775808, 0, 0, [97], []⟩
def badA (a : Nat → Option Addr) (s5 : Option Addr) : Nat → Option Addr
  | 5 => s5
  | 12 => none
  | 13 => none
  | 14 => none
  | k => a k
def badCap : Nat → Nat
  | 5 => 257
  | 12 => 0
  | 13 => 0
  | 14 => 0
  | _ => 1
def badS (s11 : Option Addr) : Nat → Option Addr
  | 11 => s11
  | _ => none
def badSc : Nat → Nat
  | 11 => 20001
  | _ => 0
/-- All sixteen as they stand in the end. -/
def badV (a : Nat → Option Addr) (s5 s11 : Option Addr) : Nat → Value :=
  upd (upd (upd (upd (upd (upd (upd (upd (upd (upd (upd (upd (upd (upd (upd (upd (upd (upd (upd (upd (upd (upd (upd (upd (upd (upd (upd (upd (upd (upd (upd (upd (upd (upd (upd (upd (upd (upd (upd (upd (upd (upd (upd (rowV 16 a) 0 (.int .i64 16)) 11 (.int .u64 0)) 22 (.int .u64 1)) 32 (.int .u64 65536)) 43 (.int .i64 4)) 58 (.slice s5 257 257)) 63 (.int .i64 2)) 74 (.int .i64 1)) 85 (.float .f64 4607182418800017408)) 96 (.int .i64 1)) 107 (.int .u64 1)) 119 (.slice s11 20001 20001)) 120 (.int .i64 0)) 121 (.int .u64 1)) 122 (.int .u64 2)) 123 (.int .i64 1)) 124 (.int .i64 0)) 125 (.float .f64 0)) 126 (.int .i64 1)) 127 (.int .u64 1)) 128 (.slice none 0 0)) 129 (.slice none 0 0)) 130 (.int .i64 0)) 131 (.int .u64 1)) 132 (.int .u64 2)) 133 (.int .i64 1)) 134 (.int .i64 0)) 135 (.float .f64 0)) 136 (.int .i64 0)) 137 (.int .u64 0)) 138 (.slice none 0 0)) 139 (.slice none 0 0)) 140 (.int .i64 0)) 141 (.int .u64 1)) 142 (.int .u64 2)) 143 (.int .i64 3)) 144 (.int .i64 0)) 145 (.float .f64 0)) 146 (.int .i64 2)) 147 (.int .u64 0)) 148 (.slice none 0 0)) 149 (.slice none 0 0)) 155 (.float .f64 9223372036854775808)
theorem sixteen {P : Nat → Prop} (h0 : P 0) (h1 : P 1) (h2 : P 2) (h3 : P 3) (h4 : P 4) (h5 : P 5) (h6 : P 6) (h7 : P 7) (h8 : P 8) (h9 : P 9) (h10 : P 10) (h11 : P 11) (h12 : P 12) (h13 : P 13) (h14 : P 14) (h15 : P 15) : ∀ k, k < 16 → P k := fun k hk => by
  have hh : k = 0 ∨ k = 1 ∨ k = 2 ∨ k = 3 ∨ k = 4 ∨ k = 5 ∨ k = 6 ∨ k = 7 ∨ k = 8 ∨ k = 9 ∨ k = 10 ∨ k = 11 ∨ k = 12 ∨ k = 13 ∨ k = 14 ∨ k = 15 := by omega
  rcases hh with rfl | rfl | rfl | rfl | rfl | rfl | rfl | rfl | rfl | rfl | rfl | rfl | rfl | rfl | rfl | rfl <;> assumption
theorem len257 : (List.replicate 257 (0 : Nat)).length = 257 := List.length_replicate
theorem len20001 : (List.replicate 20001 (0 : Nat)).length = 20001 := List.length_replicate
theorem bad_cells (a : Nat → Option Addr) (s5 s11 : Option Addr) : ∀ k, k < 16 → badV a s5 s11 (k * 10) = .int .i64 (badM k).frm ∧ badV a s5 s11 (k * 10 + 1) = .int .u64 ((badM k).num : Nat) ∧ badV a s5 s11 (k * 10 + 2) = .int .u64 ((badM k).to : Nat) ∧ badV a s5 s11 (k * 10 + 3) = .int .i64 (badM k).kind ∧ badV a s5 s11 (k * 10 + 4) = .int .i64 (badM k).vr ∧ badV a s5 s11 (k * 10 + 5) = .float .f64 (badM k).val ∧ badV a s5 s11 (k * 10 + 6) = .int .i64 (badM k).wri ∧ badV a s5 s11 (k * 10 + 7) = .int .u64 ((badM k).tag : Nat) ∧ badV a s5 s11 (k * 10 + 8) = .slice (badA a s5 k) (badM k).bod.length (badCap k) ∧ badV a s5 s11 (k * 10 + 9) = .slice (badS s11 k) (badM k).stp.length (badSc k) := by
  refine sixteen ?_ ?_ ?_ ?_ ?_ ?_ ?_ ?_ ?_ ?_ ?_ ?_ ?_ ?_ ?_ ?_
  case _ => exact ⟨rfl, rfl, rfl, rfl, rfl, rfl, rfl, rfl, rfl, rfl⟩
  case _ => exact ⟨rfl, rfl, rfl, rfl, rfl, rfl, rfl, rfl, rfl, rfl⟩
  case _ => exact ⟨rfl, rfl, rfl, rfl, rfl, rfl, rfl, rfl, rfl, rfl⟩
  case _ => exact ⟨rfl, rfl, rfl, rfl, rfl, rfl, rfl, rfl, rfl, rfl⟩
  case _ => exact ⟨rfl, rfl, rfl, rfl, rfl, rfl, rfl, rfl, rfl, rfl⟩
  case _ => exact ⟨rfl, rfl, rfl, rfl, rfl, rfl, rfl, rfl, by rw [show (badM 5).bod.length = 257 from len257]; rfl, rfl⟩
  case _ => exact ⟨rfl, rfl, rfl, rfl, rfl, rfl, rfl, rfl, rfl, rfl⟩
  case _ => exact ⟨rfl, rfl, rfl, rfl, rfl, rfl, rfl, rfl, rfl, rfl⟩
  case _ => exact ⟨rfl, rfl, rfl, rfl, rfl, rfl, rfl, rfl, rfl, rfl⟩
  case _ => exact ⟨rfl, rfl, rfl, rfl, rfl, rfl, rfl, rfl, rfl, rfl⟩
  case _ => exact ⟨rfl, rfl, rfl, rfl, rfl, rfl, rfl, rfl, rfl, rfl⟩
  case _ => exact ⟨rfl, rfl, rfl, rfl, rfl, rfl, rfl, rfl, rfl, by rw [show (badM 11).stp.length = 20001 from len20001]; rfl⟩
  case _ => exact ⟨rfl, rfl, rfl, rfl, rfl, rfl, rfl, rfl, rfl, rfl⟩
  case _ => exact ⟨rfl, rfl, rfl, rfl, rfl, rfl, rfl, rfl, rfl, rfl⟩
  case _ => exact ⟨rfl, rfl, rfl, rfl, rfl, rfl, rfl, rfl, rfl, rfl⟩
  case _ => exact ⟨rfl, rfl, rfl, rfl, rfl, rfl, rfl, rfl, rfl, rfl⟩
theorem bad_good : ∀ k, k < 16 → goodM (badM k) = false := by
  refine sixteen ?_ ?_ ?_ ?_ ?_ ?_ ?_ ?_ ?_ ?_ ?_ ?_ ?_ ?_ ?_ ?_
  case _ => decide +kernel
  case _ => decide +kernel
  case _ => decide +kernel
  case _ => decide +kernel
  case _ => decide +kernel
  case _ => decide +kernel
  case _ => decide +kernel
  case _ => decide +kernel
  case _ => decide +kernel
  case _ => decide +kernel
  case _ => decide +kernel
  case _ =>
    refine decide_eq_false fun h => ?_
    have h1 : (List.replicate 20001 (0 : Nat)).length ≤ 20000 := h.2.2.2
    rw [len20001] at h1
    omega
  case _ => decide +kernel
  case _ => decide +kernel
  case _ => decide +kernel
  case _ => decide +kernel
theorem bad_ok : ∀ k, k < 16 → MsgOk (badM k) := by
  refine sixteen ?_ ?_ ?_ ?_ ?_ ?_ ?_ ?_ ?_ ?_ ?_ ?_ ?_ ?_ ?_ ?_
  all_goals exact ⟨by decide, by decide, by decide, by decide⟩

structure BadAll (W : World) (N B : Nat) (a : Nat → Option Addr) (s5 s11 : Option Addr) (w : World) : Prop where
  rows : RowsV W N B (badV a s5 s11) a w
  t5 : SlF B s5 257 (List.replicate 257 0) w
  t11 : SlF B s11 20001 (List.replicate 20001 0) w
theorem BadAll.below {W w w' : World} {N B : Nat} {a : Nat → Option Addr} {s5 s11 : Option Addr} (h : BadAll W N B a s5 s11 w) (hb : Below w.heap.size w w') : BadAll W N B a s5 s11 w' := ⟨h.rows.below hb, h.t5.below hb, h.t11.below hb⟩
/-- One of the sixteen, as it lies. -/
structure BadAt (k : Nat) (B : Nat) (x : Msg) (ba : Option Addr) (bc : Nat) (sa : Option Addr) (sc : Nat) (w : World) : Prop where
  c0 : w.cell? ⟨B, k * 10, none⟩ = some (.int .i64 x.frm)
  c1 : w.cell? ⟨B, k * 10 + 1, none⟩ = some (.int .u64 (x.num : Nat))
  c2 : w.cell? ⟨B, k * 10 + 2, none⟩ = some (.int .u64 (x.to : Nat))
  c3 : w.cell? ⟨B, k * 10 + 3, none⟩ = some (.int .i64 x.kind)
  c4 : w.cell? ⟨B, k * 10 + 4, none⟩ = some (.int .i64 x.vr)
  c5 : w.cell? ⟨B, k * 10 + 5, none⟩ = some (.float .f64 x.val)
  c6 : w.cell? ⟨B, k * 10 + 6, none⟩ = some (.int .i64 x.wri)
  c7 : w.cell? ⟨B, k * 10 + 7, none⟩ = some (.int .u64 (x.tag : Nat))
  c8 : w.cell? ⟨B, k * 10 + 8, none⟩ = some (.slice ba x.bod.length bc)
  c9 : w.cell? ⟨B, k * 10 + 9, none⟩ = some (.slice sa x.stp.length sc)
  sl : MsgS w x ba bc sa sc
theorem BadAll.at {W w : World} {N B : Nat} {a : Nat → Option Addr} {s5 s11 : Option Addr} (h : BadAll W N B a s5 s11 w) (k : Nat) (hk : k < 16) : BadAt k B (badM k) (badA a s5 k) (badCap k) (badS s11 k) (badSc k) w := by
  obtain ⟨e0, e1, e2, e3, e4, e5, e6, e7, e8, e9⟩ := bad_cells a s5 s11 k hk
  refine ⟨?_, ?_, ?_, ?_, ?_, ?_, ?_, ?_, ?_, ?_, ?_⟩
  · rw [← e0]; exact h.rows.row.c _ (by omega)
  · rw [← e1]; exact h.rows.row.c _ (by omega)
  · rw [← e2]; exact h.rows.row.c _ (by omega)
  · rw [← e3]; exact h.rows.row.c _ (by omega)
  · rw [← e4]; exact h.rows.row.c _ (by omega)
  · rw [← e5]; exact h.rows.row.c _ (by omega)
  · rw [← e6]; exact h.rows.row.c _ (by omega)
  · rw [← e7]; exact h.rows.row.c _ (by omega)
  · rw [← e8]; exact h.rows.row.c _ (by omega)
  · rw [← e9]; exact h.rows.row.c _ (by omega)
  · clear e0 e1 e2 e3 e4 e5 e6 e7 e8 e9
    have s := h.rows.sl
    have n : SlAt bV 256 w none 0 [] := SlAt.none _ _ _
    revert k
    refine sixteen ?_ ?_ ?_ ?_ ?_ ?_ ?_ ?_ ?_ ?_ ?_ ?_ ?_ ?_ ?_ ?_
    · exact ⟨(s 0 (by decide)).sl, n⟩
    · exact ⟨(s 1 (by decide)).sl, n⟩
    · exact ⟨(s 2 (by decide)).sl, n⟩
    · exact ⟨(s 3 (by decide)).sl, n⟩
    · exact ⟨(s 4 (by decide)).sl, n⟩
    · exact ⟨h.t5.sl, n⟩
    · exact ⟨(s 6 (by decide)).sl, n⟩
    · exact ⟨(s 7 (by decide)).sl, n⟩
    · exact ⟨(s 8 (by decide)).sl, n⟩
    · exact ⟨(s 9 (by decide)).sl, n⟩
    · exact ⟨(s 10 (by decide)).sl, n⟩
    · exact ⟨(s 11 (by decide)).sl, h.t11.sl⟩
    · exact ⟨n, n⟩
    · exact ⟨n, n⟩
    · exact ⟨n, n⟩
    · exact ⟨(s 15 (by decide)).sl, n⟩

theorem make_b (w : World) (n : Nat) {z : Int} (hz : (n : Int) = z) (hn : n ≤ 100000) : ∃ w' H, (Instr.makeSlice 27 (.int .i64 z) (.int .i64 z)).run Try.prog w = .ok (.slice (some ⟨H, 0, none⟩) n n) w' ∧ Below w.heap.size w w' ∧ SlAt bV 256 w' (some ⟨H, 0, none⟩) n (List.replicate n 0) ∧ w.heap.size = H := by
  subst hz
  obtain ⟨i0, hi0, hz0, hz1, hz2⟩ := info_parts Try.infoB
  obtain ⟨w', hr, hown, hgr⟩ := run_make_full (P := Try.prog) w w.heap.size 27 5 i0 (.int .u8 0) 1 Try.underlying27 hi0 hz0 hz1 .i64 .i64 n (by rw [hz2]; omega) (by unfold maxLen; omega) (Nat.le_refl _)
  have e : (madeCells (Value.int .u8 0).cells (n * 1)).toList = (List.replicate n 0).map bV := by
    rw [show (Value.int .u8 0).cells = #[.int .u8 0] from rfl, toList_madeCells_one]
    simp [bV]
  rw [e] at hown
  obtain ⟨_, a, cap, hv, hs⟩ := own_sl (M := 256) hown (fun x hx => by have := List.eq_of_mem_replicate hx; omega)
  rw [List.length_replicate] at hv
  cases hv
  exact ⟨w', _, hr, (Below.refl _ _).grown hgr (Nat.le_refl _) (fun k h => by cases h), hs, rfl⟩

end Go.Proofs.Ytjdnaonhfacpoaa
