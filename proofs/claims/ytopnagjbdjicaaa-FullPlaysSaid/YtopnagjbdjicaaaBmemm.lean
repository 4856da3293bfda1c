import Derived.Test.YtopnagjbdjicaaaMaa
import Derived.Test.YtopnagjbdjicaaaMac
import Derived.Test.YtopnagjbdjicaaaBvecm
import Derived.Laws.CopyOwn
import Derived.Deep.OwnRows

/-
  A row of counts in a block of its own; make, copy.
-/
namespace Go.Proofs.Ytopnagjbdjicaaa
open Go.RowKit

abbrev QM : Nat := 18446744073709551616
/-- What a call that makes memory of its own leaves of what was there. -/
theorem drewN_b {N : Nat} {w w' : World} (h : Below N w w') (q : Nat) : Below N w (w'.drewN q) := ⟨h.os, h.tape, h.output, h.size, h.block⟩
theorem SlAt.drewN {f : Nat → Value} {M : Nat} {w : World} {a : Option Addr} {cap : Nat} {xs : List Nat} (h : SlAt f M w a cap xs) (q : Nat) : SlAt f M (w.drewN q) a cap xs :=
  h.below ⟨rfl, rfl, rfl, Nat.le_refl _, fun _ _ => rfl⟩
/-- A cell of a slice. -/
theorem SlAt.at {f : Nat → Value} {M : Nat} {w : World} {a : Option Addr} {cap : Nat} {xs : List Nat} (h : SlAt f M w a cap xs) {i : Nat} (hi : i < xs.length) : ∃ b off, a = some ⟨b, off, Option.none⟩ ∧ b < w.heap.size ∧ w.cell? ⟨b, off + i, Option.none⟩ = some (f (atN xs i)) := by
  rw [atN_of hi]
  exact h.cell i hi

/-- A block that is just a row of counts. -/
def RowQ (w : World) (g : Nat) (xs : List Nat) : Prop := w.heap[g]? = some (.cells (xs.map qV).toArray 29 (0, 0))
theorem RowQ.lt {w : World} {g : Nat} {xs : List Nat} (h : RowQ w g xs) : g < w.heap.size := (Array.getElem?_eq_some_iff.1 h).1
theorem RowQ.at {w : World} {g : Nat} {xs : List Nat} (h : RowQ w g xs) {i : Nat} (hi : i < xs.length) : w.cell? ⟨g, i, none⟩ = some (qV (atN xs i)) := by
  unfold RowQ at h
  rw [atN_of hi]
  simp [World.cell?, h, hi]
theorem RowQ.fz {w : World} {g : Nat} {xs : List Nat} (h : RowQ w g xs) (i : Nat) : w.frozen? ⟨g, i, none⟩ = false := by
  unfold RowQ at h
  simp [World.frozen?, h]
theorem RowQ.set {w : World} {g : Nat} {xs : List Nat} (h : RowQ w g xs) (i v : Nat) : RowQ (w.setCell ⟨g, i, none⟩ (qV v)) g (xs.set i v) := by
  unfold RowQ at h ⊢
  simp [World.setCell, Array.getElem?_modify, h, List.map_set]
theorem RowQ.of {w w' : World} {g : Nat} {xs : List Nat} (h : RowQ w g xs) (e : w'.heap[g]? = w.heap[g]?) : RowQ w' g xs := e.trans h
theorem RowQ.below {w w' : World} {g N : Nat} {xs : List Nat} (h : RowQ w g xs) (hb : Below N w w') (hN : g < N) : RowQ w' g xs := h.of (hb.block g hN)
theorem RowQ.sl {w : World} {g M : Nat} {xs : List Nat} (h : RowQ w g xs) (hM : ∀ x ∈ xs, x < M) (hm : xs.length ≤ maxLen) : SlAt qV M w (some ⟨g, 0, none⟩) xs.length xs :=
  ⟨hM, Nat.le_refl _, hm, fun e => (by cases e), fun i hi => ⟨g, 0, rfl, h.lt, by rw [Nat.zero_add, ← atN_of hi]; exact h.at hi⟩⟩
theorem RowQ.own {w : World} {g base : Nat} {xs : List Nat} (h : RowQ w g xs) (hb : base ≤ g) (hm : xs.length ≤ maxLen) : w.ownsRow base 29 1 (.slice (some ⟨g, 0, none⟩) xs.length xs.length) xs.length (xs.map qV) :=
  ⟨by simp, Or.inr ⟨g, xs.length, (xs.map qV).toArray, rfl, hb, h, Nat.le_refl _, hm, by simp, by rw [Nat.mul_one, List.take_of_length_le (by simp)]⟩⟩
theorem RowQ.conv {w : World} {g : Nat} {xs ys : List Nat} (h : RowQ w g xs) (e : xs = ys) : RowQ w g ys := e ▸ h

theorem madeQ (n : Nat) : madeCells #[Value.int .u64 0] n = ((List.replicate n 0).map qV).toArray := by
  refine Array.ext (by simp [size_madeCells]) fun i h1 h2 => ?_
  simp [madeCells, qV, Nat.mod_one]
/-- make. -/
theorem RowQ.made (w : World) (n : Nat) : RowQ (w.alloc (.cells (madeCells #[.int .u64 0] n) 29)) w.heap.size (List.replicate n 0) := by
  unfold RowQ
  rw [madeQ]
  exact heap_alloc_new _ _
theorem make_vec {z : Int} (n : Nat) (hz : (n : Int) = z) (hn : n ≤ 1000000) (w : World) : (Instr.makeSlice 42 (.int .i64 z) (.int .i64 z)).run Try.prog w = .ok (.slice (some ⟨w.heap.size, 0, none⟩) n n) (w.alloc (.cells (madeCells #[.int .u64 0] n) 29)) := by
  subst hz
  exact run_make_row' (P := Try.prog) 42 29 (.int .u64 0) 8 Try.underlying42 Try.infoQ rfl .i64 .i64 n (by omega) (by omega) w
theorem wrapQ {z : Int} (h : 0 ≤ z ∧ z ≤ 18446744073709551615) : IntKind.u64.wrap z = z := by
  simp only [IntKind.wrap, IntKind.bits, IntKind.signed]
  simp
  omega

/-- A slice of counts that is written out in the text. -/
theorem ql_lit (w : World) (xs : List Nat) (cs : Array Value) (t : TypeId) (n : Nat) (hcs : cs = (xs.map qV).toArray) (hn : xs.length = n) (hx : ∀ x ∈ xs, x < 18446744073709551616) (hm : n ≤ maxLen) : SlAt qV 18446744073709551616 (w.alloc (.cells cs t)) (some ⟨w.heap.size, 0, none⟩) n xs := by
  subst hcs hn
  refine ⟨hx, Nat.le_refl _, hm, (fun e => by cases e), fun i hi => ⟨w.heap.size, 0, rfl, by simp, ?_⟩⟩
  rw [Nat.zero_add]
  have h := World.news_of_block (cs := (xs.map qV).toArray) (fr := (0, 0)) (heap_alloc_new w (.cells (xs.map qV).toArray t)) i (qV xs[i]) (by simp [List.getElem?_eq_getElem hi])
  rw [Addr.add_lit, Nat.zero_add] at h
  exact h

end Go.Proofs.Ytopnagjbdjicaaa
