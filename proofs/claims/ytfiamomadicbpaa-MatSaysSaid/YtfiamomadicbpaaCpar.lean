/-
  A slice of rows of one's own, the first of which are one's own too: how a square is filled.
-/
import Derived.Test.YtfiamomadicbpaaCown
import Derived.Test.YtfiamomadicbpaaCmk
namespace Go.Proofs.Ytfiamomadicbpaa
open Go.RowKit

/-- K: the rows that are one's own; M: those to come. -/
structure ParSq (T : TypeId) (B : Nat) (w : World) (s : Value) (K M : List Rd) : Prop where
  out : w.ownsRow B T 1 s (K.length + M.length) ((K ++ M).map rdV)
  row : ∀ r ∈ K, w.ownsRow B 30 1 (rdV r) r.l.length (r.l.map qV)
  lt : ∀ r ∈ K, ∀ x ∈ r.l, x < QM
  ap : (K.map bkR).Pairwise Unlike
  aw : ∀ r ∈ K, Unlike (bkR r) s.ownBlock

section
variable {T : TypeId} {B : Nat} {w w' : World} {s : Value} {K M : List Rd}

theorem ParSq.start {n : Nat} (h : w.ownsRow B T 1 s n (M.map rdV)) (hn : M.length = n) : ParSq T B w s [] M :=
  ⟨by rw [List.length_nil, Nat.zero_add, hn]; exact h, by simp, by simp, by simp, by simp⟩
theorem ParSq.done (h : ParSq T B w s K []) : OwnSq T B w s K :=
  ⟨by have := h.out; rw [List.length_nil, Nat.add_zero, List.append_nil] at this; exact this, h.row, h.lt, h.ap, h.aw⟩
theorem ParSq.carry (h : ParSq T B w s K M) (h1 : ∀ k, s.ownBlock = some k → w'.heap[k]? = w.heap[k]?) (h2 : ∀ r ∈ K, ∀ k, bkR r = some k → w'.heap[k]? = w.heap[k]?) : ParSq T B w' s K M :=
  ⟨own_carry h.out h1, fun r hr => own_carry (h.row r hr) (h2 r hr), h.lt, h.ap, h.aw⟩
theorem ParSq.below (h : ParSq T B w s K M) (hb : Below w.heap.size w w') : ParSq T B w' s K M :=
  h.carry (fun k e => hb.block k (h.out.lt k e).2) (fun r hr k e => hb.block k ((h.row r hr).lt k e).2)
theorem ParSq.mono (h : ParSq T B w s K M) {B' : Nat} (hB : B' ≤ B) : ParSq T B' w s K M := ⟨own_mono h.out hB, fun r hr => own_mono (h.row r hr) hB, h.lt, h.ap, h.aw⟩
theorem ParSq.form (h : ParSq T B w s K M) : ∃ a cap, s = .slice a (K.length + M.length) cap := own_form h.out
/-- A cell of those to come. -/
theorem ParSq.look {x : Rd} (h : ParSq T B w s K (x :: M)) : ∃ g cap, s = .slice (some ⟨g, 0, none⟩) (K.length + (M.length + 1)) cap ∧ B ≤ g ∧ g < w.heap.size ∧ w.cell? ⟨g, K.length, none⟩ = some (.slice x.a x.l.length x.c) := by
  have ho := h.out
  rw [List.length_cons] at ho
  obtain ⟨g, cap, e, hg1, hg2⟩ := ho.form (by omega)
  rw [e] at ho
  have hc := ho.cellAt K.length (by omega)
  rw [List.getElem?_map, List.getElem?_append_right (Nat.le_refl _), Nat.sub_self, List.getElem?_cons_zero] at hc
  exact ⟨g, cap, e, hg1, (ho.lt g rfl).2, hc⟩
/-- The next row, made meanwhile. -/
theorem ParSq.next {x : Rd} {w1 : World} {a : Option Addr} {c : Nat} {xs : List Nat} (h : ParSq T B w s K (x :: M)) (h1 : Below w.heap.size w w1) (hr : w1.ownsRow w.heap.size 30 1 (.slice a xs.length c) xs.length (xs.map qV)) (hB : B ≤ w.heap.size) (hx : ∀ x ∈ xs, x < QM) :
    ∃ g cap, s = .slice (some ⟨g, 0, none⟩) (K.length + (M.length + 1)) cap ∧ B ≤ g ∧ g < w.heap.size ∧ w1.cell? ⟨g, K.length, none⟩ = some (rdV x) ∧ w1.frozen? ⟨g, K.length, none⟩ = false ∧
      ParSq T B (w1.setCell ⟨g, K.length, none⟩ (.slice a xs.length c)) s (K ++ [⟨a, c, xs⟩]) M := by
  have ho := (h.below h1).out
  rw [List.length_cons] at ho
  have ho0 := h.out
  rw [List.length_cons] at ho0
  obtain ⟨g, cap, e, hg1, hg2⟩ := ho0.form (by omega)
  rw [e] at ho
  have hg3 := (h.out.lt g (by rw [e]; rfl)).2
  have hc := ho.cellAt K.length (by omega)
  rw [List.getElem?_map, List.getElem?_append_right (Nat.le_refl _), Nat.sub_self, List.getElem?_cons_zero] at hc
  have hst := (ho.stored K.length (.slice a xs.length c)).1
  have oth : ∀ k, k ≠ g → (w1.setCell ⟨g, K.length, none⟩ (.slice a xs.length c)).heap[k]? = w1.heap[k]? := fun k hk => Below.heap_setCell _ _ _ _ hk
  have sb : s.ownBlock = some g := by rw [e]; rfl
  have new : ∀ k, (Value.slice a xs.length c).ownBlock = some k → w.heap.size ≤ k ∧ k < w1.heap.size := fun k e => hr.lt k e
  have old : ∀ r ∈ K, ∀ k, bkR r = some k → k < w.heap.size := fun r hr k e => ((h.row r hr).lt k e).2
  have hset : ((K ++ x :: M).map rdV).set K.length (.slice a xs.length c) = (K ++ [(⟨a, c, xs⟩ : Rd)] ++ M).map rdV := by
    simp [rdV]
  rw [hset] at hst
  refine ⟨g, cap, e, hg1, hg3, hc, ho.frozenAt K.length, ?_, ?_, ?_, ?_, ?_⟩
  · rw [e]
    have : (K ++ [(⟨a, c, xs⟩ : Rd)]).length + M.length = K.length + (M.length + 1) := by simp; omega
    rw [this]
    exact hst
  · intro r hr'
    rcases List.mem_append.1 hr' with hr' | hr'
    · exact own_carry ((h.below h1).row r hr') fun k e2 => oth k (fun e3 => h.aw r hr' k e2 (by rw [sb, e3]))
    · rw [List.mem_singleton.1 hr']
      exact own_mono (own_carry hr fun k e2 => oth k (fun e3 => by have := new k e2; omega)) hB
  · intro r hr'
    rcases List.mem_append.1 hr' with hr' | hr'
    · exact h.lt r hr'
    · rw [List.mem_singleton.1 hr']; exact hx
  · rw [List.map_append, List.pairwise_append]
    refine ⟨h.ap, by simp, fun y hy z hz => ?_⟩
    obtain ⟨r, hr', rfl⟩ := List.mem_map.1 hy
    obtain ⟨q, hq, rfl⟩ := List.mem_map.1 hz
    rw [List.mem_singleton.1 hq]
    intro k e1 e2
    have := old r hr' k e1
    have := new k e2
    omega
  · intro r hr'
    rcases List.mem_append.1 hr' with hr' | hr'
    · exact h.aw r hr'
    · rw [List.mem_singleton.1 hr']
      intro k e1 e2
      have := new k e1
      rw [sb] at e2
      cases e2
      omega

/-- A block that none of it lies in. -/
def OffP (p : Nat) (s : Value) (K : List Rd) : Prop := s.ownBlock ≠ some p ∧ ∀ r ∈ K, bkR r ≠ some p
theorem ParSq.off (h : ParSq T B w s K M) {p : Nat} (hp : p < B ∨ w.heap.size ≤ p) : OffP p s K :=
  ⟨fun e => by have := h.out.lt p e; omega, fun r hr e => by have := (h.row r hr).lt p e; omega⟩
theorem OwnSq.off {L : List Rd} (h : OwnSq T B w s L) {p : Nat} (hp : p < B ∨ w.heap.size ≤ p) : OffP p s L :=
  ⟨fun e => by have := h.out.lt p e; omega, fun r hr e => by have := (h.row r hr).lt p e; omega⟩
theorem OffP.more {p : Nat} (h : OffP p s K) {w1 : World} {N : Nat} {a : Option Addr} {c : Nat} {xs : List Nat} (hr : w1.ownsRow N 30 1 (.slice a xs.length c) xs.length (xs.map qV)) (hp : p < N) : OffP p s (K ++ [⟨a, c, xs⟩]) :=
  ⟨h.1, fun r hr' => by
    rcases List.mem_append.1 hr' with hr' | hr'
    · exact h.2 r hr'
    · rw [List.mem_singleton.1 hr']
      intro e
      have := hr.lt p e
      omega⟩
theorem OwnSq.put_off {L : List Rd} (h : OwnSq T B w s L) {p : Nat} (ho : OffP p s L) (i : Nat) (v : Value) : OwnSq T B (w.setCell ⟨p, i, none⟩ v) s L :=
  h.carry (fun k e => Below.heap_setCell _ _ _ _ (fun e2 => ho.1 (by rw [e]; exact congrArg some e2))) (fun r hr k e => Below.heap_setCell _ _ _ _ (fun e2 => ho.2 r hr (by rw [e]; exact congrArg some e2)))
end
/-- Rows made by make. -/
theorem madeV (n : Nat) : madeCells #[Value.slice none 0 0] n = ((List.replicate n (⟨none, 0, []⟩ : Rd)).map rdV).toArray := by
  refine Array.ext (by simp [size_madeCells]) fun i h1 h2 => ?_
  simp [madeCells, rdV, Nat.mod_one]
theorem own_made (w : World) (n : Nat) (hn : n ≤ 1000000) : (w.alloc (.cells (madeCells #[.slice none 0 0] n) 39)).ownsRow w.heap.size 39 1 (.slice (some ⟨w.heap.size, 0, none⟩) n n) n ((List.replicate n (⟨none, 0, []⟩ : Rd)).map rdV) := by
  rw [madeV]
  exact ⟨by simp, Or.inr ⟨w.heap.size, n, ((List.replicate n (⟨none, 0, []⟩ : Rd)).map rdV).toArray, rfl, Nat.le_refl _, heap_alloc_new _ _, Nat.le_refl _, by unfold maxLen; omega, by simp, by rw [Nat.mul_one, List.take_of_length_le (by simp)]⟩⟩
theorem make_rows {z : Int} (n : Nat) (hz : (n : Int) = z) (hn : n ≤ 1000000) (w : World) : (Instr.makeSlice 23 (.int .i64 z) (.int .i64 z)).run Try.prog w = .ok (.slice (some ⟨w.heap.size, 0, none⟩) n n) (w.alloc (.cells (madeCells #[.slice none 0 0] n) 39)) := by
  subst hz
  exact run_make_row' (P := Try.prog) 23 39 (.slice none 0 0) 24 Try.underlying23 Try.infoV rfl .i64 .i64 n (by omega) (by omega) w

end Go.Proofs.Ytfiamomadicbpaa
