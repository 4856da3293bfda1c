/-
  A square of one's own: rows apart from each other.
-/
import Derived.Test.YtfiamomadicbpaaCmat
import Derived.Test.YtfiamomadicbpaaBmak
namespace Go.Proofs.Ytfiamomadicbpaa
open Go.RowKit

def bkR (r : Rd) : Option Nat := (rdV r).ownBlock
def Unlike (x y : Option Nat) : Prop := ∀ g, x = some g → y ≠ some g
theorem Unlike.symm {x y : Option Nat} (h : Unlike x y) : Unlike y x := fun g hy hx => h g hx hy

/-- A slice s of rows L (T: the rows' type), all of it the call's own. -/
structure OwnSq (T : TypeId) (B : Nat) (w : World) (s : Value) (L : List Rd) : Prop where
  out : w.ownsRow B T 1 s L.length (L.map rdV)
  row : ∀ r ∈ L, w.ownsRow B 30 1 (rdV r) r.l.length (r.l.map qV)
  lt : ∀ r ∈ L, ∀ x ∈ r.l, x < QM
  ap : (L.map bkR).Pairwise Unlike
  aw : ∀ r ∈ L, Unlike (bkR r) s.ownBlock

section
variable {T : TypeId} {B : Nat} {w w' : World} {s : Value} {L : List Rd}

theorem OwnSq.nil (w : World) : OwnSq T B w (.slice none 0 0) [] := ⟨World.ownsRow_nil _ _ _ _, by simp, by simp, by simp, by simp⟩
/-- All that it lies in is as it was. -/
theorem OwnSq.carry (h : OwnSq T B w s L) (h1 : ∀ k, s.ownBlock = some k → w'.heap[k]? = w.heap[k]?) (h2 : ∀ r ∈ L, ∀ k, bkR r = some k → w'.heap[k]? = w.heap[k]?) : OwnSq T B w' s L :=
  ⟨own_carry h.out h1, fun r hr => own_carry (h.row r hr) (h2 r hr), h.lt, h.ap, h.aw⟩
theorem OwnSq.below (h : OwnSq T B w s L) (hb : Below w.heap.size w w') : OwnSq T B w' s L :=
  h.carry (fun k e => hb.block k (h.out.lt k e).2) (fun r hr k e => hb.block k ((h.row r hr).lt k e).2)
theorem OwnSq.sq (h : OwnSq T B w s L) : ∃ a cap, s = .slice a L.length cap ∧ SqV w a cap L ∧ ∀ ad, a = some ad → B ≤ ad.block := by
  obtain ⟨-, a, cap, e, hS⟩ := own_slv h.out
  rw [List.length_map] at e
  refine ⟨a, cap, e, ⟨hS, fun r hr => ?_⟩, fun ad ea => ?_⟩
  · obtain ⟨-, a2, c2, e2, h2⟩ := own_sl (h.row r hr) (h.lt r hr)
    unfold rdV at e2
    simp only [Value.slice.injEq] at e2
    obtain ⟨e3, -, e4⟩ := e2
    rw [e3, e4]
    exact h2
  · subst ea
    exact (h.out.lt ad.block (by rw [e]; rfl)).1
theorem OwnSq.mono (h : OwnSq T B w s L) {B' : Nat} (hB : B' ≤ B) : OwnSq T B' w s L := ⟨own_mono h.out hB, fun r hr => own_mono (h.row r hr) hB, h.lt, h.ap, h.aw⟩

/-- A row's cell. -/
theorem OwnSq.look (h : OwnSq T B w s L) {i : Nat} (hi : i < L.length) : ∃ g cap, s = .slice (some ⟨g, 0, none⟩) L.length cap ∧ B ≤ g ∧ w.cell? ⟨g, i, none⟩ = some (.slice L[i].a L[i].l.length L[i].c) := by
  obtain ⟨g, cap, e, hg1, hg2⟩ := h.out.form (by omega)
  have ho := h.out
  rw [e] at ho
  have hc := ho.cellAt i (by omega)
  rw [List.getElem?_map, List.getElem?_eq_getElem hi] at hc
  exact ⟨g, cap, e, hg1, hc⟩

/-- One more row, made meanwhile. -/
theorem OwnSq.push {w1 w2 w3 : World} {s' : Value} {a : Option Addr} {c : Nat} {xs : List Nat} (h : OwnSq T B w s L) (h1 : Below w.heap.size w w1) (hr : w1.ownsRow w.heap.size 30 1 (.slice a xs.length c) xs.length (xs.map qV)) (hB : B ≤ w.heap.size) (hx : ∀ x ∈ xs, x < QM)
    (h2 : Below w1.heap.size w1 w2) (hown : w3.ownsRow B T 1 s' (L.length + 1) (L.map rdV ++ [.slice a xs.length c])) (hgr : w2.grownBy w3 s.ownBlock) (hat : ∀ j, s'.ownBlock = some j → s.ownBlock = some j ∨ w2.heap.size ≤ j) :
    OwnSq T B w3 s' (L ++ [⟨a, c, xs⟩]) := by
  have sz1 := h1.size
  have sz2 := h2.size
  have b3 : ∀ k, k < w2.heap.size → s.ownBlock ≠ some k → w3.heap[k]? = w2.heap[k]? := fun k hk hn => hgr.block k hk (fun e => hn e.symm)
  have new : ∀ k, (Value.slice a xs.length c).ownBlock = some k → w.heap.size ≤ k ∧ k < w1.heap.size := fun k e => hr.lt k e
  have old : ∀ r ∈ L, ∀ k, bkR r = some k → k < w.heap.size := fun r hr k e => ((h.row r hr).lt k e).2
  have sold : ∀ k, s.ownBlock = some k → k < w.heap.size := fun k e => (h.out.lt k e).2
  have snew : ∀ k, k < w2.heap.size → s.ownBlock ≠ some k → s'.ownBlock ≠ some k := fun k hk hn e => (hat k e).elim hn (fun h => by omega)
  refine ⟨?_, ?_, ?_, ?_, ?_⟩
  · rw [List.length_append, List.map_append]
    exact hown
  · intro r hr'
    rcases List.mem_append.1 hr' with hr' | hr'
    · refine own_carry (h.row r hr') fun k e => ?_
      have hk := old r hr' k e
      rw [b3 k (by omega) (h.aw r hr' k e), h2.block k (by omega), h1.block k hk]
    · rw [List.mem_singleton.1 hr']
      refine own_mono (own_carry hr fun k e => ?_) hB
      have hk := new k e
      rw [b3 k (by omega) (fun e2 => by have := sold k e2; omega), h2.block k hk.2]
  · intro r hr'
    rcases List.mem_append.1 hr' with hr' | hr'
    · exact h.lt r hr'
    · rw [List.mem_singleton.1 hr']; exact hx
  · rw [List.map_append, List.pairwise_append]
    refine ⟨h.ap, by simp, fun x hx' y hy => ?_⟩
    obtain ⟨r, hr', rfl⟩ := List.mem_map.1 hx'
    obtain ⟨q, hq, rfl⟩ := List.mem_map.1 hy
    rw [List.mem_singleton.1 hq]
    intro g e e2
    have := old r hr' g e
    have := new g e2
    omega
  · intro r hr'
    rcases List.mem_append.1 hr' with hr' | hr'
    · intro g e
      have := old r hr' g e
      exact snew g (by omega) (h.aw r hr' g e)
    · rw [List.mem_singleton.1 hr']
      intro g e
      have := new g e
      exact snew g (by omega) (fun e2 => by have := sold g e2; omega)

/-- A place of a row is written. -/
theorem OwnSq.put (h : OwnSq T B w s L) {i j v : Nat} (hi : i < L.length) (hj : j < L[i].l.length) (hv : v < QM) :
    ∃ g, L[i].a = some ⟨g, 0, none⟩ ∧ B ≤ g ∧ w.cell? ⟨g, j, none⟩ = some (.int .u64 ((atN L[i].l j : Nat) : Int)) ∧ w.frozen? ⟨g, j, none⟩ = false ∧
      OwnSq T B (w.setCell ⟨g, j, none⟩ (.int .u64 (v : Int))) s (L.set i ⟨L[i].a, L[i].c, L[i].l.set j v⟩) := by
  have hm : L[i] ∈ L := List.getElem_mem _
  have hr := h.row _ hm
  obtain ⟨g, cap, e, hg1, hg2⟩ := hr.form (by omega)
  have e' := e
  unfold rdV at e'
  simp only [Value.slice.injEq] at e'
  obtain ⟨e1, -, e2⟩ := e'
  rw [e] at hr
  have hc := hr.cellAt j (by omega)
  rw [List.getElem?_map, List.getElem?_eq_getElem hj, ← atN_of hj] at hc
  have hst := (hr.stored j (.int .u64 (v : Int))).1
  have bk : bkR L[i] = some g := by unfold bkR; rw [e]; rfl
  refine ⟨g, e1, hg1, hc, hr.frozenAt j, ?_⟩
  have oth : ∀ k, k ≠ g → (w.setCell ⟨g, j, none⟩ (.int .u64 (v : Int))).heap[k]? = w.heap[k]? := fun k hk => Below.heap_setCell _ _ _ _ hk
  have mp : (L.set i ⟨L[i].a, L[i].c, L[i].l.set j v⟩).map rdV = L.map rdV := by
    rw [List.map_set]
    refine List.ext_getElem (by simp) fun k h1 h2 => ?_
    rw [List.getElem_set]
    split
    · subst_vars; simp [rdV]
    · rfl
  have mb : (L.set i ⟨L[i].a, L[i].c, L[i].l.set j v⟩).map bkR = L.map bkR := by
    rw [show (L.set i ⟨L[i].a, L[i].c, L[i].l.set j v⟩).map bkR = ((L.set i ⟨L[i].a, L[i].c, L[i].l.set j v⟩).map rdV).map Value.ownBlock by rw [List.map_map]; rfl, mp, List.map_map]
    rfl
  have other : ∀ k (hk : k < L.length), k ≠ i → Unlike (bkR L[k]) (some g) := fun k hk hne => by
    have hp := List.pairwise_iff_getElem.1 h.ap
    rcases Nat.lt_or_gt_of_ne hne with h0 | h0
    · have := hp k i (by simpa using hk) (by simpa using hi) h0
      rw [List.getElem_map, List.getElem_map, bk] at this
      exact this
    · have := hp i k (by simpa using hi) (by simpa using hk) h0
      rw [List.getElem_map, List.getElem_map, bk] at this
      exact this.symm
  have mem : ∀ r ∈ L.set i ⟨L[i].a, L[i].c, L[i].l.set j v⟩, r = ⟨L[i].a, L[i].c, L[i].l.set j v⟩ ∨ ∃ k, ∃ hk : k < L.length, k ≠ i ∧ r = L[k] := fun r hr => by
    obtain ⟨k, hk, rfl⟩ := List.getElem_of_mem hr
    rw [List.getElem_set]
    split
    · exact Or.inl rfl
    · rename_i hne
      exact Or.inr ⟨k, by simpa using hk, fun e => hne e.symm, rfl⟩
  refine ⟨?_, ?_, ?_, ?_, ?_⟩
  · rw [mp, List.length_set]
    exact own_carry h.out fun k ek => oth k (fun e => h.aw _ hm g bk (e ▸ ek))
  · intro r hr'
    rcases mem r hr' with rfl | ⟨k, hk, hne, rfl⟩
    · unfold rdV
      simp only [List.length_set]
      rw [List.map_set, e1, e2]
      exact hst
    · exact own_carry (h.row _ (List.getElem_mem _)) fun q eq => oth q (fun e => other k hk hne q eq (by rw [e]))
  · intro r hr'
    rcases mem r hr' with rfl | ⟨k, hk, hne, rfl⟩
    · intro x hx
      rcases List.mem_or_eq_of_mem_set hx with hx | rfl
      · exact h.lt _ hm x hx
      · exact hv
    · exact h.lt _ (List.getElem_mem _)
  · rw [mb]; exact h.ap
  · intro r hr'
    rcases mem r hr' with rfl | ⟨k, hk, hne, rfl⟩
    · exact fun q eq => h.aw _ hm q (by unfold bkR rdV at eq ⊢; simpa using eq)
    · exact h.aw _ (List.getElem_mem _)
/-- A row put in the place of another, made meanwhile. -/
theorem OwnSq.setrow {w1 : World} {a : Option Addr} {c i : Nat} {xs : List Nat} (h : OwnSq T B w s L) (hi : i < L.length) (h1 : Below w.heap.size w w1) (hr : w1.ownsRow w.heap.size 30 1 (.slice a xs.length c) xs.length (xs.map qV)) (hB : B ≤ w.heap.size) (hx : ∀ x ∈ xs, x < QM) :
    ∃ g cap, s = .slice (some ⟨g, 0, none⟩) L.length cap ∧ B ≤ g ∧ w1.cell? ⟨g, i, none⟩ = some (rdV L[i]) ∧ w1.frozen? ⟨g, i, none⟩ = false ∧
      OwnSq T B (w1.setCell ⟨g, i, none⟩ (.slice a xs.length c)) s (L.set i ⟨a, c, xs⟩) := by
  have ho := (h.below h1).out
  obtain ⟨g, cap, e, hg1, hg2⟩ := h.out.form (by omega)
  rw [e] at ho
  have hc := ho.cellAt i (by omega)
  rw [List.getElem?_map, List.getElem?_eq_getElem hi] at hc
  have hst := (ho.stored i (.slice a xs.length c)).1
  have oth : ∀ k, k ≠ g → (w1.setCell ⟨g, i, none⟩ (.slice a xs.length c)).heap[k]? = w1.heap[k]? := fun k hk => Below.heap_setCell _ _ _ _ hk
  have mem : ∀ r ∈ L.set i ⟨a, c, xs⟩, r = ⟨a, c, xs⟩ ∨ r ∈ L := fun r hr => (List.mem_or_eq_of_mem_set hr).elim Or.inr Or.inl
  have sb : s.ownBlock = some g := by rw [e]; rfl
  have new : ∀ k, (Value.slice a xs.length c).ownBlock = some k → w.heap.size ≤ k ∧ k < w1.heap.size := fun k e => hr.lt k e
  have old : ∀ r ∈ L, ∀ k, bkR r = some k → k < w.heap.size := fun r hr k e => ((h.row r hr).lt k e).2
  refine ⟨g, cap, e, hg1, hc, ho.frozenAt i, ?_, ?_, ?_, ?_, ?_⟩
  · rw [List.length_set, List.map_set, e]
    exact hst
  · intro r hr'
    rcases mem r hr' with rfl | hr'
    · exact own_mono (own_carry hr fun k e2 => oth k (fun e3 => by have := new k e2; omega)) hB
    · exact own_carry ((h.below h1).row r hr') fun k e2 => oth k (fun e3 => h.aw r hr' k e2 (by rw [sb, e3]))
  · intro r hr'
    rcases mem r hr' with rfl | hr'
    · exact hx
    · exact h.lt r hr'
  · rw [List.pairwise_iff_getElem]
    intro p q hp hq hpq
    rw [List.getElem_map, List.getElem_map, List.getElem_set, List.getElem_set]
    simp only [List.length_map, List.length_set] at hp hq
    have hpw := List.pairwise_iff_getElem.1 h.ap p q (by simpa using hp) (by simpa using hq) hpq
    rw [List.getElem_map, List.getElem_map] at hpw
    split
    · split
      · omega
      · intro k e1 e2
        have := new k e1
        have := old _ (List.getElem_mem hq) k e2
        omega
    · split
      · intro k e1 e2
        have := new k e2
        have := old _ (List.getElem_mem hp) k e1
        omega
      · exact hpw
  · intro r hr'
    rcases mem r hr' with rfl | hr'
    · intro k e1 e2
      have := new k e1
      rw [sb] at e2
      cases e2
      omega
    · exact h.aw r hr'
end

end Go.Proofs.Ytfiamomadicbpaa
