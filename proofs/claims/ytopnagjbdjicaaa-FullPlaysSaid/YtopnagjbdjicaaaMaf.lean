/-
  Texts of this claim, put together.
-/
import Derived.Test.YtopnagjbdjicaaaCmatm
import Derived.Test.YtopnagjbdjicaaaMae

/-
  A square of one's own: rows apart from each other.
-/
namespace Go.Proofs.Ytopnagjbdjicaaa
open Go.RowKit

def bkR (r : Rd) : Option Nat := (rdV r).ownBlock
def Unlike (x y : Option Nat) : Prop := ∀ g, x = some g → y ≠ some g
theorem Unlike.symm {x y : Option Nat} (h : Unlike x y) : Unlike y x := fun g hy hx => h g hx hy

/-- A slice s of rows L (T: the rows' type), all of it the call's own. -/
structure OwnSq (T : TypeId) (B : Nat) (w : World) (s : Value) (L : List Rd) : Prop where
  out : w.ownsRow B T 1 s L.length (L.map rdV)
  row : ∀ r ∈ L, w.ownsRow B 29 1 (rdV r) r.l.length (r.l.map qV)
  lt : ∀ r ∈ L, ∀ x ∈ r.l, x < QM
  ap : (L.map bkR).Pairwise Unlike
  aw : ∀ r ∈ L, Unlike (bkR r) s.ownBlock

section
variable {T : TypeId} {B : Nat} {w w' : World} {s : Value} {L : List Rd}

theorem OwnSq.nil (w : World) : OwnSq T B w (.slice none 0 0) [] := ⟨World.ownsRow_nil _ _ _ _, by simp, by simp, by simp, by simp⟩
/-- All that it lies in is as it was. -/
theorem OwnSq.carry (h : OwnSq T B w s L) (h1 : ∀ k, s.ownBlock = some k → w'.heap[k]? = w.heap[k]?) (h2 : ∀ r ∈ L, ∀ k, bkR r = some k → w'.heap[k]? = w.heap[k]?) : OwnSq T B w' s L :=
  ⟨own_carry h.out h1, fun r hr => own_carry (h.row r hr) (h2 r hr), h.lt, h.ap, h.aw⟩
theorem OwnSq.below (h : OwnSq T B w s L) (hb : Below w.heap.size w w') : OwnSq T B w' s L :=
  h.carry (fun k e => hb.block k (h.out.lt k e).2) (fun r hr k e => hb.block k ((h.row r hr).lt k e).2)
theorem OwnSq.sq (h : OwnSq T B w s L) : ∃ a cap, s = .slice a L.length cap ∧ SqV w a cap L ∧ ∀ ad, a = some ad → B ≤ ad.block := by
  obtain ⟨-, a, cap, e, hS⟩ := own_slv h.out
  rw [List.length_map] at e
  refine ⟨a, cap, e, ⟨hS, fun r hr => ?_⟩, fun ad ea => ?_⟩
  · obtain ⟨-, a2, c2, e2, h2⟩ := own_sl (h.row r hr) (h.lt r hr)
    unfold rdV at e2
    simp only [Value.slice.injEq] at e2
    obtain ⟨e3, -, e4⟩ := e2
    rw [e3, e4]
    exact h2
  · subst ea
    exact (h.out.lt ad.block (by rw [e]; rfl)).1
theorem OwnSq.mono (h : OwnSq T B w s L) {B' : Nat} (hB : B' ≤ B) : OwnSq T B' w s L := ⟨own_mono h.out hB, fun r hr => own_mono (h.row r hr) hB, h.lt, h.ap, h.aw⟩

/-- A row's cell. -/
theorem OwnSq.look (h : OwnSq T B w s L) {i : Nat} (hi : i < L.length) : ∃ g cap, s = .slice (some ⟨g, 0, none⟩) L.length cap ∧ B ≤ g ∧ w.cell? ⟨g, i, none⟩ = some (.slice L[i].a L[i].l.length L[i].c) := by
  obtain ⟨g, cap, e, hg1, hg2⟩ := h.out.form (by omega)
  have ho := h.out
  rw [e] at ho
  have hc := ho.cellAt i (by omega)
  rw [List.getElem?_map, List.getElem?_eq_getElem hi] at hc
  exact ⟨g, cap, e, hg1, hc⟩

/-- One more row, made meanwhile. -/
theorem OwnSq.push {w1 w2 w3 : World} {s' : Value} {a : Option Addr} {c : Nat} {xs : List Nat} (h : OwnSq T B w s L) (h1 : Below w.heap.size w w1) (hr : w1.ownsRow w.heap.size 29 1 (.slice a xs.length c) xs.length (xs.map qV)) (hB : B ≤ w.heap.size) (hx : ∀ x ∈ xs, x < QM)
    (h2 : Below w1.heap.size w1 w2) (hown : w3.ownsRow B T 1 s' (L.length + 1) (L.map rdV ++ [.slice a xs.length c])) (hgr : w2.grownBy w3 s.ownBlock) (hat : ∀ j, s'.ownBlock = some j → s.ownBlock = some j ∨ w2.heap.size ≤ j) :
    OwnSq T B w3 s' (L ++ [⟨a, c, xs⟩]) := by
  have sz1 := h1.size
  have sz2 := h2.size
  have b3 : ∀ k, k < w2.heap.size → s.ownBlock ≠ some k → w3.heap[k]? = w2.heap[k]? := fun k hk hn => hgr.block k hk (fun e => hn e.symm)
  have new : ∀ k, (Value.slice a xs.length c).ownBlock = some k → w.heap.size ≤ k ∧ k < w1.heap.size := fun k e => hr.lt k e
  have old : ∀ r ∈ L, ∀ k, bkR r = some k → k < w.heap.size := fun r hr k e => ((h.row r hr).lt k e).2
  have sold : ∀ k, s.ownBlock = some k → k < w.heap.size := fun k e => (h.out.lt k e).2
  have snew : ∀ k, k < w2.heap.size → s.ownBlock ≠ some k → s'.ownBlock ≠ some k := fun k hk hn e => (hat k e).elim hn (fun h => by omega)
  refine ⟨?_, ?_, ?_, ?_, ?_⟩
  · rw [List.length_append, List.map_append]
    exact hown
  · intro r hr'
    rcases List.mem_append.1 hr' with hr' | hr'
    · refine own_carry (h.row r hr') fun k e => ?_
      have hk := old r hr' k e
      rw [b3 k (by omega) (h.aw r hr' k e), h2.block k (by omega), h1.block k hk]
    · rw [List.mem_singleton.1 hr']
      refine own_mono (own_carry hr fun k e => ?_) hB
      have hk := new k e
      rw [b3 k (by omega) (fun e2 => by have := sold k e2; omega), h2.block k hk.2]
  · intro r hr'
    rcases List.mem_append.1 hr' with hr' | hr'
    · exact h.lt r hr'
    · rw [List.mem_singleton.1 hr']; exact hx
  · rw [List.map_append, List.pairwise_append]
    refine ⟨h.ap, by simp, fun x hx' y hy => ?_⟩
    obtain ⟨r, hr', rfl⟩ := List.mem_map.1 hx'
    obtain ⟨q, hq, rfl⟩ := List.mem_map.1 hy
    rw [List.mem_singleton.1 hq]
    intro g e e2
    have := old r hr' g e
    have := new g e2
    omega
  · intro r hr'
    rcases List.mem_append.1 hr' with hr' | hr'
    · intro g e
      have := old r hr' g e
      exact snew g (by omega) (h.aw r hr' g e)
    · rw [List.mem_singleton.1 hr']
      intro g e
      have := new g e
      exact snew g (by omega) (fun e2 => by have := sold g e2; omega)

/-- A place of a row is written. -/
theorem OwnSq.put (h : OwnSq T B w s L) {i j v : Nat} (hi : i < L.length) (hj : j < L[i].l.length) (hv : v < QM) :
    ∃ g, L[i].a = some ⟨g, 0, none⟩ ∧ B ≤ g ∧ w.cell? ⟨g, j, none⟩ = some (.int .u64 ((atN L[i].l j : Nat) : Int)) ∧ w.frozen? ⟨g, j, none⟩ = false ∧
      OwnSq T B (w.setCell ⟨g, j, none⟩ (.int .u64 (v : Int))) s (L.set i ⟨L[i].a, L[i].c, L[i].l.set j v⟩) := by
  have hm : L[i] ∈ L := List.getElem_mem _
  have hr := h.row _ hm
  obtain ⟨g, cap, e, hg1, hg2⟩ := hr.form (by omega)
  have e' := e
  unfold rdV at e'
  simp only [Value.slice.injEq] at e'
  obtain ⟨e1, -, e2⟩ := e'
  rw [e] at hr
  have hc := hr.cellAt j (by omega)
  rw [List.getElem?_map, List.getElem?_eq_getElem hj, ← atN_of hj] at hc
  have hst := (hr.stored j (.int .u64 (v : Int))).1
  have bk : bkR L[i] = some g := by unfold bkR; rw [e]; rfl
  refine ⟨g, e1, hg1, hc, hr.frozenAt j, ?_⟩
  have oth : ∀ k, k ≠ g → (w.setCell ⟨g, j, none⟩ (.int .u64 (v : Int))).heap[k]? = w.heap[k]? := fun k hk => Below.heap_setCell _ _ _ _ hk
  have mp : (L.set i ⟨L[i].a, L[i].c, L[i].l.set j v⟩).map rdV = L.map rdV := by
    rw [List.map_set]
    refine List.ext_getElem (by simp) fun k h1 h2 => ?_
    rw [List.getElem_set]
    split
    · subst_vars; simp [rdV]
    · rfl
  have mb : (L.set i ⟨L[i].a, L[i].c, L[i].l.set j v⟩).map bkR = L.map bkR := by
    rw [show (L.set i ⟨L[i].a, L[i].c, L[i].l.set j v⟩).map bkR = ((L.set i ⟨L[i].a, L[i].c, L[i].l.set j v⟩).map rdV).map Value.ownBlock by rw [List.map_map]; rfl, mp, List.map_map]
    rfl
  have other : ∀ k (hk : k < L.length), k ≠ i → Unlike (bkR L[k]) (some g) := fun k hk hne => by
    have hp := List.pairwise_iff_getElem.1 h.ap
    rcases Nat.lt_or_gt_of_ne hne with h0 | h0
    · have := hp k i (by simpa using hk) (by simpa using hi) h0
      rw [List.getElem_map, List.getElem_map, bk] at this
      exact this
    · have := hp i k (by simpa using hi) (by simpa using hk) h0
      rw [List.getElem_map, List.getElem_map, bk] at this
      exact this.symm
  have mem : ∀ r ∈ L.set i ⟨L[i].a, L[i].c, L[i].l.set j v⟩, r = ⟨L[i].a, L[i].c, L[i].l.set j v⟩ ∨ ∃ k, ∃ hk : k < L.length, k ≠ i ∧ r = L[k] := fun r hr => by
    obtain ⟨k, hk, rfl⟩ := List.getElem_of_mem hr
    rw [List.getElem_set]
    split
    · exact Or.inl rfl
    · rename_i hne
      exact Or.inr ⟨k, by simpa using hk, fun e => hne e.symm, rfl⟩
  refine ⟨?_, ?_, ?_, ?_, ?_⟩
  · rw [mp, List.length_set]
    exact own_carry h.out fun k ek => oth k (fun e => h.aw _ hm g bk (e ▸ ek))
  · intro r hr'
    rcases mem r hr' with rfl | ⟨k, hk, hne, rfl⟩
    · unfold rdV
      simp only [List.length_set]
      rw [List.map_set, e1, e2]
      exact hst
    · exact own_carry (h.row _ (List.getElem_mem _)) fun q eq => oth q (fun e => other k hk hne q eq (by rw [e]))
  · intro r hr'
    rcases mem r hr' with rfl | ⟨k, hk, hne, rfl⟩
    · intro x hx
      rcases List.mem_or_eq_of_mem_set hx with hx | rfl
      · exact h.lt _ hm x hx
      · exact hv
    · exact h.lt _ (List.getElem_mem _)
  · rw [mb]; exact h.ap
  · intro r hr'
    rcases mem r hr' with rfl | ⟨k, hk, hne, rfl⟩
    · exact fun q eq => h.aw _ hm q (by unfold bkR rdV at eq ⊢; simpa using eq)
    · exact h.aw _ (List.getElem_mem _)
/-- A row put in the place of another, made meanwhile. -/
theorem OwnSq.setrow {w1 : World} {a : Option Addr} {c i : Nat} {xs : List Nat} (h : OwnSq T B w s L) (hi : i < L.length) (h1 : Below w.heap.size w w1) (hr : w1.ownsRow w.heap.size 29 1 (.slice a xs.length c) xs.length (xs.map qV)) (hB : B ≤ w.heap.size) (hx : ∀ x ∈ xs, x < QM) :
    ∃ g cap, s = .slice (some ⟨g, 0, none⟩) L.length cap ∧ B ≤ g ∧ w1.cell? ⟨g, i, none⟩ = some (rdV L[i]) ∧ w1.frozen? ⟨g, i, none⟩ = false ∧
      OwnSq T B (w1.setCell ⟨g, i, none⟩ (.slice a xs.length c)) s (L.set i ⟨a, c, xs⟩) := by
  have ho := (h.below h1).out
  obtain ⟨g, cap, e, hg1, hg2⟩ := h.out.form (by omega)
  rw [e] at ho
  have hc := ho.cellAt i (by omega)
  rw [List.getElem?_map, List.getElem?_eq_getElem hi] at hc
  have hst := (ho.stored i (.slice a xs.length c)).1
  have oth : ∀ k, k ≠ g → (w1.setCell ⟨g, i, none⟩ (.slice a xs.length c)).heap[k]? = w1.heap[k]? := fun k hk => Below.heap_setCell _ _ _ _ hk
  have mem : ∀ r ∈ L.set i ⟨a, c, xs⟩, r = ⟨a, c, xs⟩ ∨ r ∈ L := fun r hr => (List.mem_or_eq_of_mem_set hr).elim Or.inr Or.inl
  have sb : s.ownBlock = some g := by rw [e]; rfl
  have new : ∀ k, (Value.slice a xs.length c).ownBlock = some k → w.heap.size ≤ k ∧ k < w1.heap.size := fun k e => hr.lt k e
  have old : ∀ r ∈ L, ∀ k, bkR r = some k → k < w.heap.size := fun r hr k e => ((h.row r hr).lt k e).2
  refine ⟨g, cap, e, hg1, hc, ho.frozenAt i, ?_, ?_, ?_, ?_, ?_⟩
  · rw [List.length_set, List.map_set, e]
    exact hst
  · intro r hr'
    rcases mem r hr' with rfl | hr'
    · exact own_mono (own_carry hr fun k e2 => oth k (fun e3 => by have := new k e2; omega)) hB
    · exact own_carry ((h.below h1).row r hr') fun k e2 => oth k (fun e3 => h.aw r hr' k e2 (by rw [sb, e3]))
  · intro r hr'
    rcases mem r hr' with rfl | hr'
    · exact hx
    · exact h.lt r hr'
  · rw [List.pairwise_iff_getElem]
    intro p q hp hq hpq
    rw [List.getElem_map, List.getElem_map, List.getElem_set, List.getElem_set]
    simp only [List.length_map, List.length_set] at hp hq
    have hpw := List.pairwise_iff_getElem.1 h.ap p q (by simpa using hp) (by simpa using hq) hpq
    rw [List.getElem_map, List.getElem_map] at hpw
    split
    · split
      · omega
      · intro k e1 e2
        have := new k e1
        have := old _ (List.getElem_mem hq) k e2
        omega
    · split
      · intro k e1 e2
        have := new k e2
        have := old _ (List.getElem_mem hp) k e1
        omega
      · exact hpw
  · intro r hr'
    rcases mem r hr' with rfl | hr'
    · intro k e1 e2
      have := new k e1
      rw [sb] at e2
      cases e2
      omega
    · exact h.aw r hr'
end

end Go.Proofs.Ytopnagjbdjicaaa

/-
  Squares: too heavy; whether they may be; alike.
-/
namespace Go.Proofs.Ytopnagjbdjicaaa
open Go.RowKit

set_option maxRecDepth 20000 in
set_option maxHeartbeats 2000000 in
theorem heavy_any {W : World} {a : Option Addr} {cap n : Nat} {L : List Rd} (h : SqV W a cap L) (hn : L.length = n) {r : Bool} (hr : heavyM (mOf L) = r) :
    Calls Try.prog 26 #[.slice a n cap] W fun e w' => e = .returned (.bool r) ∧ W = w' := by
  have hfit := h.fit
  have hmax := h.out.max
  unfold maxLen at hmax
  have S := Lib.hid h
  have HR := Lib.hid hr
  clear h hr
  have HN := Lib.hid hn
  rw [hn] at hfit
  clear hn
  go_enter Try.func26, Try.ntmps26
  by_cases hb : 20 < n
  · have d1 : decide ((n : Int) > 20) = true := decide_eq_true (by omega)
    have d2 : decide (20 < n) = true := decide_eq_true hb
    have R := Lib.hid (show r = true from by rw [← HR.out]; exact heavyM_len (by rw [mOf_len, HN.out]; exact hb))
    clear hb
    go_wp2_with fail
    go_ret
    exact ⟨by rw [R.out]; rfl, rfl⟩
  · have d1 : decide ((n : Int) > 20) = false := decide_eq_false (by omega)
    have d2 : decide (20 < n) = false := decide_eq_false hb
    have h20 : n ≤ 20 := by omega
    clear hb
    go_wp2_with fail
    go_loop [3] (fun v => ∃ k : Nat, k ≤ n ∧ v = .int .i64 (k : Nat) ∧ Hid (∀ r ∈ L.take k, r.l.length ≤ 20)) (fun v => n - (intOf v).toNat)
    case atStart => exact ⟨0, Nat.zero_le _, rfl, Lib.hid (fun r hr => by simp at hr)⟩
    case round =>
      obtain ⟨k, hk, rfl, hT⟩ := hrel
      by_cases hlt : k < n
      · have kl : k < L.length := by rw [HN.out]; exact hlt
        obtain ⟨b, off, rfl, hb, hc⟩ := S.out.at kl
        have i0 : (0 : Int) ≤ (k : Int) := by omega
        have i1 : (k : Int) < (n : Int) := by omega
        have hgt := Lib.hid (fun (h : 20 < L[k].l.length) => show r = true from by rw [← HR.out]; exact heavyM_row (r := L[k].l) (List.mem_map.2 ⟨L[k], List.getElem_mem _, rfl⟩) h)
        have hle := Lib.hid (fun (h : L[k].l.length ≤ 20) => show ∀ r ∈ L.take (k + 1), r.l.length ≤ 20 from fun r hr => by
          rw [List.take_succ_eq_append_getElem kl] at hr
          rcases List.mem_append.1 hr with hr | hr
          · exact hT.out r hr
          · rw [List.mem_singleton.1 hr]; exact h)
        have hf := (S.out.row kl).fit
        have hm := (S.out.row kl).max
        unfold maxLen at hm
        generalize L[k].l.length = x at *
        generalize L[k].a = ra at *
        generalize L[k].c = rc at *
        by_cases hx : 20 < x
        · have d1 : decide ((x : Int) > 20) = true := decide_eq_true (by omega)
          have d2 : decide (20 < x) = true := decide_eq_true hx
          have R := Lib.hid (hgt.out hx)
          clear hx
          go_wp2_with fail
          go_ret
          exact ⟨by rw [R.out]; rfl, rfl⟩
        · have d1 : decide ((x : Int) > 20) = false := decide_eq_false (by omega)
          have d2 : decide (20 < x) = false := decide_eq_false hx
          have R := Lib.hid (hle.out (by omega))
          clear hx
          go_wp2_with fail
          go_round
          case rel => exact ⟨k + 1, by omega, by go_num, R⟩
          case measure => simp only [intOf]; omega
      · have R := Lib.hid (show r = false from by
          rw [← HR.out]
          refine heavyM_of (by rw [mOf_len, HN.out]; exact h20) (fun r hr => ?_)
          obtain ⟨x, hx, rfl⟩ := List.mem_map.1 hr
          refine hT.out x ?_
          rwa [List.take_of_length_le (by rw [HN.out]; omega)])
        go_wp2_with fail
        go_ret
        exact ⟨by rw [R.out]; rfl, rfl⟩

set_option maxRecDepth 20000 in
set_option maxHeartbeats 2000000 in
theorem rgood_any {W : World} {a : Option Addr} {cap n : Nat} {L : List Rd} {z : Int} (h : SqV W a cap L) (hn : L.length = n) {r : Bool} (hr : goodM z (mOf L) = r) :
    Calls Try.prog 30 #[.int .i64 z, .slice a n cap] W fun e w' => e = .returned (.bool r) ∧ W = w' := by
  have hfit := h.fit
  have hmax := h.out.max
  unfold maxLen at hmax
  have S := Lib.hid h
  have HR := Lib.hid hr
  clear h hr
  have HN := Lib.hid hn
  rw [hn] at hfit
  clear hn
  go_enter Try.func30, Try.ntmps30
  by_cases h1 : z < 1
  · have d1 : decide (z < 1) = true := decide_eq_true h1
    have R := Lib.hid (show r = false from by rw [← HR.out]; exact goodM_low h1)
    clear h1
    go_wp2_with fail
    go_ret
    exact ⟨by rw [R.out]; rfl, rfl⟩
  · have d1 : decide (z < 1) = false := decide_eq_false h1
    by_cases h2 : z > 16
    · have d2 : decide (z > 16) = true := decide_eq_true h2
      have R := Lib.hid (show r = false from by rw [← HR.out]; exact goodM_high h2)
      clear h1 h2
      go_wp2_with fail
      go_ret
      exact ⟨by rw [R.out]; rfl, rfl⟩
    · have d2 : decide (z > 16) = false := decide_eq_false h2
      by_cases h3 : (n : Int) = z
      · subst h3
        have d3 : ((n : Int) != (n : Int)) = false := by simp
        have h16 : n ≤ 16 := by omega
        have HP := Lib.hid (show 1 ≤ n by omega)
        clear h1 h2
        go_wp2_with fail
        go_loop [5] (fun v => ∃ k : Nat, k ≤ n ∧ v = .int .i64 (k : Nat) ∧ Hid (∀ r ∈ L.take k, r.l.length = n)) (fun v => n - (intOf v).toNat)
        case atStart => exact ⟨0, Nat.zero_le _, rfl, Lib.hid (fun r hr => by simp at hr)⟩
        case round =>
          obtain ⟨k, hk, rfl, hT⟩ := hrel
          by_cases hlt : k < n
          · have kl : k < L.length := by rw [HN.out]; exact hlt
            obtain ⟨b, off, rfl, hb, hc⟩ := S.out.at kl
            have i0 : (0 : Int) ≤ (k : Int) := by omega
            have i1 : (k : Int) < (n : Int) := by omega
            have hgt := Lib.hid (fun (h : L[k].l.length ≠ n) => show r = false from by rw [← HR.out]; exact goodM_row (r := L[k].l) (List.mem_map.2 ⟨L[k], List.getElem_mem _, rfl⟩) (by omega))
            have hle := Lib.hid (fun (h : L[k].l.length = n) => show ∀ r ∈ L.take (k + 1), r.l.length = n from fun r hr => by
              rw [List.take_succ_eq_append_getElem kl] at hr
              rcases List.mem_append.1 hr with hr | hr
              · exact hT.out r hr
              · rw [List.mem_singleton.1 hr]; exact h)
            have hf := (S.out.row kl).fit
            have hm := (S.out.row kl).max
            unfold maxLen at hm
            generalize L[k].l.length = x at *
            generalize L[k].a = ra at *
            generalize L[k].c = rc at *
            by_cases hx : x = n
            · have d1 : ((x : Int) != (n : Int)) = false := by simp; omega
              have R := Lib.hid (hle.out hx)
              clear hx
              go_wp2_with fail
              go_round
              case rel => exact ⟨k + 1, by omega, by go_num, R⟩
              case measure => simp only [intOf]; omega
            · have d1 : ((x : Int) != (n : Int)) = true := by simp; omega
              have R := Lib.hid (hgt.out hx)
              clear hx
              go_wp2_with fail
              go_ret
              exact ⟨by rw [R.out]; rfl, rfl⟩
          · have R := Lib.hid (show r = true from by
              rw [← HR.out]
              refine goodM_of HP.out h16 (by rw [mOf_len, HN.out]) (fun r hr => ?_)
              obtain ⟨x, hx, rfl⟩ := List.mem_map.1 hr
              refine hT.out x ?_
              rwa [List.take_of_length_le (by rw [HN.out]; omega)])
            go_wp2_with fail
            go_ret
            exact ⟨by rw [R.out]; rfl, rfl⟩
      · have d3 : ((n : Int) != z) = true := by simpa using h3
        have R := Lib.hid (show r = false from by rw [← HR.out]; exact goodM_len (by rw [mOf_len, HN.out]; exact h3))
        clear h1 h2 h3
        go_wp2_with fail
        go_ret
        exact ⟨by rw [R.out]; rfl, rfl⟩

theorem m_same {xs ys : List (List Nat)} {k : Nat} (h : xs.take k = ys.take k) (hx : k < xs.length) (hy : k < ys.length) (e : xs[k] = ys[k]) : xs.take (k + 1) = ys.take (k + 1) := by
  rw [List.take_succ_eq_append_getElem hx, List.take_succ_eq_append_getElem hy, h, e]

set_option maxRecDepth 20000 in
set_option maxHeartbeats 2000000 in
theorem squares_any {W : World} {a1 a2 : Option Addr} {c1 c2 n m : Nat} {L M : List Rd} (h1 : SqV W a1 c1 L) (h2 : SqV W a2 c2 M) (hn : L.length = n) (hm : M.length = m) {r : Bool} (hr : decide (mOf L = mOf M) = r) :
    Calls Try.prog 24 #[.slice a1 n c1, .slice a2 m c2] W fun e w' => e = .returned (.bool r) ∧ ∃ q, w' = W.drewN q := by
  have hfa := h1.fit
  have hma := h1.out.max
  have hfb := h2.fit
  have hmb := h2.out.max
  unfold maxLen at hma hmb
  have A := Lib.hid h1
  have B := Lib.hid h2
  have HN := Lib.hid hn
  have HM := Lib.hid hm
  have HR := Lib.hid hr
  rw [hn] at hfa
  rw [hm] at hfb
  clear h1 h2 hn hm hr
  go_enter Try.func24, Try.ntmps24
  by_cases hl : n = m
  · subst hl
    go_wp2_with fail
    go_loopw [5] (fun i wr => ∃ (k q : Nat), k ≤ n ∧ i = .int .i64 (k : Nat) ∧ wr = W.drewN q ∧ Hid ((mOf L).take k = (mOf M).take k)) (fun i _ => n - (intOf i).toNat)
    case atStart => exact ⟨0, 0, Nat.zero_le _, rfl, rfl, rfl⟩
    case round =>
      obtain ⟨k, q, hk, rfl, rfl, hc⟩ := hrel
      by_cases hlt : k < n
      · have kl : k < L.length := by rw [HN.out]; exact hlt
        have km : k < M.length := by rw [HM.out]; exact hlt
        obtain ⟨b, off, rfl, hb, k1⟩ := (A.out.drewN q).at kl
        obtain ⟨b2, off2, rfl, hb2, k2⟩ := (B.out.drewN q).at km
        have S1 := Lib.hid ((A.out.drewN q).row kl)
        have S2 := Lib.hid ((B.out.drewN q).row km)
        have H1 := Lib.hid (fun (h : L[k].l = M[k].l) => m_same hc.out (by rw [mOf_len]; exact kl) (by rw [mOf_len]; exact km) (by rw [mOf_at kl, mOf_at km]; exact h))
        have H2 := Lib.hid (fun (h : ¬ L[k].l = M[k].l) => show ¬ mOf L = mOf M from fun e => h (by
          have e1 := mOf_at kl
          have e2 := mOf_at km
          rw [← e1, ← e2]
          exact getElem_congr_coll e))
        have hQ := Lib.hid (fun n => (show ∃ q', (W.drewN q).drewN n = W.drewN q' from ⟨q + n, by rw [World.drewN_drewN]⟩))
        have ib : (k : Int) < (n : Int) := by omega
        have hf1 := S1.out.fit
        have hf2 := S2.out.fit
        generalize W.drewN q = ww at *
        generalize hx : L[k] = x at *
        generalize hy : M[k] = y at *
        clear hx hy hb hb2
        obtain ⟨xa, xc, xl⟩ := x
        obtain ⟨ya, yc, yl⟩ := y
        simp only at k1 k2
        have CQ := Lib.hid (fun n => longs_any (S1.out.drewN n) (S2.out.drewN n) rfl rfl rfl)
        clear S1 S2
        simp only at CQ H1 H2 hf1 hf2
        by_cases d : xl = yl
        · have R := Lib.hid (H1.out d)
          rw [decide_eq_true d] at CQ
          generalize xl.length = x1 at *
          generalize yl.length = y1 at *
          clear d H1 H2
          go_wp2_with fail
          go_quiet ((go_at_call 15; exact Calls.quiet_of (CQ.out _)))
          go_wp2_with fail
          go_roundw
          case rel => exact (hQ.out _).elim fun q' e => ⟨k + 1, q', by omega, by go_num, e, R⟩
          case measure => simp only [intOf]; omega
        · have R := Lib.hid (H2.out d)
          rw [decide_eq_false d] at CQ
          generalize xl.length = x1 at *
          generalize yl.length = y1 at *
          clear d H1 H2
          go_wp2_with fail
          go_quiet ((go_at_call 15; exact Calls.quiet_of (CQ.out _)))
          go_wp2_with fail
          go_ret
          exact ⟨by rw [← HR.out, decide_eq_false R.out]; rfl, hQ.out _⟩
      · have R := Lib.hid (show mOf L = mOf M by have h := hc.out; rwa [List.take_of_length_le (by rw [mOf_len, HN.out]; omega), List.take_of_length_le (by rw [mOf_len, HM.out]; omega)] at h)
        go_wp2_with fail
        go_ret
        exact ⟨by rw [← HR.out, decide_eq_true R.out]; rfl, _, rfl⟩
  · have R := Lib.hid (show ¬ mOf L = mOf M from fun e => hl (by rw [← HN.out, ← HM.out, ← mOf_len L, ← mOf_len M, e]))
    go_wp2_with fail
    go_ret
    exact ⟨by rw [← HR.out, decide_eq_false R.out]; rfl, 0, rfl⟩

end Go.Proofs.Ytopnagjbdjicaaa
