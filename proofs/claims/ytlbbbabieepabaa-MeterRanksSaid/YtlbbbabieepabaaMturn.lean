/-
  A meter's own cells, written one by one; what it has taken in.
-/
import Derived.Test.YtlbbbabieepabaaMkeep2
namespace Go.Proofs.Ytlbbbabieepabaa
open Go.RowKit

theorem Mem.turn {w w' : World} {N p : Nat} {F : Nat → Prop} {s s' : MS} {v : Value} {vs : List Value} {rs : List (List Nat)} (h : Mem w N p F s v vs rs) (hs : w.heap.size ≤ w'.heap.size) (hb : ∀ k, k < w.heap.size → k ≠ p → w'.heap[k]? = w.heap[k]?) (hc : CellsAt w' p s' v)
    (hl : s'.sum < 18446744073709551616 ∧ s'.least < 18446744073709551616 ∧ s'.most < 18446744073709551616 ∧ s'.smooth < 18446744073709551616) : Mem w' N p F s' v vs rs :=
  ⟨hc, own_carry h.own (fun k hk => hb k (h.low k (h.inO k hk)).2 (fun e => h.apart (by rw [hk, e]))), h.runs.carry hs (fun _ f => f) (fun k hk _ hp ho => ⟨hb k hk hp, ho⟩), h.inP, h.inO, fun k f => ⟨(h.low k f).1, Nat.lt_of_lt_of_le (h.low k f).2 hs⟩, h.apart, hl⟩

theorem put_size (w : World) (a : Addr) (u : Value) : w.heap.size ≤ (w.setCell a u).heap.size := by simp [World.setCell]
theorem cell_put {w : World} {p i : Nat} {u x : Value} (h : w.cell? ⟨p, i, none⟩ = some x) : (w.setCell ⟨p, i, none⟩ u).cell? ⟨p, i, none⟩ = some u := World.cell?_setCell_same (h := h) ..
theorem fz_put {w : World} {p i j : Nat} {u : Value} (h : w.frozen? ⟨p, j, none⟩ = false) : (w.setCell ⟨p, i, none⟩ u).frozen? ⟨p, j, none⟩ = false := (World.frozen?_setCell ..).trans h

section
variable {w : World} {N p : Nat} {F : Nat → Prop} {s : MS} {v : Value} {vs : List Value} {rs : List (List Nat)}
theorem Mem.put0 (h : Mem w N p F s v vs rs) (n : Nat) {z : Int} (hz : z = (n : Int)) : Mem (w.setCell ⟨p, 0, none⟩ (.int .i64 z)) N p F { s with all := n } v vs rs := by
  subst hz
  have c := h.cells
  exact h.turn (put_size ..) (fun k _ hk => Below.heap_setCell _ _ _ _ hk) ⟨cell_put c.c0, (cell_other (by decide)).trans c.c1, (cell_other (by decide)).trans c.c2, (cell_other (by decide)).trans c.c3, (cell_other (by decide)).trans c.c4, (cell_other (by decide)).trans c.c5, (cell_other (by decide)).trans c.c6, (cell_other (by decide)).trans c.c7, fun i => fz_put (c.fz i)⟩ h.lts
theorem Mem.put1 (h : Mem w N p F s v vs rs) (n : Nat) {z : Int} (hz : z = (n : Int)) : Mem (w.setCell ⟨p, 1, none⟩ (.int .i64 z)) N p F { s with nums := n } v vs rs := by
  subst hz
  have c := h.cells
  exact h.turn (put_size ..) (fun k _ hk => Below.heap_setCell _ _ _ _ hk) ⟨(cell_other (by decide)).trans c.c0, cell_put c.c1, (cell_other (by decide)).trans c.c2, (cell_other (by decide)).trans c.c3, (cell_other (by decide)).trans c.c4, (cell_other (by decide)).trans c.c5, (cell_other (by decide)).trans c.c6, (cell_other (by decide)).trans c.c7, fun i => fz_put (c.fz i)⟩ h.lts
theorem Mem.put2 (h : Mem w N p F s v vs rs) (n : Nat) {z : Int} (hz : z = (n : Int)) : Mem (w.setCell ⟨p, 2, none⟩ (.int .i64 z)) N p F { s with fin := n } v vs rs := by
  subst hz
  have c := h.cells
  exact h.turn (put_size ..) (fun k _ hk => Below.heap_setCell _ _ _ _ hk) ⟨(cell_other (by decide)).trans c.c0, (cell_other (by decide)).trans c.c1, cell_put c.c2, (cell_other (by decide)).trans c.c3, (cell_other (by decide)).trans c.c4, (cell_other (by decide)).trans c.c5, (cell_other (by decide)).trans c.c6, (cell_other (by decide)).trans c.c7, fun i => fz_put (c.fz i)⟩ h.lts
theorem Mem.put3 (h : Mem w N p F s v vs rs) {r : Nat} (hr : r < 18446744073709551616) : Mem (w.setCell ⟨p, 3, none⟩ (.float .f64 r)) N p F { s with sum := r } v vs rs := by
  have c := h.cells
  exact h.turn (put_size ..) (fun k _ hk => Below.heap_setCell _ _ _ _ hk) ⟨(cell_other (by decide)).trans c.c0, (cell_other (by decide)).trans c.c1, (cell_other (by decide)).trans c.c2, cell_put c.c3, (cell_other (by decide)).trans c.c4, (cell_other (by decide)).trans c.c5, (cell_other (by decide)).trans c.c6, (cell_other (by decide)).trans c.c7, fun i => fz_put (c.fz i)⟩ ⟨hr, h.lts.2⟩
theorem Mem.put4 (h : Mem w N p F s v vs rs) {r : Nat} (hr : r < 18446744073709551616) : Mem (w.setCell ⟨p, 4, none⟩ (.float .f64 r)) N p F { s with least := r } v vs rs := by
  have c := h.cells
  exact h.turn (put_size ..) (fun k _ hk => Below.heap_setCell _ _ _ _ hk) ⟨(cell_other (by decide)).trans c.c0, (cell_other (by decide)).trans c.c1, (cell_other (by decide)).trans c.c2, (cell_other (by decide)).trans c.c3, cell_put c.c4, (cell_other (by decide)).trans c.c5, (cell_other (by decide)).trans c.c6, (cell_other (by decide)).trans c.c7, fun i => fz_put (c.fz i)⟩ ⟨h.lts.1, hr, h.lts.2.2⟩
theorem Mem.put5 (h : Mem w N p F s v vs rs) {r : Nat} (hr : r < 18446744073709551616) : Mem (w.setCell ⟨p, 5, none⟩ (.float .f64 r)) N p F { s with most := r } v vs rs := by
  have c := h.cells
  exact h.turn (put_size ..) (fun k _ hk => Below.heap_setCell _ _ _ _ hk) ⟨(cell_other (by decide)).trans c.c0, (cell_other (by decide)).trans c.c1, (cell_other (by decide)).trans c.c2, (cell_other (by decide)).trans c.c3, (cell_other (by decide)).trans c.c4, cell_put c.c5, (cell_other (by decide)).trans c.c6, (cell_other (by decide)).trans c.c7, fun i => fz_put (c.fz i)⟩ ⟨h.lts.1, h.lts.2.1, hr, h.lts.2.2.2⟩
theorem Mem.put6 (h : Mem w N p F s v vs rs) {r : Nat} (hr : r < 18446744073709551616) : Mem (w.setCell ⟨p, 6, none⟩ (.float .f64 r)) N p F { s with smooth := r } v vs rs := by
  have c := h.cells
  exact h.turn (put_size ..) (fun k _ hk => Below.heap_setCell _ _ _ _ hk) ⟨(cell_other (by decide)).trans c.c0, (cell_other (by decide)).trans c.c1, (cell_other (by decide)).trans c.c2, (cell_other (by decide)).trans c.c3, (cell_other (by decide)).trans c.c4, (cell_other (by decide)).trans c.c5, cell_put c.c6, (cell_other (by decide)).trans c.c7, fun i => fz_put (c.fz i)⟩ ⟨h.lts.1, h.lts.2.1, h.lts.2.2.1, hr⟩
theorem Mem.drewN (h : Mem w N p F s v vs rs) (q : Nat) : Mem (w.drewN q) N p F s v vs rs := h.carry (Nat.le_refl _) (fun _ _ => rfl)
theorem Mem.alloc (h : Mem w N p F s v vs rs) (o : Obj) : Mem (w.alloc o) N p F s v vs rs := h.below ((Below.refl _ _).alloc (Nat.le_refl _) _)
end

/-- The numbers, and the finite ones, in their order. -/
def infB (b : Nat) : Bool := infPB (b % 9223372036854775808)
def finB (b : Nat) : Bool := !nanB b && !infB b
def numsL (l : List Nat) : List Nat := l.filter fun x => !nanB x
def finL (l : List Nat) : List Nat := l.filter finB
def sumN (l : List Nat) : Nat := l.foldl plusN 0
def eightW : Nat := 4620693217682128896
def smoothS (s x : Nat) : Nat := plusN s (quoN (minusN x s) eightW)
def smoothN : List Nat → Nat
  | [] => 0
  | x :: r => r.foldl smoothS x
def meanN (l : List Nat) : Nat := if l.length = 0 then nanW else quoN (sumN l) (floatOfInt .f64 (l.length : Nat))
def rankN (l : List Nat) (x : Nat) : Nat := l.countP fun y => decide (keyN y < keyN x)

/-- What a meter's cells say of all that it has taken in. -/
structure Inv (s : MS) (rs : List (List Nat)) (l : List Nat) : Prop where
  all : s.all = l.length
  nums : s.nums = (numsL l).length
  fin : s.fin = (finL l).length
  sum : Sim s.sum (sumN (numsL l))
  least : s.least = minN (numsL l)
  most : s.most = maxN (numsL l)
  smooth : Sim s.smooth (smoothN (finL l))
  runs : rs.flatten.Perm ((numsL l).map keyN)
  few : rs.length ≤ l.length

def MeterAt (w : World) (N p : Nat) (F : Nat → Prop) (l : List Nat) : Prop := ∃ s v vs rs, Mem w N p F s v vs rs ∧ Inv s rs l

theorem MeterAt.carry {w w' : World} {N p : Nat} {F : Nat → Prop} {l : List Nat} (h : MeterAt w N p F l) (hs : w.heap.size ≤ w'.heap.size) (hb : ∀ k, F k → w'.heap[k]? = w.heap[k]?) : MeterAt w' N p F l := by
  obtain ⟨s, v, vs, rs, h1, h2⟩ := h
  exact ⟨s, v, vs, rs, h1.carry hs hb, h2⟩
theorem MeterAt.low {w : World} {N p : Nat} {F : Nat → Prop} {l : List Nat} (h : MeterAt w N p F l) : ∀ k, F k → N ≤ k ∧ k < w.heap.size := by
  obtain ⟨s, v, vs, rs, h1, h2⟩ := h
  exact h1.low
theorem MeterAt.keep {w w' : World} {N p : Nat} {F G : Nat → Prop} {l : List Nat} (h : MeterAt w N p F l) (hk : Keep G w w') (hd : ∀ k, F k → ¬ G k) : MeterAt w' N p F l :=
  h.carry hk.size (fun k f => hk.block k (h.low k f).2 (hd k f))

/-! The sums step by step. -/
theorem numsL_snoc (l : List Nat) (x : Nat) : numsL (l ++ [x]) = if nanB x then numsL l else numsL l ++ [x] := by
  unfold numsL; rw [List.filter_append]; cases h : nanB x <;> simp [h]
theorem finL_snoc (l : List Nat) (x : Nat) : finL (l ++ [x]) = if finB x then finL l ++ [x] else finL l := by
  unfold finL; rw [List.filter_append]; cases h : finB x <;> simp [h]
theorem sumN_snoc (l : List Nat) (x : Nat) : sumN (l ++ [x]) = plusN (sumN l) x := by unfold sumN; simp
theorem smoothN_snoc (l : List Nat) (x : Nat) : smoothN (l ++ [x]) = if l.length = 0 then x else smoothS (smoothN l) x := by
  cases l with
  | nil => simp [smoothN]
  | cons y r => simp [smoothN]
theorem smoothS_sim {a b : Nat} (x : Nat) (h : Sim a b) : Sim (smoothS a x) (smoothS b x) :=
  opN_sim .add rfl h (opN_sim .quo rfl (opN_sim .sub rfl (Sim.refl x) h) (Sim.refl _))

theorem key_inj {a b : Nat} (ha : a < 18446744073709551616) (hb : b < 18446744073709551616) (na : nanB a = false) (nb : nanB b = false) (h : keyN a = keyN b) : a = b := by
  unfold keyN sgnB at h
  rw [na, nb] at h
  simp at h
  split at h <;> split at h <;> omega

theorem minGo_app : ∀ (l : List Nat) (m x : Nat), (∀ y ∈ l, nanB y = false) → minGo (l ++ [x]) m = minGo [x] (minGo l m)
  | [], _, _, _ => rfl
  | y :: r, m, x, h => by
    have hy := h y (by simp)
    show (if nanB y then nanW else minGo (r ++ [x]) _) = minGo [x] (if nanB y then nanW else minGo r _)
    rw [hy]
    exact minGo_app r _ x (fun z hz => h z (by simp [hz]))
theorem maxGo_app : ∀ (l : List Nat) (m x : Nat), (∀ y ∈ l, nanB y = false) → maxGo (l ++ [x]) m = maxGo [x] (maxGo l m)
  | [], _, _, _ => rfl
  | y :: r, m, x, h => by
    have hy := h y (by simp)
    show (if nanB y then nanW else maxGo (r ++ [x]) _) = maxGo [x] (if nanB y then nanW else maxGo r _)
    rw [hy]
    exact maxGo_app r _ x (fun z hz => h z (by simp [hz]))

theorem numsL_no (l : List Nat) : ∀ y ∈ numsL l, nanB y = false := by
  intro y hy
  have := (List.mem_filter.1 hy).2
  simpa using this
theorem numsL_lt {l : List Nat} (h : ∀ y ∈ l, y < 18446744073709551616) : ∀ y ∈ numsL l, y < 18446744073709551616 := fun y hy => h y (List.mem_filter.1 hy).1

theorem min_no (l : List Nat) (h : ∀ y ∈ l, nanB y = false) : nanB (minN l) = false := by
  rcases (minGo_ok l 9218868437227405312 h).2.2 with e | e
  · unfold minN; rw [e]; decide +kernel
  · exact h _ e
theorem max_no (l : List Nat) (h : ∀ y ∈ l, nanB y = false) : nanB (maxN l) = false := by
  rcases (maxGo_ok l 18442240474082181120 h).2.2 with e | e
  · unfold maxN; rw [e]; decide +kernel
  · exact h _ e

theorem min_two (l : List Nat) (x : Nat) (hl : ∀ y ∈ l, y < 18446744073709551616) (h : ∀ y ∈ l, nanB y = false) : minN [minN l, x] = minN (l ++ [x]) := by
  have hm := min_no l h
  have hlt := min_lt l hl
  have e1 : minN (l ++ [x]) = minGo [x] (minN l) := minGo_app l _ x h
  rw [e1]
  show (if nanB (minN l) then nanW else minGo [x] _) = _
  rw [hm]
  simp only [Bool.false_eq_true, if_false]
  congr 1
  rw [cmp_neg]
  by_cases hc : keyN (minN l) < keyN 9218868437227405312
  · simp [hc]
  · simp only [hc, decide_false, Bool.false_eq_true, if_false]
    exact (key_inj hlt (by decide) hm (by decide +kernel) (by have := (key_span _ hlt hm).2; omega)).symm
theorem max_two (l : List Nat) (x : Nat) (hl : ∀ y ∈ l, y < 18446744073709551616) (h : ∀ y ∈ l, nanB y = false) : maxN [maxN l, x] = maxN (l ++ [x]) := by
  have hm := max_no l h
  have hlt := max_lt l hl
  have e1 : maxN (l ++ [x]) = maxGo [x] (maxN l) := maxGo_app l _ x h
  rw [e1]
  show (if nanB (maxN l) then nanW else maxGo [x] _) = _
  rw [hm]
  simp only [Bool.false_eq_true, if_false]
  congr 1
  rw [cmp_pos]
  by_cases hc : keyN 18442240474082181120 < keyN (maxN l)
  · simp [hc]
  · simp only [hc, decide_false, Bool.false_eq_true, if_false]
    exact (key_inj hlt (by decide) hm (by decide +kernel) (by have := (key_span _ hlt hm).1; omega)).symm

/-- What is no number is counted, and that is all. -/
theorem Inv.nan {s : MS} {rs : List (List Nat)} {l : List Nat} (h : Inv s rs l) {x : Nat} (hx : nanB x = true) : Inv { s with all := s.all + 1 } rs (l ++ [x]) := by
  have e1 := numsL_snoc l x
  have e2 := finL_snoc l x
  rw [if_pos hx] at e1
  rw [if_neg (by unfold finB; simp [hx])] at e2
  exact ⟨by simp [h.all], by rw [e1]; exact h.nums, by rw [e2]; exact h.fin, by rw [e1]; exact h.sum, by rw [e1]; exact h.least, by rw [e1]; exact h.most, by rw [e2]; exact h.smooth, by rw [e1]; exact h.runs, by have := h.few; simp; omega⟩

/-- An end is a number, but no finite one. -/
theorem Inv.num {s : MS} {rs rs' : List (List Nat)} {l : List Nat} (h : Inv s rs l) (hl : ∀ y ∈ l, y < 18446744073709551616) {x r : Nat} (hx : nanB x = false) (hi : infB x = true) (hr : Sim r (plusN s.sum x)) (hp : rs'.flatten.Perm (keyN x :: rs.flatten)) (hf : rs'.length ≤ rs.length + 1) :
    Inv { s with all := s.all + 1, nums := s.nums + 1, sum := r, least := minN [s.least, x], most := maxN [s.most, x] } rs' (l ++ [x]) := by
  have e1 := numsL_snoc l x
  have e2 := finL_snoc l x
  rw [if_neg (by simp [hx])] at e1
  rw [if_neg (by unfold finB; simp [hi])] at e2
  refine ⟨by simp [h.all], by rw [e1]; simp [h.nums], by rw [e2]; exact h.fin, by rw [e1, sumN_snoc]; exact hr.trans (opN_sim .add rfl h.sum (Sim.refl x)), ?_, ?_, by rw [e2]; exact h.smooth, ?_, by have := h.few; simp; omega⟩
  · rw [e1]; show minN [s.least, x] = _; rw [h.least]; exact min_two _ _ (numsL_lt hl) (numsL_no l)
  · rw [e1]; show maxN [s.most, x] = _; rw [h.most]; exact max_two _ _ (numsL_lt hl) (numsL_no l)
  · rw [e1, List.map_append]
    refine hp.trans ((h.runs.cons (keyN x)).trans ?_)
    exact (List.perm_append_comm (l₁ := [keyN x]) (l₂ := (numsL l).map keyN))

theorem Inv.whole {s : MS} {rs rs' : List (List Nat)} {l : List Nat} (h : Inv s rs l) (hl : ∀ y ∈ l, y < 18446744073709551616) {x r t : Nat} (hx : nanB x = false) (hi : infB x = false) (hr : Sim r (plusN s.sum x)) (ht : Sim t (if s.fin = 0 then x else smoothS s.smooth x)) (hp : rs'.flatten.Perm (keyN x :: rs.flatten)) (hf : rs'.length ≤ rs.length + 1) :
    Inv { s with all := s.all + 1, nums := s.nums + 1, sum := r, least := minN [s.least, x], most := maxN [s.most, x], fin := s.fin + 1, smooth := t } rs' (l ++ [x]) := by
  have e1 := numsL_snoc l x
  have e2 := finL_snoc l x
  rw [if_neg (by simp [hx])] at e1
  rw [if_pos (by unfold finB; simp [hi, hx])] at e2
  refine ⟨by simp [h.all], by rw [e1]; simp [h.nums], by rw [e2]; simp [h.fin], by rw [e1, sumN_snoc]; exact hr.trans (opN_sim .add rfl h.sum (Sim.refl x)), ?_, ?_, ?_, ?_, by have := h.few; simp; omega⟩
  · rw [e1]; show minN [s.least, x] = _; rw [h.least]; exact min_two _ _ (numsL_lt hl) (numsL_no l)
  · rw [e1]; show maxN [s.most, x] = _; rw [h.most]; exact max_two _ _ (numsL_lt hl) (numsL_no l)
  · rw [e2, smoothN_snoc]
    refine ht.trans ?_
    rw [h.fin]
    split
    · exact Sim.refl _
    · exact smoothS_sim x h.smooth
  · rw [e1, List.map_append]
    refine hp.trans ((h.runs.cons (keyN x)).trans ?_)
    exact (List.perm_append_comm (l₁ := [keyN x]) (l₂ := (numsL l).map keyN))

end Go.Proofs.Ytlbbbabieepabaa
