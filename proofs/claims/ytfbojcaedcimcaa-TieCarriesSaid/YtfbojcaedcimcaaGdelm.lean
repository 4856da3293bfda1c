import Derived.Test.YtfbojcaedcimcaaMac
import Derived.Shelf.SlicesE.Delete
import Derived.Lib.OwnBridge
import Derived.Deep.MidRow
import Derived.Deep.RegionLaw

/-
  The first so many are taken out of a row: slices.Delete at []Item, at [][]byte.
-/
namespace Go.Proofs.Ytfbojcaedcimcaa
open Go.RowKit Go.Lib Go.Sort Go.Shelf

def dw_ren : Ren := ⟨fun _ => 55, fun n => match n with | 0 => 0 | 3 => 3 | 4 => 4 | 22 => 27 | _ => 30, fun _ => 0⟩

theorem dw_laid : SlLaysE.n45 Try.prog dw_ren where
  mixed := by kernel_rfl
  f45 := ⟨Try.f55.name, by kernel_rfl, Try.func55.trans (congrArg some (by kernel_rfl))⟩
  t0 := Try.underlying0
  a0 := Try.isAgg0
  z0 := Try.sizeOf0
  v0 := Try.zeroValue0
  t3 := Try.underlying3
  a3 := Try.isAgg3
  z3 := Try.sizeOf3
  v3 := Try.zeroValue3
  t4 := Try.underlying4
  a4 := Try.isAgg4
  z4 := Try.sizeOf4
  v4 := Try.zeroValue4
  t22 := Try.underlying27
  a22 := Try.isAgg27
  z22 := Try.sizeOf27
  v22 := Try.zeroValue27
  a23 := Try.isAgg30
  z23 := Try.sizeOf30

/-- What is left owns its row; nothing else has turned. -/
def CutPost (e : TypeId) (sz : Nat) (W : World) (N : Nat) (v : Value) (n k : Nat) (cs : List Value) (E : Ending) (w' : World) : Prop :=
  ∃ a cap, E = .returned (.slice a (n - k) cap) ∧ w'.ownsRow N e sz (.slice a (n - k) cap) (n - k) cs ∧ W.grownBy w' v.ownBlock ∧ (Value.slice a (n - k) cap).ownBlock = v.ownBlock

set_option maxRecDepth 20000 in
theorem del_waits (W : World) (N : Nat) (v : Value) (L : List Bd) (k : Nat) (hk : k ≤ L.length) (ho : W.ownsRow N 30 1 v L.length (L.map bdV)) :
    Calls Try.prog 55 #[v, .int .i64 0, .int .i64 (k : Nat)] W (CutPost 30 1 W N v L.length k ((L.drop k).map bdV)) := by
  by_cases hv : v = .slice none 0 0
  · subst hv
    have hl : L.length = 0 := by
      rcases ho.2 with ⟨_, h0⟩ | ⟨g, cap, cur, h0, _⟩
      · exact h0
      · cases h0
    obtain rfl : L = [] := List.length_eq_zero_iff.1 hl
    obtain rfl : k = 0 := by simpa using hk
    have P := Lib.hid (show CutPost 30 1 W N (.slice none 0 0) 0 0 [] (.returned (.slice none 0 0)) W from ⟨none, 0, rfl, World.ownsRow_nil .., World.grownBy.refl _ _, rfl⟩)
    clear ho hk hl
    go_enter Try.func55, Try.ntmps55
    go_wp2_with fail
    go_ret
    exact P.out
  · obtain ⟨i0, hi0, hz0, hz1, hz2⟩ := info_g Try.infoBs
    obtain ⟨g, cap, rfl, hN, hg, hfit, hmax, _, hH⟩ := holds_of_ownsRow ho hv
    have hc := AnyE.slices_Delete dw_laid bdV (fun _ => rfl) ⟨none, 0, ⟨#[]⟩⟩ Try.zeroValue30 i0 hi0 hz1 g 0 cap 0 k L.toArray W hH (by simpa using hfit) (by unfold maxLen at hmax; omega) (by omega) (by simpa using hk)
    refine hc.mono ?_
    rintro E w' ⟨rfl, q, rfl⟩
    have hys : (L.take 0 ++ L.drop k ++ List.replicate (k - 0) (⟨none, 0, ⟨#[]⟩⟩ : Bd)).length = L.length := by
      rw [List.length_append, List.length_append, List.length_take, List.length_drop, List.length_replicate]; omega
    have ht : (L.take 0 ++ L.drop k ++ List.replicate (k - 0) (⟨none, 0, ⟨#[]⟩⟩ : Bd)).take (L.length - k) = L.drop k := by
      rw [List.take_zero, List.nil_append, ← List.length_drop]
      exact List.take_left
    have hown := ownsRow_putRow (q := q) (k := L.length - k) ho hys (by omega)
    rw [ht] at hown
    refine ⟨some ⟨g, 0, none⟩, cap, by simp, hown, ?_, rfl⟩
    exact ⟨rfl, rfl, rfl, by simp [putRow, mapBlock, Sort.ahead], fun j hj hne => by
      have : g ≠ j := fun e => hne (by simp [Value.ownBlock, e])
      simp [putRow, mapBlock, Sort.ahead, Array.getElem?_modify, this]⟩

/-- Many cells of a row turned. -/
theorem setCells_row (g : Nat) (e : TypeId) : ∀ (vs : List Value) (o : Nat) (w : World) (cur : Array Value), w.heap[g]? = some (.cells cur e (0, 0)) → o + vs.length ≤ cur.size →
    (∃ cur', (w.setCells g o vs).heap[g]? = some (.cells cur' e (0, 0)) ∧ cur'.size = cur.size ∧ (∀ j, j < o → cur'[j]? = cur[j]?) ∧ ∀ j, j < vs.length → cur'[o + j]? = vs[j]?) ∧ w.grownBy (w.setCells g o vs) (some g)
  | [], o, w, cur, h, _ => ⟨⟨cur, h, rfl, fun _ _ => rfl, fun j hj => by simp at hj⟩, World.grownBy.refl _ _⟩
  | v :: r, o, w, cur, h, hl => by
    rw [List.length_cons] at hl
    have h1 := heap_setCell_same w g o cur e v h
    obtain ⟨⟨cur', h2, h3, h4, h5⟩, hg⟩ := setCells_row g e r (o + 1) (w.setCell ⟨g, o, none⟩ v) (cur.setIfInBounds o v) h1 (by simp; omega)
    have hg0 : w.grownBy (w.setCell ⟨g, o, none⟩ v) (some g) := ⟨rfl, rfl, rfl, by simp, fun k _ hk => heap_setCell_other w ⟨g, o, none⟩ k v (fun e => hk (by simp [e]))⟩
    refine ⟨⟨cur', h2, by simpa using h3, fun j hj => ?_, fun j hj => ?_⟩, hg.os.trans hg0.os, hg.tape.trans hg0.tape, hg.output.trans hg0.output, Nat.le_trans hg0.size hg.size, fun k hk hn => (hg.block k (Nat.lt_of_lt_of_le hk hg0.size) hn).trans (hg0.block k hk hn)⟩
    · rw [h4 j (by omega), Array.getElem?_setIfInBounds, if_neg (by omega)]
    · cases j with
      | zero => rw [Nat.add_zero, h4 o (by omega), Array.getElem?_setIfInBounds, if_pos rfl, if_pos (by omega)]; rfl
      | succ j =>
        rw [List.length_cons] at hj
        rw [show o + (j + 1) = o + 1 + j by omega, h5 j (by omega)]
        rfl

theorem clear_two (P : Program) (w : World) (t e ty : TypeId) (ht : P.underlying t = some (.slice e)) (hv : ∀ w, (zeroValue e).run P w = .ok (.agg #[.int .u64 0, .slice none 0 0]) w) (b o n c : Nat) (hn : 0 < n)
    (hc : ∀ j, j < n * 2 → (w.cell? ⟨b, o + j, none⟩).isSome = true) (hf : ∀ j, j < n * 2 → w.frozen? ⟨b, o + j, none⟩ = false) :
    (Builtin.clear_ #[t] ty #[.slice (some ⟨b, o, none⟩) n c]).run P w = .ok (.tuple #[]) (w.setCells b o (Builtin.zeroCells #[.int .u64 0, .slice none 0 0] n).toList) := by
  have hl : (Builtin.zeroCells #[.int .u64 0, .slice none 0 0] n).toList.length = n * 2 := by simp [Builtin.zeroCells]
  have hst := run_storeCells_cells (P := P) b o (Builtin.zeroCells #[.int .u64 0, .slice none 0 0] n).toList 0 w (by rw [hl]; simpa using hc) (by rw [hl]; simpa using hf) (by
    intro v hv'
    simp only [Builtin.zeroCells, Array.toList_map, List.mem_map] at hv'
    obtain ⟨i, _, rfl⟩ := hv'
    have h2 : i % 2 = 0 ∨ i % 2 = 1 := by omega
    show ((#[Value.int .u64 0, Value.slice none 0 0] : Array Value)[i % 2]!).oneCell' = true
    rcases h2 with h2 | h2
    · rw [h2]; rfl
    · rw [h2]; rfl)
  simp only [Nat.add_zero] at hst
  obtain ⟨m, rfl⟩ : ∃ m, n = m + 1 := ⟨n - 1, by omega⟩
  simp [Builtin.clear_, run_underlying ht, hv, Value.cells, hst]

set_option maxHeartbeats 4000000 in
set_option maxRecDepth 1000000 in
theorem del_walk (w : World) (g cap n i j : Nat) (cs : List Value) (hij : i < j) (hj : j ≤ n) (hcap : n ≤ cap) (_hm : cap ≤ 9223372036854775807) (hlen : cs.length = n * 2)
    (hc : ∀ t u, cs[t]? = some u → w.cell? ⟨g, t, none⟩ = some u) (hone : ∀ u ∈ cs, u.oneCell' = true) (hfz : ∀ t, w.frozen? ⟨g, t, none⟩ = false) :
    Calls Try.prog 36 #[.slice (some ⟨g, 0, none⟩) n cap, .int .i64 i, .int .i64 j] w fun e w' =>
      e = .returned (.slice (some ⟨g, 0, none⟩) (i + (n - j)) cap) ∧ w' = (w.drew.setCells g (i * 2) (cs.drop (j * 2))).setCells g ((i + (n - j)) * 2) (Builtin.zeroCells #[.int .u64 0, .slice none 0 0] (n - (i + (n - j)))).toList := by
  have t22 := Try.underlying56
  obtain ⟨i0, hi0, hz0, hz1, hz2⟩ := info_g Try.infoIt
  obtain ⟨news, hnews⟩ : ∃ news, news = cs.drop (j * 2) := ⟨_, rfl⟩
  have hnl : news.length = (n - j) * 2 := by rw [hnews, List.length_drop, hlen, Nat.sub_mul]
  obtain ⟨A, hA, hsrc⟩ : ∃ A : Addr, (if cap = j then some (⟨g, 0, none⟩ : Addr) else some ⟨g, j * 2, none⟩) = some A ∧ Hid (∀ t u, news[t]? = some u → w.drew.cell? (A.add t) = some u) := by
    by_cases h : cap = j
    · refine ⟨⟨g, 0, none⟩, by simp [h], fun t u hu => ?_⟩
      have h0 : news.length = 0 := by rw [hnl]; omega
      rw [List.length_eq_zero_iff.1 h0] at hu
      simp at hu
    · refine ⟨⟨g, j * 2, none⟩, by simp [h], fun t u hu => ?_⟩
      rw [hnews, List.getElem?_drop] at hu
      rw [Addr.add_lit]
      exact hc _ u hu
  have s2 := Lib.hid (show ∀ u ∈ news, u.oneCell' = true from fun u hu => by rw [hnews] at hu; exact hone u (List.mem_of_mem_drop hu))
  have hsome : ∀ t, t < n * 2 → (w.cell? ⟨g, t, none⟩).isSome = true := fun t ht => by
    rw [hc t cs[t] (List.getElem?_eq_getElem (by omega))]; rfl
  have s3 := Lib.hid (show ∀ t, t < news.length → (w.drew.cell? ⟨g, 0 + i * 2 + t, none⟩).isSome = true ∧ w.drew.frozen? ⟨g, 0 + i * 2 + t, none⟩ = false from fun t ht => ⟨hsome _ (by omega), hfz _⟩)
  obtain ⟨W1, hW1⟩ : ∃ W1, W1 = w.drew.setCells g (0 + i * 2) news := ⟨_, rfl⟩
  have hcl : ∀ ty, (Builtin.clear_ #[56] ty #[.slice (some ⟨g, (i + (n - j)) * 2, none⟩) (n - (i + (n - j))) (cap - (i + (n - j)))]).run Try.prog W1 = .ok (.tuple #[]) (W1.setCells g ((i + (n - j)) * 2) (Builtin.zeroCells #[.int .u64 0, .slice none 0 0] (n - (i + (n - j)))).toList) :=
    fun ty => clear_two Try.prog W1 _ _ ty t22 Try.zeroValue80 g ((i + (n - j)) * 2) _ _ (by omega) (fun t ht => by rw [hW1]; exact World.isSome_setCells g news _ _ _ (hsome _ (by omega))) (fun t ht => by rw [hW1, World.frozen?_setCells]; exact hfz _)
  have E := Lib.hid (show W1.setCells g ((i + (n - j)) * 2) (Builtin.zeroCells #[.int .u64 0, .slice none 0 0] (n - (i + (n - j)))).toList = (w.drew.setCells g (i * 2) (cs.drop (j * 2))).setCells g ((i + (n - j)) * 2) (Builtin.zeroCells #[.int .u64 0, .slice none 0 0] (n - (i + (n - j)))).toList by rw [hW1, Nat.zero_add, hnews])
  have hW := Lib.hid hW1
  have s1 := Lib.hid hnl
  have hic : i ≤ cap := by omega
  have hjc : j ≤ cap := by omega
  rw [← E.out]
  clear hW1 hnews hnl hc hone hfz hlen hsome E
  generalize (Builtin.zeroCells #[.int .u64 0, .slice none 0 0] (n - (i + (n - j)))).toList = Z at *
  go_enter Try.func36, Try.ntmps36
  go_wp2_with fail
  have mixed : Try.prog.follows Departure.mixedOrders = true := by kernel_rfl
  go_region_law_o (refine step_append_room rfl (.tmp 22) (.tmp 25) 56 rfl 80 i0 2 t22 hi0 hz1 g 0 i cap (by simp [Act.eval, Act.put]) A (n - j) (cap - j) news (by simp [Act.eval, Act.put]) s1.out hsrc s2.out (by omega) s3.out ?_; rw [← hW.out])
  go_wp2
  go_ret
  exact ⟨rfl, rfl⟩

theorem del_items (W : World) (N : Nat) (v : Value) (n k : Nat) (cs : List Value) (hk0 : 0 < k) (hk : k ≤ n) (hone : ∀ u ∈ cs, u.oneCell' = true) (ho : W.ownsRow N 80 2 v n cs) :
    Calls Try.prog 36 #[v, .int .i64 0, .int .i64 (k : Nat)] W (CutPost 80 2 W N v n k (cs.drop (k * 2))) := by
  obtain ⟨g, cap, rfl, hN, hg⟩ := ho.form (by omega)
  rcases ho.2 with ⟨h', _⟩ | ⟨g', cap', cur, h', hb, hgg, hnc, hcm, hcs, htake⟩
  · cases h'
  · cases h'
    have hm : cap ≤ 9223372036854775807 := by unfold maxLen at hcm; omega
    refine (del_walk W g cap n 0 k cs hk0 hk hnc hm ho.1 (fun t u hu => by rw [ho.cellAt t (by have := (List.getElem?_eq_some_iff.1 hu).1; rw [ho.1] at this; exact this)]; exact hu) hone (fun t => ho.frozenAt t)).mono ?_
    rintro E w' ⟨rfl, rfl⟩
    have hl := ho.1
    have hd : (cs.drop (k * 2)).length = (n - k) * 2 := by rw [List.length_drop, hl, Nat.sub_mul]
    rw [Nat.zero_mul, Nat.zero_add]
    have hz : (Builtin.zeroCells #[Value.int .u64 0, Value.slice none 0 0] (n - (n - k))).toList.length = (n - (n - k)) * 2 := by simp [Builtin.zeroCells]
    generalize (Builtin.zeroCells #[Value.int .u64 0, Value.slice none 0 0] (n - (n - k))).toList = Z at *
    obtain ⟨⟨c1, a1, a2, a3, a4⟩, g1⟩ := setCells_row g 80 (cs.drop (k * 2)) 0 W.drew cur hgg (by rw [hd, hcs]; have := Nat.mul_le_mul_right 2 (show n - k ≤ cap by omega); omega)
    obtain ⟨⟨c2, b1, b2, b3, b4⟩, g2⟩ := setCells_row g 80 Z ((n - k) * 2) _ c1 a1 (by rw [hz, a2, hcs]; have := Nat.mul_le_mul_right 2 hnc; omega)
    refine ⟨some ⟨g, 0, none⟩, cap, rfl, ⟨hd, Or.inr ⟨g, cap, c2, rfl, hb, b1, by omega, hcm, by rw [b2, a2, hcs], ?_⟩⟩, ⟨g2.os.trans g1.os, g2.tape.trans g1.tape, g2.output.trans g1.output, Nat.le_trans g1.size g2.size, fun j hj hn => (g2.block j (Nat.lt_of_lt_of_le hj g1.size) hn).trans (g1.block j hj hn)⟩, rfl⟩
    apply List.ext_getElem?
    intro j
    rw [List.getElem?_take]
    by_cases hj : j < (n - k) * 2
    · rw [if_pos hj, Array.getElem?_toList, b3 j hj]
      have := a4 j (by omega)
      rw [Nat.zero_add] at this
      exact this
    · rw [if_neg hj, List.getElem?_eq_none (by omega)]

end Go.Proofs.Ytfbojcaedcimcaa
