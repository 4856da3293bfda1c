/-
  Texts of this claim, put together.
-/
import Derived.Test.YtbmpeadoicjpnaaMag
import Derived.Shelf.Spec.SlicesInsertGrow

/-
  slices.Insert at entries: one entry, into a row of one's own.
-/
namespace Go.Proofs.Ytbmpeadoicjpnaa
open Go.RowKit Go.Sort

/-! Cells written one after another. -/
def setL : List Value → Nat → List Value → List Value
  | xs, _, [] => xs
  | xs, o, v :: r => setL (xs.set o v) (o + 1) r
theorem setL_len : ∀ (vs xs : List Value) (o : Nat), (setL xs o vs).length = xs.length
  | [], _, _ => rfl
  | v :: r, xs, o => by rw [setL, setL_len r, List.length_set]
theorem setL_eq : ∀ (vs xs : List Value) (o : Nat), o + vs.length ≤ xs.length → setL xs o vs = xs.take o ++ vs ++ xs.drop (o + vs.length)
  | [], xs, o, _ => by rw [setL, List.append_nil, List.length_nil, Nat.add_zero, List.take_append_drop]
  | v :: r, xs, o, h => by
    rw [List.length_cons] at h
    rw [setL, setL_eq r _ _ (by rw [List.length_set]; omega), List.length_cons]
    have h1 : o < xs.length := by omega
    have e1 : (xs.set o v).take (o + 1) = xs.take o ++ [v] := by
      rw [List.take_set, List.take_succ_eq_append_getElem h1, List.set_append_right _ _ (by rw [List.length_take]; omega), List.length_take, Nat.min_eq_left (by omega), Nat.sub_self]
      rfl
    have e2 : (xs.set o v).drop (o + 1 + r.length) = xs.drop (o + (r.length + 1)) := by
      rw [List.drop_set_of_lt (by omega), show o + 1 + r.length = o + (r.length + 1) by omega]
    rw [e1, e2]
    simp
theorem own_sets {base : Nat} {e : TypeId} {size g n cap : Nat} : ∀ (vs xs : List Value) (o : Nat) (w : World), w.ownsRow base e size (.slice (some ⟨g, 0, none⟩) n cap) n xs →
    (w.setCells g o vs).ownsRow base e size (.slice (some ⟨g, 0, none⟩) n cap) n (setL xs o vs) ∧ Keep (fun k => k = g) w (w.setCells g o vs)
  | [], xs, o, w, h => ⟨h, Keep.refl _ _⟩
  | v :: r, xs, o, w, h => by
    obtain ⟨h1, h2⟩ := own_sets r (xs.set o v) (o + 1) (w.setCell ⟨g, o, none⟩ v) (h.stored o v).1
    exact ⟨h1, ((Keep.refl (fun k => k = g) w).put o v).trans h2 (fun _ _ e => e)⟩
theorem own_fits {w : World} {base : Nat} {e : TypeId} {size n cap : Nat} {a : Option Addr} {xs : List Value} (h : w.ownsRow base e size (.slice a n cap) n xs) : n ≤ cap := by
  rcases h.2 with ⟨h', h0⟩ | ⟨g', cap', cur, h', hb, hg, hnc, -⟩
  · omega
  · simp only [Value.slice.injEq, true_and] at h'
    rw [h'.2]; exact hnc
/-- The row, seen with spare places. -/
theorem own_more {w : World} {base : Nat} {e : TypeId} {size g n m cap : Nat} {xs : List Value} (h : w.ownsRow base e size (.slice (some ⟨g, 0, none⟩) n cap) n xs) (hm : n ≤ m) (hc : m ≤ cap) :
    ∃ ex, w.ownsRow base e size (.slice (some ⟨g, 0, none⟩) m cap) m (xs ++ ex) := by
  rcases h.2 with ⟨h', _⟩ | ⟨g', cap', cur, h', hb, hg, hnc, hcm, hcs, htake⟩
  · simp at h'
  · simp only [Value.slice.injEq, Option.some.injEq, Addr.mk.injEq, and_true, true_and] at h'
    obtain ⟨rfl, rfl⟩ := h'
    have hmul : n * size ≤ m * size := Nat.mul_le_mul_right _ hm
    have hmul2 : m * size ≤ cap * size := Nat.mul_le_mul_right _ hc
    have e1 : cur.toList.take (m * size) = xs ++ (cur.toList.take (m * size)).drop (n * size) := by
      rw [← htake]
      have := (List.take_append_drop (n * size) (cur.toList.take (m * size))).symm
      rw [List.take_take, Nat.min_eq_left hmul] at this
      exact this
    exact ⟨_, by rw [← e1, List.length_take, Array.length_toList, hcs]; omega, .inr ⟨g, cap, cur, rfl, hb, hg, hc, hcm, hcs, e1⟩⟩
theorem own_shape {w : World} {base : Nat} {e : TypeId} {size g n cap : Nat} {xs : List Value} (h : w.ownsRow base e size (.slice (some ⟨g, 0, none⟩) n cap) n xs) : w.shape? g = some (e, cap * size) := by
  rcases h.2 with ⟨h', _⟩ | ⟨g', cap', cur, h', hb, hg, hnc, hcm, hcs, htake⟩
  · simp at h'
  · simp only [Value.slice.injEq, Option.some.injEq, Addr.mk.injEq, and_true, true_and] at h'
    obtain ⟨rfl, rfl⟩ := h'
    unfold World.shape?
    rw [hg, ← hcs]
/-- A new row, the first of which are so. -/
theorem own_new (w : World) {base : Nat} {e : TypeId} {size n cap : Nat} (row : Array Value) (hb : base ≤ w.heap.size) (hn : n ≤ cap) (hm : cap ≤ maxLen) (hs : row.size = cap * size) :
    (w.alloc (.cells row e)).ownsRow base e size (.slice (some ⟨w.heap.size, 0, none⟩) n cap) n (row.toList.take (n * size)) :=
  ⟨by rw [List.length_take, Array.length_toList, hs]; have := Nat.mul_le_mul_right size hn; omega, .inr ⟨w.heap.size, cap, row, rfl, hb, heap_alloc_new w _, hn, hm, hs, rfl⟩⟩

/-- copy at elements of so many cells. -/
theorem run_copy_many {P : Program} (w : World) (dT sT ty elem : TypeId) (sz : Nat) (b o dLen dCap : Nat) (a : Addr) (sLen sCap : Nat) (cs : List Value) {m : Nat}
    (hu : P.underlying dT = some (.slice elem)) (hs : (P.info? elem).map (·.size) = some sz) (hm : Nat.min sLen dLen = m) (hn : cs.length = m * sz)
    (hsrc : ∀ j v, cs[j]? = some v → w.cell? (a.add j) = some v) (hc : ∀ j, j < cs.length → (w.cell? ⟨b, o + j, none⟩).isSome = true) (hf : ∀ j, j < cs.length → w.frozen? ⟨b, o + j, none⟩ = false) (h1 : ∀ v ∈ cs, v.oneCell' = true) :
    (Builtin.copy_ #[dT, sT] ty #[.slice (some ⟨b, o, none⟩) dLen dCap, .slice (some a) sLen sCap]).run P w = .ok (goInt m) (w.setCells b o cs) := by
  have hl := run_loadCells_list (P := P) w a cs hsrc
  have hst := run_storeCells_cells (P := P) b o cs 0 w (by simpa using hc) (by simpa using hf) h1
  subst hm
  cases hq : P.info? elem with
  | none => simp [hq] at hs
  | some i =>
    have hi : i.size = sz := by simpa [hq] using hs
    simp [Builtin.copy_, run_underlying hu, Builtin.lenOf, Builtin.firstCells, sizeOf, typeInfo, hq, hi, ← hn, hl, hst]

def InsPost (B : Nat) (W : World) (g : Option Nat) (l : List Le) (n : Nat) (e : Ending) (w' : World) : Prop :=
  ∃ a c, e = .returned (.slice a n c) ∧ OwnLg 26 B w' (.slice a n c) l ∧ l.length = n ∧ Keep (fun k => g = some k) W w'

theorem ins_ok {l : List Le} {x : Le} {i : Nat} (hl : ∀ y ∈ l, OkX y) (hx : OkX x) : ∀ y ∈ l.take i ++ x :: l.drop i, OkX y := fun y hy => by
  rcases List.mem_append.1 hy with hy | hy
  · exact hl y (List.mem_of_mem_take hy)
  · rcases List.mem_cons.1 hy with rfl | hy
    · exact hx
    · exact hl y (List.mem_of_mem_drop hy)
theorem ins_len (l : List Le) (x : Le) {i : Nat} (hi : i ≤ l.length) : (l.take i ++ x :: l.drop i).length = l.length + 1 := by
  rw [List.length_append, List.length_cons, List.length_take, List.length_drop]; omega

set_option maxRecDepth 20000 in
set_option maxHeartbeats 4000000 in
/-- At the end. -/
theorem insert_end {B : Nat} {W : World} {a : Option Addr} {n cap : Nat} {l : List Le} (O : OwnLg 26 B W (.slice a n cap) l) (hn : l.length = n) (hl : n ≤ 1000000) (hB : B ≤ W.heap.size) {x : Le} (hx : OkX x) {vb : Nat} (V : ∀ j u, (xC x)[j]? = some u → W.cell? ⟨vb, j, none⟩ = some u) :
    Calls Try.prog 37 #[.slice a n cap, .int .i64 (n : Nat), .slice (some ⟨vb, 0, none⟩) 1 1] W (InsPost B W (Value.slice a n cap).ownBlock (l ++ [x]) (n + 1)) := by
  obtain ⟨i0, hi0, hz0, hz1, hz2⟩ := info_x Try.infoT
  have OH := Lib.hid O
  have HN := Lib.hid hn
  have HX := Lib.hid hx
  have NW := Lib.hid (show ∀ ad, (some ⟨vb, 0, none⟩ : Option Addr) = some ad → ∀ j u, (xC x)[j]? = some u → W.cell? (ad.add j) = some u from fun ad e j u hu => by
    cases e
    rw [Addr.add_lit, Nat.zero_add]
    exact V j u hu)
  have OO := Lib.hid (show W.ownsRow B 26 3 (.slice a n cap) n (lgC l) from by rw [← hn]; have := O.own; rw [hn] at this ⊢; exact this)
  clear O hx hn V
  go_enter Try.func37, Try.ntmps37
  have w1 : IntKind.i64.wrap ((n : Int) + 1) = (n : Int) + 1 := by rw [IntKind.wrap_i64]; omega
  by_cases hcn : cap = n
  · subst hcn
    go_wp2_with (at_builtin; go_loud (refine wpList_append_at rfl (.tmp 23) (.tmp 24) 27 rfl B 26 i0 (.agg #[.int .i64 0, .int .u64 0, .int .u64 0]) 3 24 Try.underlying27 hi0 hz0 hz1 hz2 rfl (by decide) _ _ _ rfl OO.out _ 1 1 (xC x) rfl rfl (fun e => by cases e) NW.out (xC_one x) (by unfold maxLen; omega) (by omega) hB ?_)
                 intro v2 w2 hown2 hgr2 hat2
                 obtain ⟨a2, cap2, rfl⟩ := own_form hown2
                 have R := Lib.hid (And.intro (OH.out.push (s' := .slice a2 (cap + 1) cap2) HX.out (by rw [HN.out]; exact hown2)) (Keep.grown (F := fun k => (Value.slice a cap cap).ownBlock = some k) (Keep.refl _ W) hgr2 (fun k e => Or.inl e)))
                 clear hown2 hgr2 hat2)
    go_ret
    exact ⟨a2, cap2, rfl, R.out.1, by rw [List.length_append, HN.out]; rfl, R.out.2⟩
  · have hc2 := own_fits OO.out
    go_wp2_with (at_builtin; go_loud (refine wpList_append_at rfl (.tmp 23) (.tmp 24) 27 rfl B 26 i0 (.agg #[.int .i64 0, .int .u64 0, .int .u64 0]) 3 24 Try.underlying27 hi0 hz0 hz1 hz2 rfl (by decide) _ _ _ rfl OO.out _ 1 1 (xC x) rfl rfl (fun e => by cases e) NW.out (xC_one x) (by unfold maxLen; omega) (by omega) hB ?_)
                 intro v2 w2 hown2 hgr2 hat2
                 obtain ⟨a2, cap2, rfl⟩ := own_form hown2
                 have R := Lib.hid (And.intro (OH.out.push (s' := .slice a2 (n + 1) cap2) HX.out (by rw [HN.out]; exact hown2)) (Keep.grown (F := fun k => (Value.slice a n cap).ownBlock = some k) (Keep.refl _ W) hgr2 (fun k e => Or.inl e)))
                 clear hown2 hgr2 hat2)
    go_ret
    exact ⟨a2, cap2, rfl, R.out.1, by rw [List.length_append, HN.out]; rfl, R.out.2⟩

theorem setL_ins {l : List Le} {x : Le} {i : Nat} (hi : i ≤ l.length) (ex : List Value) (hex : ex.length = 3) :
    setL (setL (lgC l ++ ex) ((i + 1) * 3) ((lgC l).drop (i * 3))) (i * 3) (xC x) = lgC (l.take i ++ x :: l.drop i) := by
  have hL := lgC_len l
  have hd : ((lgC l).drop (i * 3)).length = l.length * 3 - i * 3 := by rw [List.length_drop, hL]
  have hx : (xC x).length = 3 := rfl
  have e1 : setL (lgC l ++ ex) ((i + 1) * 3) ((lgC l).drop (i * 3)) = (lgC l ++ ex).take ((i + 1) * 3) ++ (lgC l).drop (i * 3) := by
    have e0 : (lgC l ++ ex).drop ((i + 1) * 3 + ((lgC l).drop (i * 3)).length) = [] := List.drop_eq_nil_of_le (by rw [hd, List.length_append, hL, hex]; omega)
    rw [setL_eq _ _ _ (by rw [hd, List.length_append, hL, hex]; omega), e0, List.append_nil]
  rw [e1, setL_eq _ _ _ (by rw [hx, List.length_append, List.length_take, List.length_append, hL, hex, hd]; omega), hx, show i * 3 + 3 = (i + 1) * 3 by omega]
  have e2 : ((lgC l ++ ex).take ((i + 1) * 3) ++ (lgC l).drop (i * 3)).take (i * 3) = (lgC l).take (i * 3) := by
    rw [List.take_append_of_le_length (by rw [List.length_take, List.length_append, hL, hex]; omega), List.take_take, Nat.min_eq_left (by omega), List.take_append_of_le_length (by rw [hL]; omega)]
  have e3 : ((lgC l ++ ex).take ((i + 1) * 3) ++ (lgC l).drop (i * 3)).drop ((i + 1) * 3) = (lgC l).drop (i * 3) := by
    have : ((lgC l ++ ex).take ((i + 1) * 3)).length = (i + 1) * 3 := by rw [List.length_take, List.length_append, hL, hex]; omega
    rw [List.drop_append_of_le_length (by omega), List.drop_eq_nil_of_le (by omega), List.nil_append]
  rw [e2, e3, lgC_take, lgC_drop, lgC_append, lgC_cons, List.append_assoc]
  rfl

set_option maxRecDepth 20000 in
set_option maxHeartbeats 4000000 in
/-- In place: there is room. -/
theorem insert_room {B : Nat} {W : World} {b n cap : Nat} {l : List Le} (O : OwnLg 26 B W (.slice (some ⟨b, 0, none⟩) n cap) l) (hn : l.length = n) (hl : n ≤ 1000000) {i : Nat} (hi : i < n) (hc : n + 1 ≤ cap) {x : Le} (hx : OkX x) {vb : Nat} (V : ∀ j u, (xC x)[j]? = some u → W.cell? ⟨vb, j, none⟩ = some u) (hvb : vb ≠ b) {tA : TypeId} {kA : Nat} (hsa : W.shape? vb = some (tA, kA)) (hf : ∀ j, W.frozen? ⟨vb, j, none⟩ = false) :
    Calls Try.prog 37 #[.slice (some ⟨b, 0, none⟩) n cap, .int .i64 (i : Nat), .slice (some ⟨vb, 0, none⟩) 1 1] W (InsPost B W (some b) (l.take i ++ x :: l.drop i) (n + 1)) := by
  obtain ⟨i0, hi0, hz0, hz1, hz2⟩ := info_x Try.infoT
  have OO : W.ownsRow B 26 3 (.slice (some ⟨b, 0, none⟩) n cap) n (lgC l) := by have := O.own; rw [hn] at this; exact this
  have hmax : cap ≤ maxLen := (O.at hn).fit.2
  unfold maxLen at hmax
  obtain ⟨ex, OM⟩ := own_more OO (Nat.le_succ n) hc
  have hex : ex.length = 3 := by have := OM.1; rw [List.length_append, lgC_len, hn] at this; omega
  have hsz : (Try.prog.info? 26).map (·.size) = some 3 := by rw [hi0]; simp [hz1]
  have hov : ∀ lb cb, (callFunc 58 #[.slice (some ⟨vb, 0, none⟩) 1 1, .slice (some ⟨b, (i + 1) * 3, none⟩) lb cb]).run Try.prog W = .ok (.value (.bool false)) W := fun lb cb => by
    rw [run_callFunc_extern Try.func58 (by kernel_rfl) (by kernel_rfl) (by kernel_rfl) (e := Extern.SlicesOverlaps.overlaps #[27, 27] #[4]) (by kernel_rfl),
      Lib.run_overlaps_apart W 27 4 26 Try.underlying27 3 (fun w => by kernel_rfl) ⟨vb, 0, none⟩ ⟨b, (i + 1) * 3, none⟩ 1 1 lb cb hvb tA 26 kA (cap * 3) hsa (own_shape OO) (by omega) (hf 0) (hf kA)]
    rfl
  have hdl : ((lgC l).drop (i * 3)).length = (n - i) * 3 := by rw [List.length_drop, lgC_len, hn]; omega
  have hw1 : IntKind.i64.wrap ((i : Int) + 1) = (i : Int) + 1 := by rw [IntKind.wrap_i64]; omega
  have hw2 : IntKind.i64.wrap ((n : Int) + 1) = (n : Int) + 1 := by rw [IntKind.wrap_i64]; omega
  have hb1 : (0 : Int) ≤ (i : Int) + 1 := by omega
  have hz2 : ¬ ((i : Int) = (n : Int)) := by omega
  have hz3 : ¬ ((n : Int) + 1 > (cap : Int)) := by omega
  have hin : i ≤ n := by omega
  have htn : ((i : Int) + 1).toNat = i + 1 := by omega
  have hb2 : ¬ (cap = i + 1) := by omega
  have hb3 : (i : Int) ≤ (n : Int) + 1 := by omega
  have hb4 : ¬ (cap = i) := by omega
  have hlen : (lgC l ++ ex).length = (n + 1) * 3 := OM.1
  have hsp : ∀ j, j < (n + 1) * 3 → (W.drew.cell? ⟨b, j, none⟩).isSome = true := fun j hj => by
    have h1 : W.cell? ⟨b, j, none⟩ = _ := OM.cellAt j hj
    rw [show W.drew.cell? ⟨b, j, none⟩ = W.cell? ⟨b, j, none⟩ from rfl, h1, List.getElem?_eq_getElem (by omega)]; rfl
  have hcp1 : ∀ ty dc sc, (Builtin.copy_ #[27, 27] ty #[.slice (some ⟨b, (i + 1) * 3, none⟩) (n + 1 - (i + 1)) dc, .slice (some ⟨b, i * 3, none⟩) (n + 1 - i) sc]).run Try.prog W.drew = .ok (goInt ((n - i : Nat) : Int)) (W.drew.setCells b ((i + 1) * 3) ((lgC l).drop (i * 3))) := fun ty dc sc =>
    run_copy_many W.drew _ _ ty 26 3 b ((i + 1) * 3) (n + 1 - (i + 1)) dc ⟨b, i * 3, none⟩ (n + 1 - i) sc ((lgC l).drop (i * 3)) Try.underlying27 hsz (by simp only [Nat.min_def]; split <;> omega) hdl
      (fun j v hj => by
        rw [List.getElem?_drop] at hj
        rw [Addr.add_lit]
        have hlt : i * 3 + j < (lgC l).length := by
          rcases Nat.lt_or_ge (i * 3 + j) (lgC l).length with h3 | h3
          · exact h3
          · rw [List.getElem?_eq_none h3] at hj; cases hj
        rw [lgC_len, hn] at hlt
        exact (OO.cellAt (i * 3 + j) hlt).trans hj)
      (fun j hj => hsp _ (by omega)) (fun j hj => OM.frozenAt _) (fun v hv => lgC_one l v (List.mem_of_mem_drop hv))
  have OD : W.drew.ownsRow B 26 3 (.slice (some ⟨b, 0, none⟩) (n + 1) cap) (n + 1) (lgC l ++ ex) := own_below OM (drew_below W)
  obtain ⟨O1, K1⟩ := own_sets ((lgC l).drop (i * 3)) (lgC l ++ ex) ((i + 1) * 3) W.drew OD
  have hvl : vb < W.heap.size := cell_lt (V 0 _ rfl)
  obtain ⟨W1, hW1⟩ : ∃ W1, W1 = W.drew.setCells b ((i + 1) * 3) ((lgC l).drop (i * 3)) := ⟨_, rfl⟩
  rw [← hW1] at O1 K1 hcp1
  have hcp2 : ∀ ty dc, (Builtin.copy_ #[27, 27] ty #[.slice (some ⟨b, i * 3, none⟩) (n + 1 - i) dc, .slice (some ⟨vb, 0, none⟩) 1 1]).run Try.prog W1 = .ok (goInt 1) (W1.setCells b (i * 3) (xC x)) := fun ty dc =>
    run_copy_many W1 _ _ ty 26 3 b (i * 3) (n + 1 - i) dc ⟨vb, 0, none⟩ 1 1 (xC x) Try.underlying27 hsz (by simp only [Nat.min_def]; split <;> omega) rfl
      (fun j v hj => by
        rw [Addr.add_lit, Nat.zero_add]
        exact (K1.cell (p := ⟨vb, j, none⟩) hvl (fun e => hvb e)).trans (V j v hj))
      (fun j hj => by
        have hj3 : j < 3 := hj
        have hlt : i * 3 + j < (n + 1) * 3 := by omega
        have h1 := O1.cellAt (i * 3 + j) hlt
        rw [h1, List.getElem?_eq_getElem (by rw [setL_len]; omega)]; rfl)
      (fun j hj => O1.frozenAt _) (xC_one x)
  obtain ⟨O2, K2⟩ := own_sets (xC x) _ (i * 3) W1 O1
  rw [setL_ins (by omega) ex hex] at O2
  have R := Lib.hid (show InsPost B W (some b) (l.take i ++ x :: l.drop i) (n + 1) (.returned (.slice (some ⟨b, 0, none⟩) (n + 1) cap)) (W1.setCells b (i * 3) (xC x)) from
    ⟨_, _, rfl, ⟨by rw [ins_len l x (by omega), hn]; exact O2, ins_ok O.ok hx⟩, by rw [ins_len l x (by omega), hn], ((Keep.refl (fun k => some b = some k) W).drew.trans (K1.mono (fun k e => by rw [e])) (fun _ _ e => e)).trans (K2.mono (fun k e => by rw [e])) (fun _ _ e => e)⟩)
  clear OD O1 K1 O2 K2 hW1 hsp hlen OM OO hex hdl hsz hsa hf V hx O hvb hvl hn
  go_enter Try.func37, Try.ntmps37
  go_wp2_with (simp only [hov])
  go_region_law (refine step_copy_runI rfl _ _ 27 27 rfl _ _ (by simp [Act.eval, Act.put]; rfl) (by simp [Act.eval, Act.put]; rfl) (hcp1 _ _ _) ?_)
  go_wp2_with (at_builtin; refine wpList_copy_runI _ rfl _ _ 27 27 rfl _ _ rfl rfl (hcp2 _ _) ?_)
  go_ret
  exact R.out

end Go.Proofs.Ytbmpeadoicjpnaa

/-
  slices.Insert at entries: in a new row.
-/
namespace Go.Proofs.Ytbmpeadoicjpnaa
open Go.RowKit Go.Sort

theorem setL_grow {l : List Le} {x : Le} {i n : Nat} (hn : l.length = n) (hi : i ≤ n) (z : List Value) (hz : (lgC (l.take i) ++ z).length = (n + 1) * 3) :
    setL (setL (lgC (l.take i) ++ z) (i * 3) (xC x)) ((i + 1) * 3) ((lgC l).drop (i * 3)) = lgC (l.take i ++ x :: l.drop i) := by
  have hL : (lgC l).length = n * 3 := by rw [lgC_len, hn]
  have hT : (lgC (l.take i)).length = i * 3 := by rw [lgC_len, List.length_take, hn, Nat.min_eq_left hi]
  have hd : ((lgC l).drop (i * 3)).length = n * 3 - i * 3 := by rw [List.length_drop, hL]
  have hx : (xC x).length = 3 := rfl
  have e1 : setL (lgC (l.take i) ++ z) (i * 3) (xC x) = lgC (l.take i) ++ xC x ++ (lgC (l.take i) ++ z).drop (i * 3 + 3) := by
    rw [setL_eq _ _ _ (by rw [hx, hz]; omega), hx, List.take_append_of_le_length (by omega), List.take_of_length_le (by omega)]
  have hl1 : (lgC (l.take i) ++ xC x ++ (lgC (l.take i) ++ z).drop (i * 3 + 3)).length = (n + 1) * 3 := by
    rw [← e1, setL_len, hz]
  have e2 : (lgC (l.take i) ++ xC x ++ (lgC (l.take i) ++ z).drop (i * 3 + 3)).take ((i + 1) * 3) = lgC (l.take i) ++ xC x := by
    rw [List.take_append_of_le_length (by rw [List.length_append, hT, hx]; omega), List.take_of_length_le (by rw [List.length_append, hT, hx]; omega)]
  have e3 : (lgC (l.take i) ++ xC x ++ (lgC (l.take i) ++ z).drop (i * 3 + 3)).drop ((i + 1) * 3 + ((lgC l).drop (i * 3)).length) = [] := List.drop_eq_nil_of_le (by rw [hl1, hd]; omega)
  rw [e1, setL_eq _ _ _ (by rw [hl1, hd]; omega), e2, e3, List.append_nil, lgC_drop, lgC_append, lgC_cons, List.append_assoc]
  rfl

set_option maxRecDepth 20000 in
set_option maxHeartbeats 4000000 in
/-- In a new row. -/
theorem insert_grow {B : Nat} {W : World} {b n cap : Nat} {l : List Le} (O : OwnLg 26 B W (.slice (some ⟨b, 0, none⟩) n cap) l) (hn : l.length = n) (hl : n ≤ 1000000) (hB : B ≤ W.heap.size) {i : Nat} (hi : i < n) (hc : cap < n + 1) {x : Le} (hx : OkX x) {vb : Nat} (V : ∀ j u, (xC x)[j]? = some u → W.cell? ⟨vb, j, none⟩ = some u) :
    Calls Try.prog 37 #[.slice (some ⟨b, 0, none⟩) n cap, .int .i64 (i : Nat), .slice (some ⟨vb, 0, none⟩) 1 1] W (InsPost B W (some b) (l.take i ++ x :: l.drop i) (n + 1)) := by
  obtain ⟨i0, hi0, hz0, hz1, hz2⟩ := info_x Try.infoT
  have OO : W.ownsRow B 26 3 (.slice (some ⟨b, 0, none⟩) n cap) n (lgC l) := by have := O.own; rw [hn] at this; exact this
  have hnc := own_fits OO
  have hbw : b < W.heap.size := (O.own.lt b rfl).2
  have hvw : vb < W.heap.size := cell_lt (V 0 _ rfl)
  have hsz : (Try.prog.info? 26).map (·.size) = some 3 := by rw [hi0]; simp [hz1]
  have hdl : ((lgC l).drop (i * 3)).length = (n - i) * 3 := by rw [List.length_drop, lgC_len, hn]; omega
  have htl : (lgC (l.take i)).length = i * 3 := by rw [lgC_len, List.length_take, hn]; omega
  have hik : i + (n + 1 - i) = n + 1 := by omega
  have hkk : (n : Int) + 1 - (i : Int) = ((n + 1 - i : Nat) : Int) := by omega
  have hcell : ∀ j v, (lgC l)[j]? = some v → W.cell? ⟨b, j, none⟩ = some v := fun j v hj => by
    have hlt : j < (lgC l).length := by
      rcases Nat.lt_or_ge j (lgC l).length with h3 | h3
      · exact h3
      · rw [List.getElem?_eq_none h3] at hj; cases hj
    rw [lgC_len, hn] at hlt
    exact (OO.cellAt j hlt).trans hj
  have hold : (Builtin.firstCells i0.size i (.slice (some ⟨b, 0, none⟩) i cap)).run Try.prog W.drew = .ok (lgC (l.take i)).toArray W.drew := by
    rw [hz1]
    exact run_firstCells_some W.drew 3 i ⟨b, 0, none⟩ i cap (lgC (l.take i)) htl (fun j v hj => by
      rw [Addr.add_lit, Nat.zero_add]
      rw [← lgC_take, List.getElem?_take] at hj
      split at hj
      · exact hcell j v hj
      · cases hj)
  have hgb : (n + 1) * i0.bytes ≤ 140737488355328 := by rw [hz2]; omega
  have hrz : ∀ ty, (Builtin.append_ #[27, 3] ty #[.slice (some ⟨b, 0, none⟩) i cap, .int .i64 ((n : Int) + 1 - (i : Int))]).run Try.prog W =
      .ok (.slice (some ⟨W.heap.size, 0, none⟩) (n + 1) (grownCap W (n + 1) cap 26)) (W.drew.alloc (.cells ((lgC (l.take i)).toArray ++ Builtin.zeroCells (Value.agg #[.int .i64 0, .int .u64 0, .int .u64 0]).cells (n + 1 - i) ++ Builtin.zeroCells (Value.agg #[.int .i64 0, .int .u64 0, .int .u64 0]).cells (grownCap W (n + 1) cap 26 - (n + 1))) 26)) := fun ty => by
    have h := Lib.run_append_grow_zeros W 27 3 ty 26 i0 _ .i64 .i64 Try.underlying27 Try.underlying3 hi0 hz0 (some ⟨b, 0, none⟩) i cap (lgC (l.take i)) hold (n + 1 - i) (by omega) (by omega) (by omega) (by omega) (by rw [hz2]; omega) (by rw [hik]; exact growslice_fits hc hgb)
    rw [hik] at h
    rw [hkk]
    exact h
  obtain ⟨G, hG⟩ : ∃ G, G = grownCap W (n + 1) cap 26 := ⟨_, rfl⟩
  obtain ⟨Z, hZ⟩ : ∃ Z : List Value, Z = (Builtin.zeroCells (Value.agg #[.int .i64 0, .int .u64 0, .int .u64 0]).cells (n + 1 - i)).toList := ⟨_, rfl⟩
  obtain ⟨ROW, hROW⟩ : ∃ ROW : Array Value, ROW = (lgC (l.take i)).toArray ++ Builtin.zeroCells (Value.agg #[.int .i64 0, .int .u64 0, .int .u64 0]).cells (n + 1 - i) ++ Builtin.zeroCells (Value.agg #[.int .i64 0, .int .u64 0, .int .u64 0]).cells (G - (n + 1)) := ⟨_, rfl⟩
  rw [← hG] at hrz
  rw [← hROW] at hrz
  have hGn : n + 1 ≤ G := by rw [hG]; exact grownCap_ge W _ _ _
  have hGm : G ≤ maxLen := by rw [hG]; exact grownCap_le_maxLen W (n + 1) cap 26 (by unfold maxLen; omega)
  have hG63 : G ≤ 9223372036854775807 := by unfold maxLen at hGm; omega
  have hZl : Z.length = (n + 1 - i) * 3 := by rw [hZ]; simp [Builtin.zeroCells, Value.cells]
  have hRs : ROW.size = G * 3 := by
    rw [hROW]
    simp [Builtin.zeroCells, Value.cells, htl]
    omega
  have hzl : (lgC (l.take i) ++ Z).length = (n + 1) * 3 := by rw [List.length_append, htl, hZl]; omega
  have hRt : ROW.toList.take ((n + 1) * 3) = lgC (l.take i) ++ Z := by
    have e : ROW.toList = (lgC (l.take i) ++ Z) ++ (Builtin.zeroCells (Value.agg #[.int .i64 0, .int .u64 0, .int .u64 0]).cells (G - (n + 1))).toList := by
      rw [hROW, hZ]; simp
    rw [e, List.take_append_of_le_length (by omega), List.take_of_length_le (by omega)]
  obtain ⟨W1, hW1⟩ : ∃ W1, W1 = W.drew.alloc (.cells ROW 26) := ⟨_, rfl⟩
  rw [← hW1] at hrz
  have hb1 : Below W.heap.size W W1 := by rw [hW1]; exact below_alloc (drew_below W) _
  have O1 : W1.ownsRow B 26 3 (.slice (some ⟨W.heap.size, 0, none⟩) (n + 1) G) (n + 1) (lgC (l.take i) ++ Z) := by
    rw [hW1, ← hRt]
    exact own_new W.drew ROW hB hGn hGm hRs
  obtain ⟨O2, K2⟩ := own_sets (xC x) _ (i * 3) W1 O1
  obtain ⟨O3, K3⟩ := own_sets ((lgC l).drop (i * 3)) _ ((i + 1) * 3) _ O2
  rw [setL_grow hn (by omega) Z hzl] at O3
  have hvN : vb ≠ W.heap.size := by omega
  have hbN : b ≠ W.heap.size := by omega
  have hcpA : ∀ ty dc, (Builtin.copy_ #[27, 27] ty #[.slice (some ⟨W.heap.size, i * 3, none⟩) (n + 1 - i) dc, .slice (some ⟨vb, 0, none⟩) 1 1]).run Try.prog W1 = .ok (goInt 1) (W1.setCells W.heap.size (i * 3) (xC x)) := fun ty dc =>
    run_copy_many W1 _ _ ty 26 3 W.heap.size (i * 3) (n + 1 - i) dc ⟨vb, 0, none⟩ 1 1 (xC x) Try.underlying27 hsz (by simp only [Nat.min_def]; split <;> omega) rfl
      (fun j v hj => by
        rw [Addr.add_lit, Nat.zero_add]
        exact cell_go (V j v hj) hb1)
      (fun j hj => by
        have hj3 : j < 3 := hj
        have hlt : i * 3 + j < (n + 1) * 3 := by omega
        rw [O1.cellAt (i * 3 + j) hlt, List.getElem?_eq_getElem (by omega)]; rfl)
      (fun j hj => O1.frozenAt _) (xC_one x)
  obtain ⟨W2, hW2⟩ : ∃ W2, W2 = W1.setCells W.heap.size (i * 3) (xC x) := ⟨_, rfl⟩
  rw [← hW2] at O2 K2 O3 K3 hcpA
  have hcpB : ∀ ty dc sc, (Builtin.copy_ #[27, 27] ty #[.slice (some ⟨W.heap.size, (i + 1) * 3, none⟩) (n + 1 - (i + 1)) dc, .slice (some ⟨b, i * 3, none⟩) (n - i) sc]).run Try.prog W2.drew = .ok (goInt ((n - i : Nat) : Int)) (W2.drew.setCells W.heap.size ((i + 1) * 3) ((lgC l).drop (i * 3))) := fun ty dc sc =>
    run_copy_many W2.drew _ _ ty 26 3 W.heap.size ((i + 1) * 3) (n + 1 - (i + 1)) dc ⟨b, i * 3, none⟩ (n - i) sc ((lgC l).drop (i * 3)) Try.underlying27 hsz (by simp only [Nat.min_def]; split <;> omega) hdl
      (fun j v hj => by
        rw [List.getElem?_drop] at hj
        rw [Addr.add_lit]
        exact (K2.cell (p := ⟨b, i * 3 + j, none⟩) (Nat.lt_of_lt_of_le hbw hb1.size) (fun e => hbN e)).trans (cell_go (hcell _ v hj) hb1))
      (fun j hj => by
        have hlt : (i + 1) * 3 + j < (n + 1) * 3 := by omega
        have h1 : W2.cell? ⟨W.heap.size, (i + 1) * 3 + j, none⟩ = _ := O2.cellAt _ hlt
        rw [show W2.drew.cell? ⟨W.heap.size, (i + 1) * 3 + j, none⟩ = W2.cell? ⟨W.heap.size, (i + 1) * 3 + j, none⟩ from rfl, h1, List.getElem?_eq_getElem (by rw [setL_len]; omega)]; rfl)
      (fun j hj => O2.frozenAt _) (fun v hv => lgC_one l v (List.mem_of_mem_drop hv))
  have O4 : (W2.drew.setCells W.heap.size ((i + 1) * 3) ((lgC l).drop (i * 3))).ownsRow B 26 3 (.slice (some ⟨W.heap.size, 0, none⟩) (n + 1) G) (n + 1) (lgC (l.take i ++ x :: l.drop i)) := by
    rw [← drew_setCells]
    exact own_below O3 (drew_below _)
  have K4 : Keep (fun k => some b = some k) W (W2.drew.setCells W.heap.size ((i + 1) * 3) ((lgC l).drop (i * 3))) := by
    rw [← drew_setCells]
    have h1 : Keep (fun k => k = W.heap.size) W W2 := (Keep.ofBelow hb1).trans K2 (fun _ _ e => e)
    have h2 := (h1.trans K3 (fun _ _ e => e)).drew
    exact ⟨h2.os, h2.tape, h2.output, h2.size, fun k hk _ => h2.block k hk (fun e => by omega)⟩
  have R := Lib.hid (show InsPost B W (some b) (l.take i ++ x :: l.drop i) (n + 1) (.returned (.slice (some ⟨W.heap.size, 0, none⟩) (n + 1) G)) (W2.drew.setCells W.heap.size ((i + 1) * 3) ((lgC l).drop (i * 3))) from
    ⟨_, _, rfl, ⟨by rw [ins_len l x (by omega), hn]; exact O4, ins_ok O.ok hx⟩, by rw [ins_len l x (by omega), hn], K4⟩)
  have hGi : ¬ (G = i) := by omega
  have hGim : ¬ (G = i + 1) := by omega
  have hci : ¬ (cap = i) := by omega
  have hw1 : IntKind.i64.wrap ((i : Int) + 1) = (i : Int) + 1 := by rw [IntKind.wrap_i64]; omega
  have hw2 : IntKind.i64.wrap ((n : Int) + 1) = (n : Int) + 1 := by rw [IntKind.wrap_i64]; omega
  have hw3 : IntKind.i64.wrap ((n : Int) + 1 - (i : Int)) = (n : Int) + 1 - (i : Int) := by rw [IntKind.wrap_i64]; omega
  have hz2 : ¬ ((i : Int) = (n : Int)) := by omega
  have hz3 : (cap : Int) < (n : Int) + 1 := by omega
  have hp1 : (0 : Int) ≤ (i : Int) + 1 := by omega
  have htn : ((i : Int) + 1).toNat = i + 1 := by omega
  have hin : i ≤ n := by omega
  have hb3 : (i : Int) ≤ (n : Int) := by omega
  have hcap : i ≤ cap := by omega
  have hrz' : ∀ ty, (Builtin.append_ #[27, 3] ty #[.slice (some ⟨b, 0, none⟩) i cap, .int .i64 ((n : Int) + 1 - (i : Int))]).run Try.prog W = .ok (.slice (some ⟨W.heap.size, 0, none⟩) (n + 1) G) (W.alloc (.cells ROW 26)).drew := fun ty => by rw [hrz ty, hW1]; rfl
  have hcpA' : ∀ ty dc, (Builtin.copy_ #[27, 27] ty #[.slice (some ⟨W.heap.size, i * 3, none⟩) (n + 1 - i) dc, .slice (some ⟨vb, 0, none⟩) 1 1]).run Try.prog (W.alloc (.cells ROW 26)).drew = .ok (goInt 1) W2 := fun ty dc => by
    have := hcpA ty dc
    rw [hW1] at this
    exact this
  clear O1 O2 O3 O4 K2 K3 K4 hkk hik hold hROW hG hRs hRt hzl hZl hZ hgb htl hdl hcell OO O V hsz hrz
  go_enter Try.func37, Try.ntmps37
  clear hcpA hW1 hW2
  go_wp2_with (first
    | (at_builtin; refine Lib.wpList_append_run _ rfl _ _ _ _ rfl _ _ rfl rfl _ _ (hrz' _) ?_)
    | (at_builtin; refine wpList_copy_runI _ rfl _ _ 27 27 rfl _ _ rfl rfl (hcpA' _ _) ?_))
  trace_state
  go_region_law (refine step_copy_runI rfl _ _ 27 27 rfl _ _ (by simp [Act.eval, Act.put]; rfl) (by simp [Act.eval, Act.put]; rfl) (hcpB _ _ _) ?_)
  go_wp2_with fail
  go_ret
  exact R.out

end Go.Proofs.Ytbmpeadoicjpnaa
