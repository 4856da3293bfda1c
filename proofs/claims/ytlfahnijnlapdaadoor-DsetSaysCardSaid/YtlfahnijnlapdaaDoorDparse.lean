/-
  What a text tells: the program's own reader.
-/
import Derived.Test.YtlfahnijnlapdaaDoorDpars
import Derived.Deep.RegionWith
namespace Go.Proofs.YtlfahnijnlapdaaDoor
open Go.RowKit Go.Shelf

attribute [local go_sem] Oper.semAt_some

theorem trim_any (s : ByteArray) (w : World) (hs : s.size ≤ 1000) :
    Calls Tryd.prog 26 #[.string s, .string ⟨#[123, 125]⟩] w fun e w' => e = .returned (.string (bytesOf (Lib.trimS s.data.toList [123, 125]))) ∧ Below w.heap.size w w' :=
  Any.strings_Trim_laid Tryd.lays160 (by kernel_rfl) s ⟨#[123, 125]⟩ w (by omega) (by decide) (ascii_of_all (by decide))

/-- What a piece tells: a number, or an error that isn't nil. -/
def AtoiPost (x : ByteArray) (w : World) (e : Ending) (w' : World) : Prop :=
  ((∃ v, Lib.atoiAll x.data.toList = .ok v ∧ e = .returned (.tuple #[.int .i64 v, .nilIface])) ∨
   ((∀ v, Lib.atoiAll x.data.toList ≠ .ok v) ∧ ∃ v q, e = .returned (.tuple #[.int .i64 v, .iface 81 (.pointer (some ⟨q, 0, none⟩))]))) ∧ Below w.heap.size w w'

theorem atoi_any (x : ByteArray) (w : World) (hx : x.size ≤ 1000) (hG : Good w) : Calls Tryd.prog 27 #[.string x] w (AtoiPost x w) := by
  cases h : Lib.atoiAll x.data.toList with
  | ok v =>
    refine (Tryd.strconv_Atoi_ok x (by omega) v h w).mono ?_
    rintro e w' ⟨rfl, hw⟩
    refine ⟨Or.inl ⟨v, h, rfl⟩, ?_⟩
    rcases hw with rfl | ⟨t, rfl⟩
    · exact Below.refl _ _
    · exact Lib.bytesWorld_below _ _ _
  | «syntax» =>
    obtain ⟨te, pe, hc⟩ := hG.syn
    refine (Tryd.strconv_Atoi_syntax x (by omega) h _ w hc (Or.inr ⟨te, pe, rfl⟩)).mono ?_
    rintro e w' ⟨q, rfl, _, _, hb⟩
    exact ⟨Or.inr ⟨fun v e => (by rw [h] at e; cases e), _, q, rfl⟩, hb⟩
  | range =>
    obtain ⟨te, pe, hc⟩ := hG.rng
    refine (Tryd.strconv_Atoi_range x (by omega) h _ w hc (Or.inr ⟨te, pe, rfl⟩)).mono ?_
    rintro e w' ⟨q, rfl, _, _, hb⟩
    exact ⟨Or.inr ⟨fun v e => (by rw [h] at e; cases e), _, q, rfl⟩, hb⟩

theorem cut_len : ∀ (l : List UInt8), ∀ p ∈ cutN l, p.length ≤ l.length
  | [], p, h => by simp [cutN] at h; simp [h]
  | c :: r, p, h => by
    have ih := cut_len r
    by_cases hc : c = 44
    · rw [cut_at hc] at h
      rcases List.mem_cons.1 h with rfl | h
      · simp
      · have := ih p h; simp; omega
    · rw [cut_in hc] at h
      cases hr : cutN r with
      | nil => exact absurd hr (cutN_ne r)
      | cons q l =>
        rw [hr] at h ih
        rcases List.mem_cons.1 h with rfl | h
        · have := ih q (by simp); simp; omega
        · have := ih p (List.mem_cons_of_mem _ h); simp; omega
theorem pieces_size {s x : ByteArray} (h : x ∈ piecesB s) : x.size ≤ s.size := by
  obtain ⟨p, hp, rfl⟩ := List.mem_map.1 h
  have := cut_len _ p hp
  rw [Lib.size_eq s]
  exact this
theorem trim_len (t : List UInt8) (cs : List UInt8) : (Lib.trimS t cs).length ≤ t.length := by
  unfold Lib.trimS Lib.trimLeftS Lib.trimRightS
  have h1 := (List.dropWhile_sublist (cs.contains ·) (l := (t.reverse.dropWhile (cs.contains ·)).reverse)).length_le
  have h2 := (List.dropWhile_sublist (cs.contains ·) (l := t.reverse)).length_le
  simp only [List.length_reverse] at h1 h2
  omega

/-- What the first pieces tell. -/
def foldB (l : List ByteArray) : Nat := (l.map fun x => x.data.toList).foldl accN 0
theorem foldB_snoc (l : List ByteArray) (x : ByteArray) : foldB (l ++ [x]) = accN (foldB l) x.data.toList := by
  unfold foldB; rw [List.map_append, List.foldl_append]; rfl
theorem foldB_lt (l : List ByteArray) : foldB l < 18446744073709551616 := accs_lt _ 0 (by decide)
theorem foldB_all (t : List UInt8) : foldB (piecesB (bytesOf (Lib.trimS t [123, 125]))) = setN t := by
  unfold foldB piecesB setN
  rw [List.map_map]
  congr 1
  exact List.map_id _

/-- What holds between two rounds. -/
def Round (W : World) (pre : List ByteArray) (A : World) : Prop :=
  A.cell? ⟨W.heap.size, 0, none⟩ = some (.int .u64 (foldB pre : Nat)) ∧ A.frozen? ⟨W.heap.size, 0, none⟩ = false ∧ Below W.heap.size W A
theorem Round.but {W A B : World} {N bs : Nat} {pre : List ByteArray} (h : Round W pre A) (hb : But N bs A B) (h1 : W.heap.size < N) (h2 : W.heap.size < bs) : Round W pre B :=
  ⟨(cell_heap (hb.block _ h1 (by omega))).trans h.1, (frozen_heap (hb.block _ h1 (by omega))).trans h.2.1, h.2.2.trans ⟨hb.os, hb.tape, hb.output, hb.size, fun k hk => hb.block k (by omega) (by omega)⟩⟩
theorem Round.below {W A B : World} {pre : List ByteArray} (h : Round W pre A) (hb : Below A.heap.size A B) : Round W pre B := by
  have hl : W.heap.size < A.heap.size := block_lt_of_cell h.1
  exact ⟨cell_on h.1 hb, (frozen_heap (hb.block _ hl)).trans h.2.1, h.2.2.trans (hb.mono h.2.2.size)⟩
theorem Round.skip {W A B : World} {pre : List ByteArray} {x : ByteArray} (h : Round W pre A) (hb : Below A.heap.size A B) (hno : ∀ v, Lib.atoiAll x.data.toList ≠ .ok v) : But A.heap.size W.heap.size A B ∧ Round W (pre ++ [x]) B := by
  refine ⟨But.below hb (Nat.le_refl _), ?_⟩
  have e : foldB (pre ++ [x]) = foldB pre := by
    rw [foldB_snoc]
    unfold accN
    cases ha : Lib.atoiAll x.data.toList with
    | ok v => exact absurd ha (hno v)
    | «syntax» => rfl
    | range => rfl
  unfold Round
  rw [e]
  exact h.below hb

theorem Round.store {W A B : World} {pre : List ByteArray} {x : ByteArray} {d : Nat} (h : Round W pre B) (hb : Below A.heap.size A B) (e : foldB (pre ++ [x]) = d) (o : Obj) :
    But A.heap.size W.heap.size A ((B.setCell ⟨W.heap.size, 0, none⟩ (.int .u64 (d : Nat))).alloc o).drew ∧ Round W (pre ++ [x]) ((B.setCell ⟨W.heap.size, 0, none⟩ (.int .u64 (d : Nat))).alloc o).drew := by
  have hl : W.heap.size < B.heap.size := block_lt_of_cell h.1
  have hz : (B.setCell ⟨W.heap.size, 0, none⟩ (.int .u64 (d : Nat))).heap.size = B.heap.size := by show (B.heap.modify _ _).size = _; rw [Array.size_modify]
  have h1 : But A.heap.size W.heap.size A ((B.setCell ⟨W.heap.size, 0, none⟩ (.int .u64 (d : Nat))).alloc o) :=
    ((But.below hb (Nat.le_refl _)).trans (But.store B _)).trans (But.alloc _ _ (by rw [hz]; exact hb.size))
  have hk : ((B.setCell ⟨W.heap.size, 0, none⟩ (.int .u64 (d : Nat))).alloc o).heap[W.heap.size]? = (B.setCell ⟨W.heap.size, 0, none⟩ (.int .u64 (d : Nat))).heap[W.heap.size]? := Below.heap_alloc _ _ _ (by rw [hz]; exact hl)
  refine ⟨⟨h1.os, h1.tape, h1.output, h1.size, h1.block⟩, ?_, ?_, ?_⟩
  · rw [e]
    exact (cell_heap hk).trans (World.cell?_setCell_same' _ _ _ (by rw [h.1]; rfl))
  · exact (frozen_heap hk).trans (by rw [World.frozen?_setCell]; exact h.2.1)
  · have h2 := h.2.2.setCell (p := ⟨W.heap.size, 0, none⟩) (Nat.le_refl _) (.int .u64 (d : Nat))
    have h3 := below_alloc h2 o
    exact ⟨h3.os, h3.tape, h3.output, h3.size, h3.block⟩

theorem of_cell {b : Nat} {p : Int} {W : World} (hp : IntOk p) (hc : W.cell? ⟨b, 0, none⟩ = some (.int .i64 p)) : Calls Tryd.prog 11 #[.slice (some ⟨b, 0, none⟩) 1 1] W fun e w' => e = .returned (.int .u64 (bitN p : Nat)) ∧ W = w' := by
  refine of_end (xs := [p]) ⟨by simp, by unfold maxLen; omega, (fun e => by cases e), fun i hi => ?_⟩ (by simpa using hp) rfl (by simp [ofN])
  have hi0 : i = 0 := by simp at hi; omega
  subst hi0
  exact ⟨b, 0, rfl, block_lt_of_cell hc, hc⟩

theorem of_celln {b : Nat} {p : Int} {g : Nat} {W : World} (hp : IntOk p) (hg : bitN p = g) (hc : W.cell? ⟨b, 0, none⟩ = some (.int .i64 p)) : Calls Tryd.prog 11 #[.slice (some ⟨b, 0, none⟩) 1 1] W fun e w' => e = .returned (.int .u64 (g : Nat)) ∧ W = w' := by
  subst hg; exact of_cell hp hc

def ParsePost (W : World) (s : ByteArray) (e : Ending) (w' : World) : Prop :=
  ∃ (u : Nat) (ok : Bool), e = .returned (.tuple #[.int .u64 (u : Nat), .bool ok]) ∧ Below W.heap.size W w' ∧ (ok = true → u = setN s.data.toList ∧ showN u = s.data.toList) ∧ (ok = false → u = 0 ∧ showN (setN s.data.toList) ≠ s.data.toList)

set_option maxRecDepth 100000 in
set_option maxHeartbeats 4000000 in
theorem parse_any (s : ByteArray) (W : World) (hs : s.size ≤ 1000) (hG : Good W) : Calls Tryd.prog 9 #[.string s] W (ParsePost W s) := by
  refine (callsIn_wide (n := 6)).1 ?_
  refine callsIn_of_wp_marks Tryd.func9 rfl trivial ?_ rfl
  simp only [Tryd.ntmps9, List.size_toArray, List.length_cons, List.length_nil, Nat.reduceAdd, Nat.reduceSub, Array.replicate_succ, Array.replicate_zero, List.push_toArray, List.append_toArray, List.nil_append, List.cons_append]
  gi_wp2
  refine ⟨trivial, ?_⟩
  obtain ⟨W1, hW1⟩ : ∃ W1, W.alloc (.cells #[.int .u64 0] 25) = W1 := ⟨_, rfl⟩
  rw [hW1]
  refine (callsIn_wide.2 (trim_any s W1 hs)).mono ?_
  rintro e W2 ⟨rfl, hb2⟩
  gi_wp2
  refine ⟨trivial, ?_⟩
  refine (callsIn_wide.2 (splitSeq_any _ _ W2)).mono ?_
  rintro e W3 ⟨rfl, hW3⟩
  gi_wp2
  rw [← hW3]
  have hs1 : W1.heap.size = W.heap.size + 1 := by rw [← hW1]; simp
  have hs2 : W.heap.size + 1 ≤ W2.heap.size := by rw [← hs1]; exact hb2.size
  have hs3 : W3.heap.size = W2.heap.size + 3 := by rw [hW3]; simp
  have hTl : (bytesOf (Lib.trimS s.data.toList [123, 125])).size ≤ 1000 := by
    have := trim_len s.data.toList [123, 125]
    rw [Lib.size_eq] at hs
    show (Lib.trimS s.data.toList [123, 125]).length ≤ 1000
    omega
  have HF := Lib.hid (foldB_all s.data.toList)
  generalize hT : bytesOf (Lib.trimS s.data.toList [123, 125]) = T at *
  clear hT
  have hB3 : Boxes W2.heap.size T W3 := by
    rw [hW3]
    exact ⟨by simp [go_sem], by simp [go_sem], by simp [go_sem], by simp [go_sem]⟩
  have hR1 : Round W [] W1 := by
    rw [← hW1]
    exact ⟨by simp [go_sem, foldB], by simp [go_sem], below_alloc (Below.refl _ _) _⟩
  have hR3 : Round W [] W3 := by
    rw [hW3]
    exact (hR1.below hb2).below (below_alloc (below_alloc (below_alloc (Below.refl _ _) _) _) _)
  have G := Lib.hid hG
  clear hG hR1 hW3 hW1 hb2
  refine range_own (F := Fence.wide) (n := 6) rfl (by decide) (gf := 43) (lb := #[.pointer (some ⟨W2.heap.size + 1, 0, none⟩), .pointer (some ⟨W2.heap.size, 0, none⟩), .pointer (some ⟨W2.heap.size + 2, 0, none⟩)]) rfl trivial (enters_of Tryd.func43 (by kernel_rfl) rfl)
    (fun x : ByteArray => #[.string x]) (fun _ => rfl) W2.heap.size W.heap.size (by omega) (by omega) (piecesB T) (Round W) (fun q A B h hb => h.but hb (by omega) (by omega)) hR3 ?seq
    (fun x => { tmps := #[.string s, undef, .int .u64 0, .bool false, .pointer (some ⟨W.heap.size, 0, none⟩), .string x, undef, undef, .string s, .string T,
      .func (.func 43) #[] #[.pointer (some ⟨W2.heap.size + 1, 0, none⟩), .pointer (some ⟨W2.heap.size, 0, none⟩), .pointer (some ⟨W2.heap.size + 2, 0, none⟩)],
      .string x, undef, undef, undef, undef, undef, undef, undef, undef, undef, undef, undef, undef, undef, undef, undef, undef, undef], defers := [] }) ?assign ?body ?done
  case seq =>
    intro J V hJs hY h0 hbut
    exact split1_in 5 (W3.heap.size + 1) W2.heap.size W.heap.size W3.heap.size T hTl (by omega) (by omega) J V hJs hY (hB3.but hbut (by omega) (by omega)) h0
  case assign =>
    intro x V K hK
    gi_wp2
    exact hK
  case body =>
    intro pre x V hI hpx hlen
    have hx : x.size ≤ 1000 := Nat.le_trans (pieces_size (hpx.subset (by simp))) hTl
    have hGV := G.out.below (hI.2.2)
    have HI := Lib.hid hI
    gi_wp2
    refine ⟨trivial, ?_⟩
    refine (CallsIn.inRound (W3.heap.size + 1) (callsIn_wide.2 (atoi_any x V hx hGV))).mono ?_
    rintro e V2 ⟨(⟨v, hv, rfl⟩ | ⟨hno, v, q, rfl⟩), hb⟩
    · have hI2 := HI.out.below hb
      have hvo := atoi_ok hv
      have c0 := hI2.1
      have f0 := hI2.2.1
      have hcl := foldB_lt pre
      have e2 := or_bit v hcl
      have HI2 := Lib.hid hI2
      have HV := Lib.hid hvo
      have E := Lib.hid (show foldB (pre ++ [x]) = foldB pre ||| bitN v by rw [foldB_snoc]; unfold accN; rw [hv])
      generalize foldB pre ||| bitN v = d at *
      obtain ⟨g, hg⟩ : ∃ g, bitN v = g := ⟨_, rfl⟩
      rw [hg] at e2
      have HG := Lib.hid hg
      clear hg
      generalize foldB pre = c at *
      have hl : W.heap.size < V2.heap.size := block_lt_of_cell c0
      have hne : W.heap.size ≠ V2.heap.size := Nat.ne_of_lt hl
      have d0 : (V2.alloc (.cells #[.int .i64 v] 3)).cell? ⟨W.heap.size, 0, none⟩ = some (.int .u64 (c : Nat)) := (cell_heap (Below.heap_alloc V2 _ _ hl)).trans c0
      have df : (V2.alloc (.cells #[.int .i64 v] 3)).frozen? ⟨W.heap.size, 0, none⟩ = false := (frozen_heap (Below.heap_alloc V2 _ _ hl)).trans f0
      have R := Lib.hid (HI2.out.store hb E.out (.cells #[.int .i64 v] 3))
      have hmx : Tryd.prog.follows .mixedOrders = true := by kernel_rfl
      clear hI2 hvo hv hGV hI
      gi_wp2
      gi_region_with_o (refine ⟨trivial, ?_⟩; gi_at_call 11; refine (CallsIn.inRound (W3.heap.size + 1) (callsIn_wide.2 (of_celln HV.out HG.out (by simp [go_sem])))).mono ?_; rintro e w' ⟨rfl, rfl⟩)
      all_goals gi_wp2
      all_goals exact R.out
    · have R := Lib.hid (HI.out.skip hb hno)
      clear hno hGV hI HI hb
      gi_wp2
      exact R.out
  case done =>
    intro V hI hD
    have c0 := hI.1
    rw [HF.out] at c0
    have hGV := Lib.hid (G.out.below hI.2.2)
    have HI := Lib.hid hI
    have HD := Lib.hid hD
    have hu := setN_lt s.data.toList
    generalize hU : setN s.data.toList = u at *
    have HU := Lib.hid hU
    clear hU
    clear hI hD
    gi_wp2
    refine ⟨trivial, ?_⟩
    refine (callsIn_wide.2 (show_any u V hu hGV.out)).mono ?_
    rintro e V4 ⟨rfl, hb4⟩
    have c4 := cell_on c0 hb4
    have HB4 := Lib.hid hb4
    clear hb4 c0
    have hK : V4.heap[W2.heap.size + 3]? = some (.deferred (some [])) := by
      rw [← hs3]
      exact (HB4.out.block _ (Array.getElem?_eq_some_iff.1 HD.out).1).trans HD.out
    have hBV : Below W.heap.size W (V4.putObj (W2.heap.size + 3) (.deferred none)) :=
      (HI.out.2.2.trans (HB4.out.mono HI.out.2.2.size)).trans ⟨rfl, rfl, rfl, by simp, fun k hk => World.putObj_heap_other (by omega)⟩
    have HBV := Lib.hid hBV
    clear hBV
    by_cases he : showN u = s.data.toList
    · have hq : (showN u == s.toList) = true := by rw [Lib.toList_data, he]; simp
      have HE := Lib.hid he
      clear he
      gi_wp2
      refine ⟨by simp, .inl ⟨_, _, rfl, run_takeDeferred hK, ?_⟩⟩
      exact ⟨_, results_tmp2 rfl _ _ _, u, true, rfl, HBV.out, fun _ => ⟨HU.out.symm, HE.out⟩, fun h => by cases h⟩
    · have hq : (showN u == s.toList) = false := by rw [Lib.toList_data]; simpa using he
      have HE := Lib.hid he
      clear he
      gi_wp2
      refine ⟨by simp, .inl ⟨_, _, rfl, run_takeDeferred hK, ?_⟩⟩
      exact ⟨_, results_tmp2 rfl _ _ _, 0, false, rfl, HBV.out, fun h => (by cases h), fun _ => ⟨rfl, by rw [HU.out]; exact HE.out⟩⟩

end Go.Proofs.YtlfahnijnlapdaaDoor
