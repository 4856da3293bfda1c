/-
  Two runs made one.
-/
import Derived.Test.YtlbbbabieepabaaMrep
import Derived.Deep.AppendLies
import Derived.Deep.QuietTactic
import Derived.BigQuiet
import Derived.Deep.RegionLaw
import Derived.Laws.AppendOwnNone
namespace Go.Proofs.Ytlbbbabieepabaa
open Go.RowKit

def leB (a b : Nat) : Bool := decide (a ≤ b)
def mergeN (xs ys : List Nat) : List Nat := xs.merge ys leB
theorem mergeN_up {xs ys : List Nat} (hx : xs.Pairwise (· ≤ ·)) (hy : ys.Pairwise (· ≤ ·)) : (mergeN xs ys).Pairwise (· ≤ ·) := by
  have e : ∀ l : List Nat, l.Pairwise (fun a b => leB a b = true) ↔ l.Pairwise (· ≤ ·) := fun l => by unfold leB; simp
  rw [← e]
  exact List.pairwise_merge (fun a b c => by unfold leB; simp; omega) (fun a b => by unfold leB; simp; omega) _ _ ((e _).2 hx) ((e _).2 hy)
theorem mergeN_perm (xs ys : List Nat) : (mergeN xs ys).Perm (xs ++ ys) := List.merge_perm_append leB
theorem mergeN_len (xs ys : List Nat) : (mergeN xs ys).length = xs.length + ys.length := List.length_merge ..
theorem mergeN_l (x y : Nat) (xs ys : List Nat) (h : x ≤ y) : mergeN (x :: xs) (y :: ys) = x :: mergeN xs (y :: ys) := by
  unfold mergeN; rw [List.cons_merge_cons, if_pos (by unfold leB; simpa using h)]
theorem mergeN_r (x y : Nat) (xs ys : List Nat) (h : ¬ x ≤ y) : mergeN (x :: xs) (y :: ys) = y :: mergeN (x :: xs) ys := by
  unfold mergeN; rw [List.cons_merge_cons, if_neg (by unfold leB; simpa using h)]

def u64V (x : Nat) : Value := .int .u64 (x : Nat)
def lenV : Value → Nat | .slice _ n _ => n | _ => 0

/-- What is left of a run. -/
structure RestAt (w : World) (b o : Nat) (ks : List Nat) : Prop where
  inb : b < w.heap.size
  cell : ∀ i (h : i < ks.length), w.cell? ⟨b, o + i, none⟩ = some (u64V ks[i])

def MRel (W : World) (ba bb : Nat) (xs ys : List Nat) (a b l : Value) (w : World) : Prop :=
  ∃ xs' ys' ms oa ob ca cb, a = .slice (some ⟨ba, oa, none⟩) xs'.length ca ∧ xs'.length ≤ ca ∧ ca ≤ maxLen ∧ RestAt W ba oa xs' ∧ b = .slice (some ⟨bb, ob, none⟩) ys'.length cb ∧ ys'.length ≤ cb ∧ cb ≤ maxLen ∧ RestAt W bb ob ys' ∧
    (∃ g c, l = .slice (some ⟨g, 0, none⟩) ms.length c) ∧ w.ownsRow W.heap.size 54 1 l ms.length (ms.map u64V) ∧ Below W.heap.size W w ∧ ms ++ mergeN xs' ys' = mergeN xs ys ∧ ms.length + xs'.length + ys'.length ≤ 200 ∧ 0 < xs'.length + ys'.length

theorem Try.infoU : (Try.prog.info? 54).map (fun i => (i.zero, i.size, i.bytes)) = some (some (.int .u64 0), 1, 8) := by kernel_rfl

theorem RestAt.head {w : World} {b o x : Nat} {ks : List Nat} (h : RestAt w b o (x :: ks)) : w.cell? ⟨b, o, none⟩ = some (.int .u64 (x : Nat)) := h.cell 0 (by simp)
theorem RestAt.tail {w : World} {b o x : Nat} {ks : List Nat} (h : RestAt w b o (x :: ks)) : RestAt w b (o + 1) ks :=
  ⟨h.inb, fun i hi => by have := h.cell (i + 1) (by simpa using hi); rw [show o + (i + 1) = o + 1 + i by omega] at this; simpa using this⟩

theorem mrel_step {W wr w2 : World} {ba bb oa ob ca cb g c g2 cap2 q : Nat} {xs ys ms xs' ys' : List Nat} {z : Nat} {o : Obj}
    (hx : RestAt W ba oa xs') (hy : RestAt W bb ob ys') (hj : wr.ownsRow W.heap.size 54 1 (.slice (some ⟨g, 0, none⟩) ms.length c) ms.length (ms.map u64V)) (hk : Below W.heap.size W wr)
    (h1 : xs'.length ≤ ca) (h2 : ca ≤ maxLen) (h4 : ys'.length ≤ cb) (h5 : cb ≤ maxLen) (hm : (ms ++ [z]) ++ mergeN xs' ys' = mergeN xs ys) (h10 : ms.length + 1 + xs'.length + ys'.length ≤ 200) (h11 : 0 < xs'.length + ys'.length)
    (hown : w2.ownsRow W.heap.size 54 1 (.slice (some ⟨g2, 0, none⟩) (ms.length + 1) cap2) (ms.length + 1) (ms.map u64V ++ [u64V z])) (hgr : ((wr.drewN q).alloc o).grownBy w2 (Value.slice (some ⟨g, 0, none⟩) ms.length c).ownBlock) :
    MRel W ba bb xs ys (.slice (some ⟨ba, oa, none⟩) xs'.length ca) (.slice (some ⟨bb, ob, none⟩) ys'.length cb) (.slice (some ⟨g2, 0, none⟩) (ms.length + 1) cap2) w2 := by
  have hg : W.heap.size ≤ g := (hj.lt g rfl).1
  have hb : Below W.heap.size W (wr.drewN q) := ⟨hk.os, hk.tape, hk.output, hk.size, hk.block⟩
  refine ⟨xs', ys', ms ++ [z], oa, ob, ca, cb, rfl, h1, h2, hx, rfl, h4, h5, hy, ⟨g2, cap2, by simp⟩, by simpa using hown, (hb.alloc hb.size o).grown hgr (by have := hk.size; simp; omega) (fun k h => ?_), hm, by simp; omega, h11⟩
  obtain rfl : g = k := by simpa [Value.ownBlock] using h
  exact hg

theorem RestAt.same {w : World} {b o x : Nat} {ks : List Nat} (h : RestAt w b o (x :: ks)) (hl : ks.length + 1 ≤ 1) : RestAt w b o ks :=
  ⟨h.inb, fun i hi => by omega⟩

def MergePost (W : World) (xs ys : List Nat) (e : Ending) (w' : World) : Prop :=
  ∃ g c, e = .returned (.slice (some ⟨g, 0, none⟩) (xs.length + ys.length) c) ∧ w'.ownsRow W.heap.size 54 1 (.slice (some ⟨g, 0, none⟩) (xs.length + ys.length) c) (xs.length + ys.length) ((mergeN xs ys).map u64V) ∧ Below W.heap.size W w'

theorem rest_news {W w : World} {b o : Nat} {ks : List Nat} (hb : Below W.heap.size W w) (h : RestAt W b o ks) : ∀ j u, (ks.map u64V)[j]? = some u → w.cell? ((⟨b, o, none⟩ : Addr).add j) = some u := by
  intro j u hu
  have hj : j < ks.length := by
    have := (List.getElem?_eq_some_iff.1 hu).1
    simpa using this
  rw [Addr.add_lit]
  refine (hb.cell (p := ⟨b, o + j, none⟩) h.inb).trans ((h.cell j hj).trans ?_)
  rw [List.getElem?_map, List.getElem?_eq_getElem hj] at hu
  exact hu
theorem ones_u64 (ks : List Nat) : ∀ u ∈ ks.map u64V, u.oneCell' = true := by
  intro u hu
  obtain ⟨x, _, rfl⟩ := List.mem_map.1 hu
  rfl
theorem merge_end {W w3 : World} {xs ys ms l1 l2 : List Nat} {n1 n2 n3 : Nat} {v3 : Value} (hb : Below W.heap.size W w3) (hd : mergeN l1 l2 = l1 ++ l2)
    (hown : w3.ownsRow W.heap.size 54 1 v3 (n1 + n2 + n3) (ms.map u64V ++ l1.map u64V ++ l2.map u64V)) (hm : ms ++ mergeN l1 l2 = mergeN xs ys) (h0 : 0 < l1.length + l2.length) : MergePost W xs ys (.returned v3) w3 := by
  have e : ms.map u64V ++ l1.map u64V ++ l2.map u64V = (mergeN xs ys).map u64V := by rw [← hm, hd]; simp
  have hl : n1 + n2 + n3 = xs.length + ys.length := by
    have := hown.1
    rw [e] at this
    simp [mergeN_len] at this
    omega
  have hl2 : (ms ++ mergeN l1 l2).length = xs.length + ys.length := by rw [hm, mergeN_len]
  rw [e, hl] at hown
  obtain ⟨g, c, rfl, _, _⟩ := hown.form (by rw [← hl2]; simp [mergeN_len]; omega)
  exact ⟨g, c, rfl, hown, hb⟩

set_option maxHeartbeats 2000000 in
theorem merge_any (xs ys : List Nat) (ba oa ca bb ob cb : Nat) (w : World) (hx : RestAt w ba oa xs) (hy : RestAt w bb ob ys) (hxn : xs ≠ []) (_ : ys ≠ []) (hca : xs.length ≤ ca) (hcb : ys.length ≤ cb) (hma : ca ≤ maxLen) (hmb : cb ≤ maxLen) (hn : xs.length + ys.length ≤ 200) :
    Calls Try.prog 48 #[.slice (some ⟨ba, oa, none⟩) xs.length ca, .slice (some ⟨bb, ob, none⟩) ys.length cb] w (MergePost w xs ys) := by
  obtain ⟨i0, hi0, hz0, hz1, hz2⟩ := info_parts Try.infoU
  have hlx : 0 < xs.length := List.length_pos_iff.2 hxn
  have HP : ∀ e w', MergePost w xs ys e w' → MergePost w xs ys e w' := fun _ _ h => h
  have HX := Lib.hid hx
  have HY := Lib.hid hy
  have HMA := Lib.hid hma
  have HMB := Lib.hid hmb
  clear hx hy hxn hma hmb HP
  go_enter Try.func48, Try.ntmps48
  go_wp2_with (first | (refine wpList_make_own _ rfl _ _ 58 rfl w.heap.size 54 i0 (.int .u64 0) 1 Try.underlying58 hi0 hz0 hz1 .i64 .i64 _ (xs.length + ys.length) rfl rfl (by simp) (by rw [hz2]; omega) (by unfold maxLen; omega) (Nat.le_refl _) ?made; intro w1 hown1 hgr1))
  have hb1 : Below w.heap.size w w1 := (Below.refl _ _).grown hgr1 (Nat.le_refl _) (fun k h => by cases h)
  have HB := Lib.hid hb1
  have HO := Lib.hid hown1
  clear hb1 hown1 hgr1
  go_loopw [0, 1, 5] (fun a b l wr => MRel w ba bb xs ys a b l wr) (fun a b _ _ => lenV a + lenV b)
  case atStart => exact ⟨xs, ys, [], oa, ob, ca, cb, rfl, hca, HMA.out, HX.out, rfl, hcb, HMB.out, HY.out, ⟨_, _, rfl⟩, HO.out, HB.out, rfl, by simp; omega, by omega⟩
  case round =>
    obtain ⟨xs', ys', ms, oa', ob', ca', cb', rfl, h1, h2, h3, rfl, h4, h5, h6, ⟨g, c, rfl⟩, h7, h8, h9, h10, h11⟩ := hrel
    have HH := Lib.hid h3
    have HI := Lib.hid h6
    have HM := Lib.hid h9
    have HJ := Lib.hid h7
    have HK := Lib.hid h8
    clear h3 h6 h9 h7 h8
    cases xs' with
    | nil =>
      have dn : mergeN [] ys' = [] ++ ys' := by unfold mergeN; simp
      have HD := Lib.hid dn
      clear dn
      go_wp2_with (first
        | (at_builtin; refine wpList_append_own _ rfl (.tmp 43) (.tmp 44) 58 rfl w.heap.size 54 i0 (.int .u64 0) 1 8 Try.underlying58 hi0 hz0 hz1 hz2 rfl (by decide) _ _ _ rfl HJ.out ⟨ba, oa', none⟩ _ _ (([] : List Nat).map u64V) rfl (by simp) (rest_news HK.out HH.out) (ones_u64 _) (by simp; unfold maxLen; omega) (by simp; omega) (by have := HK.out.size; simp; omega) ?_; intro v2 w2 hown2 hgr2 _
           have hb2 : Below w.heap.size w w2 := HK.out.grown hgr2 HK.out.size (fun k h => (HJ.out.lt k h).1)
           have HO2 := Lib.hid hown2
           have HB2 := Lib.hid hb2
           clear hown2 hgr2 hb2)
        | (at_builtin; refine wpList_append_own _ rfl (.tmp 45) (.tmp 46) 58 rfl w.heap.size 54 i0 (.int .u64 0) 1 8 Try.underlying58 hi0 hz0 hz1 hz2 rfl (by decide) _ _ _ rfl HO2.out ⟨bb, ob', none⟩ _ _ (ys'.map u64V) rfl (by simp) (rest_news HB2.out HI.out) (ones_u64 _) (by simp; unfold maxLen; omega) (by simp; omega) HB2.out.size ?_; intro v3 w3 hown3 hgr3 _
           have hb3 : Below w.heap.size w w3 := HB2.out.grown hgr3 HB2.out.size (fun k h => (HO2.out.lt k h).1)
           have HP : MergePost w xs ys (.returned v3) w3 := merge_end hb3 HD.out hown3 HM.out (by simp at h11 ⊢; omega)
           have HQ := Lib.hid HP
           clear hown3 hgr3 hb3 HP))
      go_ret
      exact HQ.out
    | cons x xt =>
      cases ys' with
      | nil =>
        have dn : mergeN (x :: xt) [] = (x :: xt) ++ [] := by unfold mergeN; rw [List.merge_right]; simp
        have HD := Lib.hid dn
        clear dn
        simp only [List.length_cons] at h1 h10 h11
        have d1 : (0 : Int) < (xt.length : Int) + 1 := by omega
        go_wp2_with (first
          | (at_builtin; refine wpList_append_own _ rfl (.tmp 43) (.tmp 44) 58 rfl w.heap.size 54 i0 (.int .u64 0) 1 8 Try.underlying58 hi0 hz0 hz1 hz2 rfl (by decide) _ _ _ rfl HJ.out ⟨ba, oa', none⟩ _ _ ((x :: xt).map u64V) rfl (by simp) (rest_news HK.out HH.out) (ones_u64 _) (by simp; unfold maxLen; omega) (by simp; omega) (by have := HK.out.size; simp; omega) ?_; intro v2 w2 hown2 hgr2 _
             have hb2 : Below w.heap.size w w2 := HK.out.grown hgr2 HK.out.size (fun k h => (HJ.out.lt k h).1)
             have HO2 := Lib.hid hown2
             have HB2 := Lib.hid hb2
             clear hown2 hgr2 hb2)
          | (at_builtin; refine wpList_append_own _ rfl (.tmp 45) (.tmp 46) 58 rfl w.heap.size 54 i0 (.int .u64 0) 1 8 Try.underlying58 hi0 hz0 hz1 hz2 rfl (by decide) _ _ _ rfl HO2.out ⟨bb, ob', none⟩ _ _ (([] : List Nat).map u64V) rfl (by simp) (rest_news HB2.out HI.out) (ones_u64 _) (by simp; unfold maxLen; omega) (by simp; omega) HB2.out.size ?_; intro v3 w3 hown3 hgr3 _
             have hb3 : Below w.heap.size w w3 := HB2.out.grown hgr3 HB2.out.size (fun k h => (HO2.out.lt k h).1)
             have HP : MergePost w xs ys (.returned v3) w3 := merge_end hb3 HD.out hown3 HM.out (by simp)
             have HQ := Lib.hid HP
             clear hown3 hgr3 hb3 HP))
        go_ret
        exact HQ.out
      | cons y yt =>
        have k1 := (HK.out.cell (p := ⟨ba, oa', none⟩) HH.out.inb).trans HH.out.head
        have k2 := (HK.out.cell (p := ⟨bb, ob', none⟩) HI.out.inb).trans HI.out.head
        simp only [List.length_cons] at h1 h4 h10 h11
        have d1 : (0 : Int) < (xt.length : Int) + 1 := by omega
        have d2 : (0 : Int) < (yt.length : Int) + 1 := by omega
        have d3 : (1 : Int) ≤ (xt.length : Int) + 1 := by omega
        have d4 : (1 : Int) ≤ (yt.length : Int) + 1 := by omega
        by_cases hxy : x ≤ y
        · by_cases hcap : ca' = 1
          · subst hcap
            obtain rfl : xt = [] := List.length_eq_zero_iff.1 (by omega)
            go_wp2_with fail
            go_quiet (fail)
            go_wp2_with fail
            have hown2 : (((wr.drewN nq).drew).alloc (.cells #[u64V x] 54)).ownsRow w.heap.size 54 1 (.slice (some ⟨g, 0, none⟩) ms.length c) ms.length (ms.map u64V) := World.ownsRow.alloc (w := (wr.drewN nq).drew) HJ.out _
            have HO2 := Lib.hid hown2
            clear hown2
            go_region_law (refine step_append_lies _ rfl (.tmp 27) (.tmp 31) 58 rfl w.heap.size 54 i0 (.int .u64 0) 1 8 Try.underlying58 hi0 hz0 hz1 hz2 rfl (by decide) _ _ _ (by simp [Act.eval]) HO2.out ⟨wr.heap.size, 0, none⟩ 1 1 [u64V x] (by simp [Act.eval]) rfl (World.news_of_block (heap_alloc_new _ _)) (by simp [u64V, Value.oneCell']) (by omega) (by unfold maxLen; omega) (by omega) (by have := HK.out.size; simp; omega) _ rfl ?_; intro g2 cap2 w2 hown3 hgr2 hat2 hlt2)
            all_goals
              have HW := Lib.hid hown3
              have HG := Lib.hid hgr2
              clear hown3 hgr2 hat2
              try go_simp
              go_wp2_with fail
              go_roundw
              case rel => exact mrel_step (xs := xs) (ys := ys) (z := x) (HH.out.same (by omega)) HI.out HJ.out HK.out (ca := 0) (by omega) (by omega) (cb := cb') (by simp; omega) h5 (by rw [List.append_assoc, List.singleton_append, ← mergeN_l _ _ _ _ hxy]; exact HM.out) (by simp <;> omega) (by simp <;> omega) HW.out HG.out
              case measure => simp [lenV] <;> omega
          · skip
            go_wp2_with fail
            go_quiet (fail)
            go_wp2_with fail
            have hown2 : (((wr.drewN nq).drew).alloc (.cells #[u64V x] 54)).ownsRow w.heap.size 54 1 (.slice (some ⟨g, 0, none⟩) ms.length c) ms.length (ms.map u64V) := World.ownsRow.alloc (w := (wr.drewN nq).drew) HJ.out _
            have HO2 := Lib.hid hown2
            clear hown2
            go_region_law (refine step_append_lies _ rfl (.tmp 27) (.tmp 31) 58 rfl w.heap.size 54 i0 (.int .u64 0) 1 8 Try.underlying58 hi0 hz0 hz1 hz2 rfl (by decide) _ _ _ (by simp [Act.eval]) HO2.out ⟨wr.heap.size, 0, none⟩ 1 1 [u64V x] (by simp [Act.eval]) rfl (World.news_of_block (heap_alloc_new _ _)) (by simp [u64V, Value.oneCell']) (by omega) (by unfold maxLen; omega) (by omega) (by have := HK.out.size; simp; omega) _ rfl ?_; intro g2 cap2 w2 hown3 hgr2 hat2 hlt2)
            all_goals
              have HW := Lib.hid hown3
              have HG := Lib.hid hgr2
              clear hown3 hgr2 hat2
              try go_simp
              go_wp2_with fail
              go_roundw
              case rel => exact mrel_step (xs := xs) (ys := ys) (z := x) HH.out.tail HI.out HJ.out HK.out (ca := ca' - 1) (by omega) (by omega) (cb := cb') (by simp; omega) h5 (by rw [List.append_assoc, List.singleton_append, ← mergeN_l _ _ _ _ hxy]; exact HM.out) (by simp <;> omega) (by simp <;> omega) HW.out HG.out
              case measure => simp [lenV] <;> omega
        · by_cases hcap : cb' = 1
          · subst hcap
            obtain rfl : yt = [] := List.length_eq_zero_iff.1 (by omega)
            go_wp2_with fail
            go_quiet (fail)
            go_wp2_with fail
            have hown2 : (((wr.drewN nq).drew).alloc (.cells #[u64V y] 54)).ownsRow w.heap.size 54 1 (.slice (some ⟨g, 0, none⟩) ms.length c) ms.length (ms.map u64V) := World.ownsRow.alloc (w := (wr.drewN nq).drew) HJ.out _
            have HO2 := Lib.hid hown2
            clear hown2
            go_region_law (refine step_append_lies _ rfl (.tmp 35) (.tmp 39) 58 rfl w.heap.size 54 i0 (.int .u64 0) 1 8 Try.underlying58 hi0 hz0 hz1 hz2 rfl (by decide) _ _ _ (by simp [Act.eval]) HO2.out ⟨wr.heap.size, 0, none⟩ 1 1 [u64V y] (by simp [Act.eval]) rfl (World.news_of_block (heap_alloc_new _ _)) (by simp [u64V, Value.oneCell']) (by omega) (by unfold maxLen; omega) (by omega) (by have := HK.out.size; simp; omega) _ rfl ?_; intro g2 cap2 w2 hown3 hgr2 hat2 hlt2)
            all_goals
              have HW := Lib.hid hown3
              have HG := Lib.hid hgr2
              clear hown3 hgr2 hat2
              try go_simp
              go_wp2_with fail
              go_roundw
              case rel => exact mrel_step (xs := xs) (ys := ys) (z := y) HH.out (HI.out.same (by omega)) HJ.out HK.out (ca := ca') (by simp; omega) h2 (cb := 0) (by omega) (by omega) (by rw [List.append_assoc, List.singleton_append, ← mergeN_r _ _ _ _ hxy]; exact HM.out) (by simp <;> omega) (by simp <;> omega) HW.out HG.out
              case measure => simp [lenV] <;> omega
          · skip
            go_wp2_with fail
            go_quiet (fail)
            go_wp2_with fail
            have hown2 : (((wr.drewN nq).drew).alloc (.cells #[u64V y] 54)).ownsRow w.heap.size 54 1 (.slice (some ⟨g, 0, none⟩) ms.length c) ms.length (ms.map u64V) := World.ownsRow.alloc (w := (wr.drewN nq).drew) HJ.out _
            have HO2 := Lib.hid hown2
            clear hown2
            go_region_law (refine step_append_lies _ rfl (.tmp 35) (.tmp 39) 58 rfl w.heap.size 54 i0 (.int .u64 0) 1 8 Try.underlying58 hi0 hz0 hz1 hz2 rfl (by decide) _ _ _ (by simp [Act.eval]) HO2.out ⟨wr.heap.size, 0, none⟩ 1 1 [u64V y] (by simp [Act.eval]) rfl (World.news_of_block (heap_alloc_new _ _)) (by simp [u64V, Value.oneCell']) (by omega) (by unfold maxLen; omega) (by omega) (by have := HK.out.size; simp; omega) _ rfl ?_; intro g2 cap2 w2 hown3 hgr2 hat2 hlt2)
            all_goals
              have HW := Lib.hid hown3
              have HG := Lib.hid hgr2
              clear hown3 hgr2 hat2
              try go_simp
              go_wp2_with fail
              go_roundw
              case rel => exact mrel_step (xs := xs) (ys := ys) (z := y) HH.out HI.out.tail HJ.out HK.out (ca := ca') (by simp; omega) h2 (cb := cb' - 1) (by omega) (by omega) (by rw [List.append_assoc, List.singleton_append, ← mergeN_r _ _ _ _ hxy]; exact HM.out) (by simp <;> omega) (by simp <;> omega) HW.out HG.out
              case measure => simp [lenV] <;> omega

end Go.Proofs.Ytlbbbabieepabaa
