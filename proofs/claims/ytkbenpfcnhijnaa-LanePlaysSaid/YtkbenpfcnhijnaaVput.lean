/-
  What a lane's calls put at its end: lane.Lane[int].
-/
import Derived.Test.YtkbenpfcnhijnaaVmov
namespace Go.Proofs.Ytkbenpfcnhijnaa
open Go.RowKit

section
variable {W : World} {N p : Nat} {F : Nat → Prop} {S : St Int}

theorem li_send_no {x : Int} (hA : LnAt iV 3 W N p F S) (h : decide (S.l.length < 4096) = false) :
    Calls Try.prog 14 #[.pointer (some ⟨p, 0, none⟩), .int .i64 x] W fun e w' => e = .returned (.bool false) ∧ w' = W := by
  have H := Lib.hid h
  have HA := Lib.hid hA
  clear h hA
  go_enter Try.func14, Try.ntmps14
  go_wp2_with (go_at_call 35; refine (li_room HA.out H.out).mono ?_; rintro e w' ⟨rfl, rfl⟩)
  go_ret
  exact ⟨rfl, rfl⟩

theorem li_send_ok {x : Int} (hA : LnAt iV 3 W N p F S) (h : decide (S.l.length < 4096) = true) (hn : S.s ≤ 5000) :
    Calls Try.prog 14 #[.pointer (some ⟨p, 0, none⟩), .int .i64 x] W
      (LnPost iV 3 W N p F ⟨S.l ++ [x], S.s + 1, S.t, S.d, S.m⟩ (.bool true)) := by
  have hl := of_decide_eq_true h
  have H := Lib.hid h
  have HA := Lib.hid hA
  obtain ⟨i0, hi0, hz0, hz1, hz2⟩ := info_parts li_info
  obtain ⟨v, hV⟩ := hA
  have c0 := hV.c0
  have hp : p < W.heap.size := (hV.low p hV.inP).2
  have hN : N ≤ W.heap.size := by have := (hV.low p hV.inP).1; omega
  have HV := Lib.hid hV
  have V1 := Lib.hid (HV.out.below ((Below.refl _ _).alloc (Nat.le_refl _) (.cells #[.int .i64 x] 3)))
  have L1 := Lib.hid (slv_lit W [.int .i64 x] #[.int .i64 x] 3 1 rfl rfl (by decide))
  clear h hV
  go_enter Try.func14, Try.ntmps14
  go_wp2_with (first
    | (go_at_call 35; refine (li_room HA.out H.out).mono ?_; rintro e w' ⟨rfl, rfl⟩)
    | (at_builtin
       refine wpList_append_at rfl (.tmp 12) (.tmp 14) 33 rfl N 3 i0 (.int .i64 0) 1 8 Try.underlying33 hi0 hz0 hz1 hz2 rfl (by decide) _ _ _ rfl V1.out.own _ _ _ [.int .i64 x] rfl (by simp) (fun e => by cases e) L1.out.news (by simp [Value.oneCell']) (by unfold maxLen; omega) (by omega) (by simp; omega) ?_
       intro v2 w2 hown2 hgr2 hat2
       obtain ⟨a2, cap2, rfl⟩ := own_form hown2
       have hst := V1.out.stored (F := F) (l := S.l ++ [x]) (v2 := .slice a2 (S.l.length + 1) cap2) ((Keep.refl F _).alloc _) hgr2 (by rw [List.map_append, List.length_append]; exact hown2) hat2
       have hb := hgr2.block p (V1.out.low p V1.out.inP).2 (fun e => V1.out.apart e.symm)
       have c2 : w2.cell? ⟨p, 0, none⟩ = some v := (World.cell?_of_block (a := ⟨p, 0, none⟩) hb).trans V1.out.c0
       have f2 : ∀ i, w2.frozen? ⟨p, i, none⟩ = false := fun i => (World.frozen?_of_block (a := ⟨p, i, none⟩) hb).trans (V1.out.fz i)
       have f20 := f2 0
       have c3 : (w2.setCell ⟨p, 0, none⟩ (.slice a2 (S.l.length + 1) cap2)).cell? ⟨p, 1, none⟩ = some (.int .i64 (S.s : Int)) := hst.1.c1
       have f3 := hst.1.fz 1
       have R := Lib.hid hst
       clear hst hb hown2 hgr2 hat2 f2))
  go_ret
  exact (R.out.1.bump_s).post (R.out.2.1.setCell (p := ⟨p, 1, none⟩) HV.out.inP _) R.out.2.2

theorem li_send {x : Int} (hA : LnAt iV 3 W N p F S) (hn : S.s ≤ 5000) :
    Calls Try.prog 14 #[.pointer (some ⟨p, 0, none⟩), .int .i64 x] W
      (LnPost iV 3 W N p F (S.send x) (.bool (decide (S.l.length < 4096)))) := by
  by_cases h : S.l.length < 4096
  · have e1 : S.send x = ⟨S.l ++ [x], S.s + 1, S.t, S.d, S.m⟩ := if_pos h
    rw [e1, decide_eq_true h]
    exact li_send_ok hA (decide_eq_true h) hn
  · have e1 : S.send x = S := if_neg h
    rw [e1, decide_eq_false h]
    refine (li_send_no hA (decide_eq_false h)).mono ?_
    rintro e w' ⟨rfl, rfl⟩
    exact ⟨rfl, F, hA, Keep.refl _ _, fun _ f => Or.inl f⟩
theorem li_hold_no {k : Int} (hA : LnAt iV 3 W N p F S) (hk : hasZ S.l.length k = false) :
    Calls Try.prog 13 #[.pointer (some ⟨p, 0, none⟩), .int .i64 k] W fun e w' => e = .returned (.bool false) ∧ w' = W := by
  have H := Lib.hid hk
  have HA := Lib.hid hA
  clear hk hA
  go_enter Try.func13, Try.ntmps13
  go_wp2_with (go_at_call 33; refine (li_out_no HA.out H.out).mono ?_; rintro e w' ⟨rfl, rfl⟩)
  go_ret
  exact ⟨rfl, rfl⟩

theorem li_hold_ok {k : Nat} (hA : LnAt iV 3 W N p F S) (hk : k < S.l.length) (hl : S.l.length ≤ 5000) :
    Calls Try.prog 13 #[.pointer (some ⟨p, 0, none⟩), .int .i64 (k : Nat)] W
      (LnPost iV 3 W N p F { S with l := cutL S.l k ++ [S.l[k]] } (.bool true)) := by
  have HA := Lib.hid hA
  obtain ⟨i0, hi0, hz0, hz1, hz2⟩ := info_parts li_info
  have HO := Lib.hid (li_out_ok hA hk hl)
  generalize S.l[k] = x at *
  obtain ⟨C, hC⟩ : ∃ C, cutL S.l k = C := ⟨_, rfl⟩
  have hCl : C.length ≤ 5000 := by rw [← hC, cutL_len hk]; omega
  rw [hC] at HO ⊢
  clear hA hC
  go_enter Try.func13, Try.ntmps13
  go_wp2_with (first
    | (go_at_call 33; refine HO.out.mono ?_
       rintro e w1 ⟨rfl, F1, ⟨v1, hV1⟩, hk1, hF1⟩
       have c0 := hV1.c0
       have hp : p < w1.heap.size := (hV1.low p hV1.inP).2
       have hN : N ≤ w1.heap.size := by have := (hV1.low p hV1.inP).1; omega
       have V1 := Lib.hid (hV1.below ((Below.refl _ _).alloc (Nat.le_refl _) (.cells #[.int .i64 x] 3)))
       have O1 := Lib.hid (show (w1.alloc (.cells #[.int .i64 x] 3)).ownsRow N 3 1 v1 C.length (C.map iV) from V1.out.own)
       have L1 := Lib.hid (slv_lit w1 [.int .i64 x] #[.int .i64 x] 3 1 rfl rfl (by decide))
       have K1 := Lib.hid (hk1.alloc (.cells #[.int .i64 x] 3))
       have G1 := Lib.hid hF1
       clear hk1 hV1 hF1)
    | (at_builtin
       refine wpList_append_at rfl (.tmp 18) (.tmp 20) 33 rfl N 3 i0 (.int .i64 0) 1 8 Try.underlying33 hi0 hz0 hz1 hz2 rfl (by decide) _ _ _ rfl O1.out _ _ _ [.int .i64 x] rfl (by simp) (fun e => by cases e) L1.out.news (by simp [Value.oneCell']) (by unfold maxLen; omega) (by omega) (by simp; omega) ?_
       intro v2 w2 hown2 hgr2 hat2
       obtain ⟨a2, cap2, rfl⟩ := own_form hown2
       have hst := V1.out.stored (F := F1) (l := C ++ [x]) (v2 := .slice a2 (C.length + 1) cap2) (Keep.refl F1 _) hgr2 (by rw [List.map_append, List.length_append]; exact hown2) hat2
       have hb := hgr2.block p (V1.out.low p V1.out.inP).2 (fun e => V1.out.apart e.symm)
       have c2 : w2.cell? ⟨p, 0, none⟩ = some v1 := (World.cell?_of_block (a := ⟨p, 0, none⟩) hb).trans V1.out.c0
       have f2 : w2.frozen? ⟨p, 0, none⟩ = false := (World.frozen?_of_block (a := ⟨p, 0, none⟩) hb).trans (V1.out.fz 0)
       have R := Lib.hid hst
       clear hst hb hown2 hgr2 hat2))
  go_ret
  exact LnPost.trans K1.out (fun k f => (G1.out k f)) (R.out.1.post R.out.2.1 R.out.2.2)

theorem li_hold {k : Int} (hA : LnAt iV 3 W N p F S) (hl : S.l.length ≤ 5000) :
    Calls Try.prog 13 #[.pointer (some ⟨p, 0, none⟩), .int .i64 k] W
      (LnPost iV 3 W N p F (S.hold 0 k) (.bool (hasZ S.l.length k))) := by
  cases h : hasZ S.l.length k with
  | false =>
    have e1 : S.hold 0 k = S := by unfold St.hold; rw [h]; rfl
    rw [e1]
    refine (li_hold_no hA h).mono ?_
    rintro e w' ⟨rfl, rfl⟩
    exact ⟨rfl, F, hA, Keep.refl _ _, fun _ f => Or.inl f⟩
  | true =>
    obtain ⟨j, rfl, hj⟩ := hasZ_nat h
    have e1 : S.hold 0 (j : Int) = { S with l := cutL S.l j ++ [S.l[j]] } := by unfold St.hold; rw [h, got_nat hj]; rfl
    rw [e1]
    exact li_hold_ok hA hj hl

theorem li_double_none {k : Int} (hA : LnAt iV 3 W N p F S) (hk : hasZ S.l.length k = false) :
    Calls Try.prog 12 #[.pointer (some ⟨p, 0, none⟩), .int .i64 k] W fun e w' => e = .returned (.bool false) ∧ w' = W := by
  have H := Lib.hid hk
  have HA := Lib.hid hA
  clear hk hA
  go_enter Try.func12, Try.ntmps12
  go_wp2_with (go_at_call 34; refine (li_has HA.out H.out).mono ?_; rintro e w' ⟨rfl, rfl⟩)
  go_ret
  exact ⟨rfl, rfl⟩

theorem li_double_full {k : Int} (hA : LnAt iV 3 W N p F S) (hk : hasZ S.l.length k = true) (h : decide (S.l.length < 4096) = false) :
    Calls Try.prog 12 #[.pointer (some ⟨p, 0, none⟩), .int .i64 k] W fun e w' => e = .returned (.bool false) ∧ w' = W := by
  have H := Lib.hid hk
  have H2 := Lib.hid h
  have HA := Lib.hid hA
  clear hk hA h
  go_enter Try.func12, Try.ntmps12
  go_wp2_with (first
    | (go_at_call 34; refine (li_has HA.out H.out).mono ?_; rintro e w' ⟨rfl, rfl⟩)
    | (go_at_call 35; refine (li_room HA.out H2.out).mono ?_; rintro e w' ⟨rfl, rfl⟩))
  go_ret
  exact ⟨rfl, rfl⟩

set_option maxHeartbeats 1000000 in
theorem li_double_ok {k : Nat} (hA : LnAt iV 3 W N p F S) (hk : k < S.l.length) (h : decide (S.l.length < 4096) = true) (hn : S.m ≤ 5000) :
    Calls Try.prog 12 #[.pointer (some ⟨p, 0, none⟩), .int .i64 (k : Nat)] W
      (LnPost iV 3 W N p F { S with l := S.l ++ [S.l[k]], m := S.m + 1 } (.bool true)) := by
  obtain ⟨i0, hi0, hz0, hz1, hz2⟩ := info_parts li_info
  have HA := Lib.hid hA
  have H := Lib.hid (hasZ_lt hk)
  have H2 := Lib.hid h
  obtain ⟨v, hV⟩ := hA
  obtain ⟨a, cap, rfl, hs⟩ := hV.slice
  obtain ⟨b, off, rfl, hb, hc⟩ := hs.at k hk
  have hcell : W.drew.cell? ⟨b, off + k, none⟩ = some (.int .i64 S.l[k]) := hc
  have c0 : W.drew.cell? ⟨p, 0, none⟩ = _ := hV.c0
  have hp : p < W.heap.size := (hV.low p hV.inP).2
  have hN : N ≤ W.heap.size := by have := (hV.low p hV.inP).1; omega
  have hl := of_decide_eq_true h
  have j0 : (0 : Int) ≤ (k : Int) := by omega
  have j1 : (k : Int) < (S.l.length : Int) := by omega
  generalize S.l[k] = x at *
  have hV1 : LnV iV 3 (W.alloc (.cells #[.int .i64 x] 3)).drew N p F S _ := (hV.below ((Below.refl _ _).alloc (Nat.le_refl _) (.cells #[.int .i64 x] 3))).drew
  have c1 := hV1.c0
  have V1 := Lib.hid hV1
  have L1 := Lib.hid ((slv_lit W [.int .i64 x] #[.int .i64 x] 3 1 rfl rfl (by decide)).below (drew_below _))
  have HV := Lib.hid hV
  clear hV hV1 hs hc hb h
  go_enter Try.func12, Try.ntmps12
  go_wp2_with (first
    | (go_at_call 34; refine (li_has HA.out H.out).mono ?_; rintro e w' ⟨rfl, h9⟩; subst h9)
    | (go_at_call 35; refine (li_room HA.out H2.out).mono ?_; rintro e w' ⟨rfl, h9⟩; subst h9))
  go_region_law (
       refine step_append_own rfl (.tmp 18) (.tmp 26) 33 rfl N 3 i0 (.int .i64 0) 1 8 Try.underlying33 hi0 hz0 hz1 hz2 rfl (by decide) _ _ _ (by simp [Act.eval]) V1.out.own _ 1 1 [.int .i64 x] (by simp [Act.eval]) (by simp) (L1.out.news _ rfl) (by simp [Value.oneCell']) (by unfold maxLen; omega) (by omega) (by simp; omega) ?_
       intro a2 cap2 w2 hown2 hgr2 hat2
       have hst := V1.out.stored (F := F) (l := S.l ++ [x]) (v2 := .slice a2 (S.l.length + 1) cap2) ((Keep.refl F _).alloc _).drew hgr2 (by rw [List.map_append, List.length_append]; exact hown2) hat2
       have hb := hgr2.block p (V1.out.low p V1.out.inP).2 (fun e => V1.out.apart e.symm)
       have c2 : w2.cell? ⟨p, 0, none⟩ = some _ := (World.cell?_of_block (a := ⟨p, 0, none⟩) hb).trans V1.out.c0
       have f2 : w2.frozen? ⟨p, 0, none⟩ = false := (World.frozen?_of_block (a := ⟨p, 0, none⟩) hb).trans (V1.out.fz 0)
       have c3 : (w2.setCell ⟨p, 0, none⟩ (.slice a2 (S.l.length + 1) cap2)).cell? ⟨p, 4, none⟩ = some (.int .i64 (S.m : Int)) := hst.1.c4
       have f3 := hst.1.fz 4
       have R := Lib.hid hst
       clear hst hb hown2 hgr2 hat2)
  all_goals
    go_wp2_with fail
    go_ret
    exact (R.out.1.bump_m).post (R.out.2.1.setCell (p := ⟨p, 4, none⟩) HV.out.inP _) R.out.2.2

theorem li_double {k : Int} (hA : LnAt iV 3 W N p F S) (hn : S.m ≤ 5000) :
    Calls Try.prog 12 #[.pointer (some ⟨p, 0, none⟩), .int .i64 k] W
      (LnPost iV 3 W N p F (S.double 0 k) (.bool (S.can k))) := by
  cases h : hasZ S.l.length k with
  | false =>
    have e0 : S.can k = false := by unfold St.can; rw [h]; rfl
    have e1 : S.double 0 k = S := by unfold St.double; rw [e0]; rfl
    rw [e1, e0]
    refine (li_double_none hA h).mono ?_
    rintro e w' ⟨rfl, rfl⟩
    exact ⟨rfl, F, hA, Keep.refl _ _, fun _ f => Or.inl f⟩
  | true =>
    cases h2 : decide (S.l.length < 4096) with
    | false =>
      have e0 : S.can k = false := by unfold St.can; rw [h, h2]; rfl
      have e1 : S.double 0 k = S := by unfold St.double; rw [e0]; rfl
      rw [e1, e0]
      refine (li_double_full hA h h2).mono ?_
      rintro e w' ⟨rfl, rfl⟩
      exact ⟨rfl, F, hA, Keep.refl _ _, fun _ f => Or.inl f⟩
    | true =>
      have e0 : S.can k = true := by unfold St.can; rw [h, h2]; rfl
      obtain ⟨j, rfl, hj⟩ := hasZ_nat h
      have e1 : S.double 0 (j : Int) = { S with l := S.l ++ [S.l[j]], m := S.m + 1 } := by unfold St.double; rw [e0, got_nat hj]; rfl
      rw [e1, e0]
      exact li_double_ok hA hj h2 hn
end

end Go.Proofs.Ytkbenpfcnhijnaa
