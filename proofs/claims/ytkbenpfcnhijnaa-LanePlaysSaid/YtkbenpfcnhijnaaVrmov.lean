/-
  The document's own lane: taken, dropped, held back.
-/
import Derived.Test.YtkbenpfcnhijnaaVrout
namespace Go.Proofs.Ytkbenpfcnhijnaa
open Go.RowKit

section
variable {W : World} {N p : Nat} {F : Nat → Prop} {S : St Int}

theorem lr_take_no {k : Int} (hA : LnAt iV 3 W N p F S) (hk : hasZ S.l.length k = false) :
    Calls Try.prog 18 #[.pointer (some ⟨p, 0, none⟩), .int .i64 k] W fun e w' => e = .returned (.tuple #[(.int .i64 0), .bool false]) ∧ w' = W := by
  have H := Lib.hid hk
  have HA := Lib.hid hA
  clear hk hA
  go_enter Try.func18, Try.ntmps18
  go_wp2_with (go_at_call 36; refine (lr_out_no HA.out H.out).mono ?_; rintro e w' ⟨rfl, rfl⟩)
  go_ret2
  exact ⟨rfl, rfl⟩

theorem lr_take_ok {k : Nat} (hA : LnAt iV 3 W N p F S) (hk : k < S.l.length) (hl : S.l.length ≤ 5000) (hn : S.t ≤ 5000) :
    Calls Try.prog 18 #[.pointer (some ⟨p, 0, none⟩), .int .i64 (k : Nat)] W
      (LnPost iV 3 W N p F { S with l := cutL S.l k, t := S.t + 1 } (.tuple #[.int .i64 S.l[k], .bool true])) := by
  have HA := Lib.hid hA
  clear hA
  go_enter Try.func18, Try.ntmps18
  go_wp2_with (go_at_call 36; refine (lr_out_ok HA.out hk hl).mono ?_
               rintro e w1 ⟨rfl, F1, ⟨v1, hV1⟩, hk1, hF1⟩
               have c2 : w1.cell? ⟨p, 2, none⟩ = some (.int .i64 (S.t : Int)) := hV1.c2
               have f2 : w1.frozen? ⟨p, 2, none⟩ = false := hV1.fz 2
               have K1 := Lib.hid hk1
               have V1 := Lib.hid hV1
               have G1 := Lib.hid hF1
               clear hk1 hV1 hF1)
  go_ret2
  exact (V1.out.bump_t).post (K1.out.setCell (p := ⟨p, 2, none⟩) (by obtain ⟨v, hV⟩ := HA.out; exact hV.inP) _) G1.out

theorem lr_take {k : Int} (hA : LnAt iV 3 W N p F S) (hl : S.l.length ≤ 5000) (hn : S.t ≤ 5000) :
    Calls Try.prog 18 #[.pointer (some ⟨p, 0, none⟩), .int .i64 k] W
      (LnPost iV 3 W N p F (S.take k) (.tuple #[.int .i64 (S.got 0 k), .bool (hasZ S.l.length k)])) := by
  cases h : hasZ S.l.length k with
  | false =>
    have e1 : S.take k = S := by unfold St.take; rw [h]; rfl
    have e2 : S.got 0 k = 0 := by unfold St.got; rw [h]; rfl
    rw [e1, e2]
    refine (lr_take_no hA h).mono ?_
    rintro e w' ⟨rfl, rfl⟩
    exact ⟨rfl, F, hA, Keep.refl _ _, fun _ f => Or.inl f⟩
  | true =>
    obtain ⟨j, rfl, hj⟩ := hasZ_nat h
    have e1 : S.take (j : Int) = { S with l := cutL S.l j, t := S.t + 1 } := by unfold St.take; rw [h]; rfl
    rw [e1, got_nat hj]
    exact lr_take_ok hA hj hl hn

theorem lr_drop_no {k : Int} (hA : LnAt iV 3 W N p F S) (hk : hasZ S.l.length k = false) :
    Calls Try.prog 19 #[.pointer (some ⟨p, 0, none⟩), .int .i64 k] W fun e w' => e = .returned (.bool false) ∧ w' = W := by
  have H := Lib.hid hk
  have HA := Lib.hid hA
  clear hk hA
  go_enter Try.func19, Try.ntmps19
  go_wp2_with (go_at_call 36; refine (lr_out_no HA.out H.out).mono ?_; rintro e w' ⟨rfl, rfl⟩)
  go_ret
  exact ⟨rfl, rfl⟩

theorem lr_drop_ok {k : Nat} (hA : LnAt iV 3 W N p F S) (hk : k < S.l.length) (hl : S.l.length ≤ 5000) (hn : S.d ≤ 5000) :
    Calls Try.prog 19 #[.pointer (some ⟨p, 0, none⟩), .int .i64 (k : Nat)] W
      (LnPost iV 3 W N p F { S with l := cutL S.l k, d := S.d + 1 } (.bool true)) := by
  have HA := Lib.hid hA
  clear hA
  go_enter Try.func19, Try.ntmps19
  go_wp2_with (go_at_call 36; refine (lr_out_ok HA.out hk hl).mono ?_
               rintro e w1 ⟨rfl, F1, ⟨v1, hV1⟩, hk1, hF1⟩
               have c2 : w1.cell? ⟨p, 3, none⟩ = some (.int .i64 (S.d : Int)) := hV1.c3
               have f2 : w1.frozen? ⟨p, 3, none⟩ = false := hV1.fz 3
               have K1 := Lib.hid hk1
               have V1 := Lib.hid hV1
               have G1 := Lib.hid hF1
               clear hk1 hV1 hF1)
  go_ret
  exact (V1.out.bump_d).post (K1.out.setCell (p := ⟨p, 3, none⟩) (by obtain ⟨v, hV⟩ := HA.out; exact hV.inP) _) G1.out

theorem lr_drop {k : Int} (hA : LnAt iV 3 W N p F S) (hl : S.l.length ≤ 5000) (hn : S.d ≤ 5000) :
    Calls Try.prog 19 #[.pointer (some ⟨p, 0, none⟩), .int .i64 k] W
      (LnPost iV 3 W N p F (S.drop k) (.bool (hasZ S.l.length k))) := by
  cases h : hasZ S.l.length k with
  | false =>
    have e1 : S.drop k = S := by unfold St.drop; rw [h]; rfl
    skip
    rw [e1]
    refine (lr_drop_no hA h).mono ?_
    rintro e w' ⟨rfl, rfl⟩
    exact ⟨rfl, F, hA, Keep.refl _ _, fun _ f => Or.inl f⟩
  | true =>
    obtain ⟨j, rfl, hj⟩ := hasZ_nat h
    have e1 : S.drop (j : Int) = { S with l := cutL S.l j, d := S.d + 1 } := by unfold St.drop; rw [h]; rfl
    rw [e1]
    exact lr_drop_ok hA hj hl hn
theorem lr_hold_no {k : Int} (hA : LnAt iV 3 W N p F S) (hk : hasZ S.l.length k = false) :
    Calls Try.prog 21 #[.pointer (some ⟨p, 0, none⟩), .int .i64 k] W fun e w' => e = .returned (.bool false) ∧ w' = W := by
  have H := Lib.hid hk
  have HA := Lib.hid hA
  clear hk hA
  go_enter Try.func21, Try.ntmps21
  go_wp2_with (go_at_call 36; refine (lr_out_no HA.out H.out).mono ?_; rintro e w' ⟨rfl, rfl⟩)
  go_ret
  exact ⟨rfl, rfl⟩

theorem lr_hold_ok {k : Nat} (hA : LnAt iV 3 W N p F S) (hk : k < S.l.length) (hl : S.l.length ≤ 5000) :
    Calls Try.prog 21 #[.pointer (some ⟨p, 0, none⟩), .int .i64 (k : Nat)] W
      (LnPost iV 3 W N p F { S with l := cutL S.l k ++ [S.l[k]] } (.bool true)) := by
  have HA := Lib.hid hA
  obtain ⟨i0, hi0, hz0, hz1, hz2⟩ := info_parts li_info
  have HO := Lib.hid (lr_out_ok hA hk hl)
  generalize S.l[k] = x at *
  obtain ⟨C, hC⟩ : ∃ C, cutL S.l k = C := ⟨_, rfl⟩
  have hCl : C.length ≤ 5000 := by rw [← hC, cutL_len hk]; omega
  rw [hC] at HO ⊢
  clear hA hC
  go_enter Try.func21, Try.ntmps21
  go_wp2_with (first
    | (go_at_call 36; refine HO.out.mono ?_
       rintro e w1 ⟨rfl, F1, ⟨v1, hV1⟩, hk1, hF1⟩
       have c0 := hV1.c0
       have hp : p < w1.heap.size := (hV1.low p hV1.inP).2
       have hN : N ≤ w1.heap.size := by have := (hV1.low p hV1.inP).1; omega
       have V1 := Lib.hid (hV1.below ((Below.refl _ _).alloc (Nat.le_refl _) (.cells #[.int .i64 x] 3)))
       have O1 := Lib.hid (show (w1.alloc (.cells #[.int .i64 x] 3)).ownsRow N 3 1 v1 C.length (C.map iV) from V1.out.own)
       have L1 := Lib.hid (slv_lit w1 [.int .i64 x] #[.int .i64 x] 3 1 rfl rfl (by decide))
       have K1 := Lib.hid (hk1.alloc (.cells #[.int .i64 x] 3))
       have G1 := Lib.hid hF1
       clear hk1 hV1 hF1)
    | (at_builtin
       refine wpList_append_at rfl (.tmp 18) (.tmp 20) 33 rfl N 3 i0 (.int .i64 0) 1 8 Try.underlying33 hi0 hz0 hz1 hz2 rfl (by decide) _ _ _ rfl O1.out _ _ _ [.int .i64 x] rfl (by simp) (fun e => by cases e) L1.out.news (by simp [Value.oneCell']) (by unfold maxLen; omega) (by omega) (by simp; omega) ?_
       intro v2 w2 hown2 hgr2 hat2
       obtain ⟨a2, cap2, rfl⟩ := own_form hown2
       have hst := V1.out.stored (F := F1) (l := C ++ [x]) (v2 := .slice a2 (C.length + 1) cap2) (Keep.refl F1 _) hgr2 (by rw [List.map_append, List.length_append]; exact hown2) hat2
       have hb := hgr2.block p (V1.out.low p V1.out.inP).2 (fun e => V1.out.apart e.symm)
       have c2 : w2.cell? ⟨p, 0, none⟩ = some v1 := (World.cell?_of_block (a := ⟨p, 0, none⟩) hb).trans V1.out.c0
       have f2 : w2.frozen? ⟨p, 0, none⟩ = false := (World.frozen?_of_block (a := ⟨p, 0, none⟩) hb).trans (V1.out.fz 0)
       have R := Lib.hid hst
       clear hst hb hown2 hgr2 hat2))
  go_ret
  exact LnPost.trans K1.out (fun k f => (G1.out k f)) (R.out.1.post R.out.2.1 R.out.2.2)

theorem lr_hold {k : Int} (hA : LnAt iV 3 W N p F S) (hl : S.l.length ≤ 5000) :
    Calls Try.prog 21 #[.pointer (some ⟨p, 0, none⟩), .int .i64 k] W
      (LnPost iV 3 W N p F (S.hold 0 k) (.bool (hasZ S.l.length k))) := by
  cases h : hasZ S.l.length k with
  | false =>
    have e1 : S.hold 0 k = S := by unfold St.hold; rw [h]; rfl
    rw [e1]
    refine (lr_hold_no hA h).mono ?_
    rintro e w' ⟨rfl, rfl⟩
    exact ⟨rfl, F, hA, Keep.refl _ _, fun _ f => Or.inl f⟩
  | true =>
    obtain ⟨j, rfl, hj⟩ := hasZ_nat h
    have e1 : S.hold 0 (j : Int) = { S with l := cutL S.l j ++ [S.l[j]] } := by unfold St.hold; rw [h, got_nat hj]; rfl
    rw [e1]
    exact lr_hold_ok hA hj hl

end

end Go.Proofs.Ytkbenpfcnhijnaa
