/-
  What a lane's calls do to it: lane.Lane[int].
-/
import Derived.Test.YtkbenpfcnhijnaaVcal
namespace Go.Proofs.Ytkbenpfcnhijnaa
open Go.RowKit

section
variable {W : World} {N p : Nat} {F : Nat → Prop} {S : St Int}

theorem li_out_no {k : Int} (hA : LnAt iV 3 W N p F S) (hk : hasZ S.l.length k = false) :
    Calls Try.prog 33 #[.pointer (some ⟨p, 0, none⟩), .int .i64 k] W fun e w' => e = .returned (.tuple #[(.int .i64 0), .bool false]) ∧ w' = W := by
  have H := Lib.hid hk
  have HA := Lib.hid hA
  clear hk hA
  go_enter Try.func33, Try.ntmps33
  go_wp2_with (go_at_call 34; refine (li_has HA.out H.out).mono ?_; rintro e w' ⟨rfl, rfl⟩)
  go_ret2
  exact ⟨rfl, rfl⟩

theorem li_out_ok {k : Nat} (hA : LnAt iV 3 W N p F S) (hk : k < S.l.length) (hl : S.l.length ≤ 5000) :
    Calls Try.prog 33 #[.pointer (some ⟨p, 0, none⟩), .int .i64 (k : Nat)] W
      (LnPost iV 3 W N p F { S with l := cutL S.l k } (.tuple #[.int .i64 S.l[k], .bool true])) := by
  obtain ⟨v, hV⟩ := hA
  obtain ⟨a, cap, rfl, hs⟩ := hV.slice
  obtain ⟨b, off, rfl, hb, hc⟩ := hs.at k hk
  have hcell : W.cell? ⟨b, off + k, none⟩ = some (.int .i64 S.l[k]) := hc
  have c0 := hV.c0
  have j0 : (0 : Int) ≤ (k : Int) := by omega
  have j1 : (k : Int) < (S.l.length : Int) := by omega
  have HA := Lib.hid (show LnAt iV 3 W N p F S from ⟨_, hV⟩)
  have HV := Lib.hid hV
  have H := Lib.hid (hasZ_lt hk)
  clear hV hs hc hb
  generalize S.l[k] = x at *
  go_enter Try.func33, Try.ntmps33
  go_wp2_with (first
    | (go_at_call 34; refine (li_has HA.out H.out).mono ?_; rintro e w' ⟨rfl, rfl⟩)
    | (go_at_call 42; refine (li_del _ N _ S.l k hk HV.out.own).mono ?_
       rintro e w2 ⟨a2, cap2, rfl, hown, hgr, hat⟩
       have R := Lib.hid (HV.out.stored (Keep.refl _ _) hgr hown (fun k h => Or.inl (by rw [← hat]; exact h)))
       have c2 : w2.cell? ⟨p, 0, none⟩ = _ := (World.cell?_of_block (a := ⟨p, 0, none⟩) (hgr.block p (HV.out.low p HV.out.inP).2 (fun e => HV.out.apart e.symm))).trans HV.out.c0
       have f2 : w2.frozen? ⟨p, 0, none⟩ = false := (World.frozen?_of_block (a := ⟨p, 0, none⟩) (hgr.block p (HV.out.low p HV.out.inP).2 (fun e => HV.out.apart e.symm))).trans (HV.out.fz 0)
       clear hown hgr hat))
  go_ret2
  exact R.out.1.post R.out.2.1 R.out.2.2

theorem li_take_no {k : Int} (hA : LnAt iV 3 W N p F S) (hk : hasZ S.l.length k = false) :
    Calls Try.prog 10 #[.pointer (some ⟨p, 0, none⟩), .int .i64 k] W fun e w' => e = .returned (.tuple #[(.int .i64 0), .bool false]) ∧ w' = W := by
  have H := Lib.hid hk
  have HA := Lib.hid hA
  clear hk hA
  go_enter Try.func10, Try.ntmps10
  go_wp2_with (go_at_call 33; refine (li_out_no HA.out H.out).mono ?_; rintro e w' ⟨rfl, rfl⟩)
  go_ret2
  exact ⟨rfl, rfl⟩

theorem li_take_ok {k : Nat} (hA : LnAt iV 3 W N p F S) (hk : k < S.l.length) (hl : S.l.length ≤ 5000) (hn : S.t ≤ 5000) :
    Calls Try.prog 10 #[.pointer (some ⟨p, 0, none⟩), .int .i64 (k : Nat)] W
      (LnPost iV 3 W N p F { S with l := cutL S.l k, t := S.t + 1 } (.tuple #[.int .i64 S.l[k], .bool true])) := by
  have HA := Lib.hid hA
  clear hA
  go_enter Try.func10, Try.ntmps10
  go_wp2_with (go_at_call 33; refine (li_out_ok HA.out hk hl).mono ?_
               rintro e w1 ⟨rfl, F1, ⟨v1, hV1⟩, hk1, hF1⟩
               have c2 : w1.cell? ⟨p, 2, none⟩ = some (.int .i64 (S.t : Int)) := hV1.c2
               have f2 : w1.frozen? ⟨p, 2, none⟩ = false := hV1.fz 2
               have K1 := Lib.hid hk1
               have V1 := Lib.hid hV1
               have G1 := Lib.hid hF1
               clear hk1 hV1 hF1)
  go_ret2
  exact (V1.out.bump_t).post (K1.out.setCell (p := ⟨p, 2, none⟩) (by obtain ⟨v, hV⟩ := HA.out; exact hV.inP) _) G1.out

theorem li_take {k : Int} (hA : LnAt iV 3 W N p F S) (hl : S.l.length ≤ 5000) (hn : S.t ≤ 5000) :
    Calls Try.prog 10 #[.pointer (some ⟨p, 0, none⟩), .int .i64 k] W
      (LnPost iV 3 W N p F (S.take k) (.tuple #[.int .i64 (S.got 0 k), .bool (hasZ S.l.length k)])) := by
  cases h : hasZ S.l.length k with
  | false =>
    have e1 : S.take k = S := by unfold St.take; rw [h]; rfl
    have e2 : S.got 0 k = 0 := by unfold St.got; rw [h]; rfl
    rw [e1, e2]
    refine (li_take_no hA h).mono ?_
    rintro e w' ⟨rfl, rfl⟩
    exact ⟨rfl, F, hA, Keep.refl _ _, fun _ f => Or.inl f⟩
  | true =>
    obtain ⟨j, rfl, hj⟩ := hasZ_nat h
    have e1 : S.take (j : Int) = { S with l := cutL S.l j, t := S.t + 1 } := by unfold St.take; rw [h]; rfl
    rw [e1, got_nat hj]
    exact li_take_ok hA hj hl hn

theorem li_drop_no {k : Int} (hA : LnAt iV 3 W N p F S) (hk : hasZ S.l.length k = false) :
    Calls Try.prog 11 #[.pointer (some ⟨p, 0, none⟩), .int .i64 k] W fun e w' => e = .returned (.bool false) ∧ w' = W := by
  have H := Lib.hid hk
  have HA := Lib.hid hA
  clear hk hA
  go_enter Try.func11, Try.ntmps11
  go_wp2_with (go_at_call 33; refine (li_out_no HA.out H.out).mono ?_; rintro e w' ⟨rfl, rfl⟩)
  go_ret
  exact ⟨rfl, rfl⟩

theorem li_drop_ok {k : Nat} (hA : LnAt iV 3 W N p F S) (hk : k < S.l.length) (hl : S.l.length ≤ 5000) (hn : S.d ≤ 5000) :
    Calls Try.prog 11 #[.pointer (some ⟨p, 0, none⟩), .int .i64 (k : Nat)] W
      (LnPost iV 3 W N p F { S with l := cutL S.l k, d := S.d + 1 } (.bool true)) := by
  have HA := Lib.hid hA
  clear hA
  go_enter Try.func11, Try.ntmps11
  go_wp2_with (go_at_call 33; refine (li_out_ok HA.out hk hl).mono ?_
               rintro e w1 ⟨rfl, F1, ⟨v1, hV1⟩, hk1, hF1⟩
               have c2 : w1.cell? ⟨p, 3, none⟩ = some (.int .i64 (S.d : Int)) := hV1.c3
               have f2 : w1.frozen? ⟨p, 3, none⟩ = false := hV1.fz 3
               have K1 := Lib.hid hk1
               have V1 := Lib.hid hV1
               have G1 := Lib.hid hF1
               clear hk1 hV1 hF1)
  go_ret
  exact (V1.out.bump_d).post (K1.out.setCell (p := ⟨p, 3, none⟩) (by obtain ⟨v, hV⟩ := HA.out; exact hV.inP) _) G1.out

theorem li_drop {k : Int} (hA : LnAt iV 3 W N p F S) (hl : S.l.length ≤ 5000) (hn : S.d ≤ 5000) :
    Calls Try.prog 11 #[.pointer (some ⟨p, 0, none⟩), .int .i64 k] W
      (LnPost iV 3 W N p F (S.drop k) (.bool (hasZ S.l.length k))) := by
  cases h : hasZ S.l.length k with
  | false =>
    have e1 : S.drop k = S := by unfold St.drop; rw [h]; rfl
    skip
    rw [e1]
    refine (li_drop_no hA h).mono ?_
    rintro e w' ⟨rfl, rfl⟩
    exact ⟨rfl, F, hA, Keep.refl _ _, fun _ f => Or.inl f⟩
  | true =>
    obtain ⟨j, rfl, hj⟩ := hasZ_nat h
    have e1 : S.drop (j : Int) = { S with l := cutL S.l j, d := S.d + 1 } := by unfold St.drop; rw [h]; rfl
    rw [e1]
    exact li_drop_ok hA hj hl hn
end

end Go.Proofs.Ytkbenpfcnhijnaa
