/-
  Bytes are read.
-/
import Derived.Test.YthnglifjijfplaaPrd
namespace Go.Proofs.Ythnglifjijfplaa
open Go.RowKit

theorem RdV.at_drop {w : World} {p n : Nat} {S : Nat → Prop} {s : Option (List Nat)} {a : Option Addr} {cap : Nat} (h : RdV w p S ((s.getD []).drop n) s.isNone a cap) : RdAt w p S (s.map (List.drop n)) := by
  refine ⟨a, cap, ?_⟩
  cases s with
  | none => simpa using h
  | some B => exact h

set_option maxRecDepth 20000 in
set_option maxHeartbeats 2000000 in
theorem rbytes_any (W : World) (p : Nat) (S : Nat → Prop) (s : Option (List Nat)) (most : Int) (hA : RdAt W p S s) (hm : -9223372036854775808 ≤ most ∧ most ≤ 9223372036854775807) (hb : (s.getD []).length ≤ 1000000) :
    Calls Try.prog 14 #[.pointer (some ⟨p, 0, none⟩), .int .i64 most] W (BytPost W p S (bytR most s).1 (bytR most s).2) := by
  have HA := Lib.hid hA
  clear hA
  obtain ⟨M, hM⟩ : ∃ M : Nat, max most 0 = (M : Int) := ⟨(max most 0).toNat, by omega⟩
  have hM2 : M ≤ 9223372036854775807 := by omega
  have hw := top_wrap hM2
  have C := Lib.hid (show ∀ z : Int, (M : Int) = z → Calls Try.prog 13 #[.pointer (some ⟨p, 0, none⟩), .int .u64 z] W (RdPost W p S (.int .u64 ((numR M s).1 : Nat)) (numR M s).2) from fun z hz => by subst hz; exact rnum_any W p S s M HA.out)
  have hx := numR_lt M s
  have hl : ((numR M s).2.getD []).length ≤ 1000000 := by
    cases s with
    | none => exact Nat.zero_le _
    | some B =>
      show ((if (getN B).2 = 0 ∨ M < (getN B).1 then ((0 : Nat), (none : Option (List Nat))) else ((getN B).1, some (B.drop (getN B).2))).2.getD []).length ≤ _
      by_cases h : (getN B).2 = 0 ∨ M < (getN B).1
      · rw [if_pos h]; exact Nat.zero_le _
      · rw [if_neg h]; simp at hb ⊢; omega
  have E : Hid (bytR most s = if ((numR M s).2.getD []).length < (numR M s).1 then ([], none) else (((numR M s).2.getD []).take (numR M s).1, (numR M s).2.map (List.drop (numR M s).1))) := by
    show bytR most s = _
    rw [show M = (max most 0).toNat by omega]
    rfl
  generalize numR M s = x at *
  obtain ⟨n, s1⟩ := x
  simp only at hx hl C E
  clear hb
  have hz : (most < 0 ∧ (M : Int) = 0) ∨ (0 ≤ most ∧ (M : Int) = most) := by omega
  clear hM
  rcases hz with ⟨h0, hz⟩ | ⟨h0, hz⟩
  all_goals
    have Z := Lib.hid hz
    clear hz
    by_cases h : (s1.getD []).length < n
    · have E2 := Lib.hid (show bytR most s = ([], none) by rw [E.out, if_pos h])
      clear E
      rw [E2.out]
      go_enter Try.func14, Try.ntmps14
      go_wp2_with fail
      refine (C.out _ Z.out).mono ?_
      rintro e w1 ⟨rfl, ⟨a, cap, hV⟩, hk⟩
      have c0 := hV.c0
      have HV := Lib.hid hV
      have HK := Lib.hid hk
      clear hV hk
      have wl := top_wrap (show (s1.getD []).length ≤ 9223372036854775807 by omega)
      go_wp2_with (go_at_call 28; refine (spoil_any _ p S _ _ a cap HV.out).mono ?_; rintro e w' ⟨rfl, hR⟩; have R := Lib.hid hR; clear hR)
      go_ret
      exact ⟨none, 0, rfl, SlAt.none _ _ _, R.out.1, HK.out.trans R.out.2 (fun _ _ f => f), fun ad e => by cases e⟩
    · have E2 := Lib.hid (show bytR most s = ((s1.getD []).take n, s1.map (List.drop n)) by rw [E.out, if_neg h])
      have hn : n ≤ (s1.getD []).length := Nat.le_of_not_lt h
      clear E h
      rw [E2.out]
      go_enter Try.func14, Try.ntmps14
      go_wp2_with fail
      refine (C.out _ Z.out).mono ?_
      rintro e w1 ⟨rfl, ⟨a, cap, hV⟩, hk⟩
      have c0 := hV.c0
      have hfit := hV.sl.fit
      have HV := Lib.hid hV
      have HK := Lib.hid hk
      clear hV hk
      have wl := top_wrap (show (s1.getD []).length ≤ 9223372036854775807 by omega)
      go_wp2_with fail
      refine (clone_of (HV.out.sl.take n) (takes_len hn) (by omega)).mono ?_
      rintro e w2 ⟨a2, cap2, rfl, hs2, hb2, hf2⟩
      have hV2 := HV.out.below hb2
      have c2 := hV2.c0
      have f2 := hV2.fz 0
      have hp2 := hV2.inP
      have HV2 := Lib.hid hV2
      have HB2 := Lib.hid hb2
      have HF2 := Lib.hid hf2
      have HS2 := Lib.hid hs2
      clear hV2 hb2 hf2 hs2
      have hsz := HK.out.size
      by_cases hcap : cap = n
      · have N1 := Lib.hid (HV2.out.nextA hn hcap).at_drop
        have T1 := Lib.hid (HS2.out.keep ((Keep.refl (fun k => k = p) w2).own 0 (.slice a 0 0)) (fun ad e _ f => by have := (HF2.out ad e).1; have := HV.out.inP; omega))
        have K1 := Lib.hid ((HK.out.trans (Keep.ofBelow (F := fun k => k = p) HB2.out) (fun _ _ f => f)).own 0 (.slice a 0 0))
        subst hcap
        go_wp2_with fail
        go_ret
        exact ⟨a2, cap2, (by rw [takes_len hn]; rfl), T1.out, N1.out, K1.out, fun ad e => Nat.le_trans hsz (HF2.out ad e).1⟩
      · have N1 := Lib.hid (HV2.out.nextB hn hcap).at_drop
        have T1 := Lib.hid (HS2.out.keep ((Keep.refl (fun k => k = p) w2).own 0 (.slice (a.map (·.add n)) ((s1.getD []).length - n) (cap - n))) (fun ad e _ f => by have := (HF2.out ad e).1; have := HV.out.inP; omega))
        have K1 := Lib.hid ((HK.out.trans (Keep.ofBelow (F := fun k => k = p) HB2.out) (fun _ _ f => f)).own 0 (.slice (a.map (·.add n)) ((s1.getD []).length - n) (cap - n)))
        go_wp2_with fail
        go_ret
        exact ⟨a2, cap2, (by rw [takes_len hn]; rfl), T1.out, N1.out, K1.out, fun ad e => Nat.le_trans hsz (HF2.out ad e).1⟩

end Go.Proofs.Ythnglifjijfplaa
