/-
  What the document's own reader's calls do: numbers.
-/
import Derived.Test.YthnglifjijfplaaPrn
namespace Go.Proofs.Ythnglifjijfplaa
open Go.RowKit

set_option maxHeartbeats 1000000 in
theorem fail_any (W : World) (p : Nat) (S : Nat → Prop) (bs : List Nat) (bad : Bool) (a : Option Addr) (cap : Nat) (hV : RdV W p S bs bad a cap) :
    Calls Try.prog 31 #[.pointer (some ⟨p, 0, none⟩)] W (RdPost W p S (.tuple #[]) none) := by
  have c0 := hV.c0
  have c1 := hV.c1
  have f0 := hV.fz 0
  have f1 := hV.fz 1
  have HV := Lib.hid hV
  clear hV
  go_enter Try.func31, Try.ntmps31
  go_wp2
  go_end0
  exact ⟨rfl, HV.out.spoilt', ((Keep.refl _ _).own _ _).own _ _⟩

theorem get_nil : getN [] = (0, 0) := rfl

theorem rget_of' {bs : List Nat} {ao : Option Addr} {cap len n k : Nat} {W : World} (hs : SlAt bV 256 W ao cap bs) (hl : len = bs.length) (hg : getN bs = (n, k)) :
    Calls Try.prog 30 #[.slice ao len cap] W fun e w' => e = .returned (.tuple #[.int .u64 (n : Nat), .int .i64 (k : Nat)]) ∧ W = w' := by
  subst hl
  have := rget_any bs ao cap W hs
  rw [hg] at this
  exact this

set_option maxRecDepth 20000 in
set_option maxHeartbeats 2000000 in
theorem rrnum_any (W : World) (p : Nat) (S : Nat → Prop) (s : Option (List Nat)) (most : Nat) (hA : RdAt W p S s) :
    Calls Try.prog 21 #[.pointer (some ⟨p, 0, none⟩), .int .u64 (most : Nat)] W (RdPost W p S (.int .u64 ((numR most s).1 : Nat)) (numR most s).2) := by
  obtain ⟨a, cap, hV⟩ := hA
  have c0 := hV.c0
  have c1 := hV.c1
  have f0 := hV.fz 0
  have hp := hV.inP
  have hgs := getN_size (s.getD [])
  have hmax := hV.sl.max
  have hfit := hV.sl.fit
  have HV := Lib.hid hV
  clear hV
  cases s with
  | none =>
    simp only [Option.getD_none, Option.isNone_none] at c0 c1 HV hfit
    go_enter Try.func21, Try.ntmps21
    go_wp2_with (first
      | (go_at_call 30; refine (rget_of' HV.out.sl rfl get_nil).mono ?_; rintro e w' ⟨rfl, rfl⟩)
      | (go_at_call 31; refine (fail_any _ p S _ _ a cap HV.out).mono ?_; rintro e w' ⟨rfl, hR⟩; have R := Lib.hid hR; clear hR))
    go_ret
    exact ⟨rfl, R.out⟩
  | some B =>
    simp only [Option.getD_some, Option.isNone_some] at c0 c1 hgs hfit HV
    obtain ⟨n, k, hg⟩ : ∃ n k, getN B = (n, k) := ⟨_, _, rfl⟩
    have E : numR most (some B) = if k = 0 ∨ most < n then (0, none) else (n, some (B.drop k)) := by
      show (if (getN B).2 = 0 ∨ most < (getN B).1 then _ else _) = _
      rw [hg]
    rw [hg] at hgs
    have HG := Lib.hid hg
    clear hg
    simp only at hgs
    by_cases hk : k = 0
    · rw [if_pos (Or.inl hk)] at E
      rw [E]
      subst hk
      clear E
      go_enter Try.func21, Try.ntmps21
      go_wp2_with (first
        | (go_at_call 30; refine (rget_of' HV.out.sl rfl HG.out).mono ?_; rintro e w' ⟨rfl, rfl⟩)
        | (go_at_call 31; refine (fail_any _ p S _ _ a cap HV.out).mono ?_; rintro e w' ⟨rfl, hR⟩; have R := Lib.hid hR; clear hR))
      go_ret
      exact ⟨rfl, R.out⟩
    · have d1 : ((k : Int) == 0) = false := by simp; omega
      by_cases h2 : most < n
      · rw [if_pos (Or.inr h2)] at E
        rw [E]
        clear E
        go_enter Try.func21, Try.ntmps21
        go_wp2_with (first
          | (go_at_call 30; refine (rget_of' HV.out.sl rfl HG.out).mono ?_; rintro e w' ⟨rfl, rfl⟩)
          | (go_at_call 31; refine (fail_any _ p S _ _ a cap HV.out).mono ?_; rintro e w' ⟨rfl, hR⟩; have R := Lib.hid hR; clear hR))
        go_ret
        exact ⟨rfl, R.out⟩
      · rw [if_neg (fun e => e.elim hk h2)] at E
        rw [E]
        clear E
        by_cases hcap : cap = k
        · have N1 := Lib.hid (HV.out.nextA hgs hcap)
          subst hcap
          go_enter Try.func21, Try.ntmps21
          go_wp2_with (go_at_call 30; refine (rget_of' HV.out.sl rfl HG.out).mono ?_; rintro e w' ⟨rfl, rfl⟩)
          go_ret
          exact ⟨rfl, ⟨_, _, N1.out⟩, (Keep.refl _ _).own _ _⟩
        · have N1 := Lib.hid (HV.out.nextB hgs hcap)
          go_enter Try.func21, Try.ntmps21
          go_wp2_with (go_at_call 30; refine (rget_of' HV.out.sl rfl HG.out).mono ?_; rintro e w' ⟨rfl, rfl⟩)
          go_ret
          exact ⟨rfl, ⟨_, _, N1.out⟩, (Keep.refl _ _).own _ _⟩

theorem setR_some {t n k : Nat} {B : List Nat} (hg : getN B = (n, k)) : setR t (some B) = if k = 0 ∨ n &&& (18446744073709551615 - t) ≠ 0 then (0, none) else (n, some (B.drop k)) := by
  have hl := getN_lt B
  rw [hg] at hl
  have E : numR 18446744073709551615 (some B) = if k = 0 ∨ 18446744073709551615 < n then (0, none) else (n, some (B.drop k)) := by
    show (if (getN B).2 = 0 ∨ 18446744073709551615 < (getN B).1 then _ else _) = _
    rw [hg]
  unfold setR
  rw [E]
  by_cases hk : k = 0
  · rw [if_pos (Or.inl hk), if_pos (Or.inl hk)]
    simp
  · have hl : n < 18446744073709551616 := hl
    rw [if_neg (show ¬ (k = 0 ∨ 18446744073709551615 < n) by omega)]
    by_cases hz : n &&& (18446744073709551615 - t) = 0
    · rw [if_pos hz, if_neg (fun e => e.elim hk (fun f => f hz))]
    · rw [if_neg hz, if_pos (Or.inr hz)]

set_option maxHeartbeats 2000000 in
theorem rrend_any (W : World) (p : Nat) (S : Nat → Prop) (s : Option (List Nat)) (hA : RdAt W p S s) :
    Calls Try.prog 23 #[.pointer (some ⟨p, 0, none⟩)] W fun e w' => e = .returned (.bool (endR s)) ∧ W = w' := by
  obtain ⟨a, cap, hV⟩ := hA
  have c0 := hV.c0
  have c1 := hV.c1
  clear hV
  cases s with
  | none =>
    go_enter Try.func23, Try.ntmps23
    go_wp2_with fail
    go_ret
    exact ⟨rfl, rfl⟩
  | some B =>
    simp only [Option.getD_some, Option.isNone_some] at c0 c1
    have E := Lib.hid (nil_test B)
    go_enter Try.func23, Try.ntmps23
    go_wp2_with fail
    go_ret
    exact ⟨ret_b E.out, rfl⟩

end Go.Proofs.Ythnglifjijfplaa
