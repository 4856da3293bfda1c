/-
  What a reader's calls do: numbers.
-/
import Derived.Test.YthnglifjijfplaaPwr
namespace Go.Proofs.Ythnglifjijfplaa
open Go.RowKit

/-! What is read, and what is then left (none: bad). -/
def numR (most : Nat) : Option (List Nat) → Nat × Option (List Nat)
  | none => (0, none)
  | some B => if (getN B).2 = 0 ∨ most < (getN B).1 then (0, none) else ((getN B).1, some (B.drop (getN B).2))

def setR (within : Nat) (s : Option (List Nat)) : Nat × Option (List Nat) :=
  if (numR 18446744073709551615 s).1 &&& (18446744073709551615 - within) = 0 then numR 18446744073709551615 s else (0, none)

def bytR (most : Int) (s : Option (List Nat)) : List Nat × Option (List Nat) :=
  if ((numR (max most 0).toNat s).2.getD []).length < (numR (max most 0).toNat s).1 then ([], none)
  else (((numR (max most 0).toNat s).2.getD []).take (numR (max most 0).toNat s).1, (numR (max most 0).toNat s).2.map (List.drop (numR (max most 0).toNat s).1))

def endR : Option (List Nat) → Bool
  | none => false
  | some B => decide (B = [])

theorem numR_bad {most : Nat} {s : Option (List Nat)} (h : (getN (s.getD [])).2 = 0 ∨ most < (getN (s.getD [])).1) : numR most s = (0, none) := by
  cases s with
  | none => rfl
  | some B => exact if_pos h

theorem numR_ok {most : Nat} {s : Option (List Nat)} (h : ¬ ((getN (s.getD [])).2 = 0 ∨ most < (getN (s.getD [])).1)) : ∃ B, s = some B ∧ numR most s = ((getN B).1, some (B.drop (getN B).2)) := by
  cases s with
  | none => exact absurd (Or.inl rfl) h
  | some B => exact ⟨B, rfl, if_neg h⟩

theorem numR_lt (most : Nat) (s : Option (List Nat)) : (numR most s).1 < 18446744073709551616 := by
  cases s with
  | none => exact Nat.lt_of_lt_of_le (show (0 : Nat) < 1 by decide) (by decide)
  | some B =>
    show (if (getN B).2 = 0 ∨ most < (getN B).1 then ((0 : Nat), (none : Option (List Nat))) else ((getN B).1, some (B.drop (getN B).2))).1 < _
    by_cases h : (getN B).2 = 0 ∨ most < (getN B).1
    · rw [if_pos h]; exact (by decide : 0 < 18446744073709551616)
    · rw [if_neg h]; exact getN_lt B

theorem Keep.own {W w : World} {p : Nat} (h : Keep (fun k => k = p) W w) (i : Nat) (u : Value) : Keep (fun k => k = p) W (w.setCell ⟨p, i, none⟩ u) := Keep.setCell h (p := ⟨p, i, none⟩) rfl u

set_option maxHeartbeats 1000000 in
theorem spoil_any (W : World) (p : Nat) (S : Nat → Prop) (bs : List Nat) (bad : Bool) (a : Option Addr) (cap : Nat) (hV : RdV W p S bs bad a cap) :
    Calls Try.prog 28 #[.pointer (some ⟨p, 0, none⟩)] W (RdPost W p S (.tuple #[]) none) := by
  have c0 := hV.c0
  have c1 := hV.c1
  have f0 := hV.fz 0
  have f1 := hV.fz 1
  have HV := Lib.hid hV
  clear hV
  go_enter Try.func28, Try.ntmps28
  go_wp2
  go_end0
  exact ⟨rfl, HV.out.spoilt, ((Keep.refl _ _).own _ _).own _ _⟩

theorem get_of {bs : List Nat} {ao : Option Addr} {cap len n k : Nat} {W : World} (hs : SlAt bV 256 W ao cap bs) (hl : len = bs.length) (hg : getN bs = (n, k)) :
    Calls Try.prog 27 #[.slice ao len cap] W fun e w' => e = .returned (.tuple #[.int .u64 (n : Nat), .int .i64 (k : Nat)]) ∧ W = w' := by
  subst hl
  have := get_any bs ao cap W hs
  rw [hg] at this
  exact this

theorem RdPost.trans {W w1 w2 : World} {p : Nat} {S : Nat → Prop} {v : Value} {s : Option (List Nat)} {e : Ending} (hk : Keep (fun k => k = p) W w1) (h : RdPost w1 p S v s e w2) : RdPost W p S v s e w2 :=
  ⟨h.1, h.2.1, hk.trans h.2.2 (fun _ _ f => f)⟩

set_option maxRecDepth 20000 in
set_option maxHeartbeats 2000000 in
theorem rnum_any (W : World) (p : Nat) (S : Nat → Prop) (s : Option (List Nat)) (most : Nat) (hA : RdAt W p S s) :
    Calls Try.prog 13 #[.pointer (some ⟨p, 0, none⟩), .int .u64 (most : Nat)] W (RdPost W p S (.int .u64 ((numR most s).1 : Nat)) (numR most s).2) := by
  obtain ⟨a, cap, hV⟩ := hA
  have c0 := hV.c0
  have f0 := hV.fz 0
  have hp := hV.inP
  have hgs := getN_size (s.getD [])
  have hgl := getN_lt (s.getD [])
  have hmax := hV.sl.max
  have hfit := hV.sl.fit
  have HV := Lib.hid hV
  clear hV
  by_cases h : (getN (s.getD [])).2 = 0 ∨ most < (getN (s.getD [])).1
  · rw [numR_bad h]
    obtain ⟨n, k, hg⟩ : ∃ n k, getN (s.getD []) = (n, k) := ⟨_, _, rfl⟩
    rw [hg] at h hgs hgl
    have HG := Lib.hid hg
    clear hg
    simp only at h hgs hgl
    by_cases hk : k = 0
    · subst hk
      clear h
      go_enter Try.func13, Try.ntmps13
      go_wp2_with (first
        | (go_at_call 27; refine (get_of HV.out.sl rfl HG.out).mono ?_; rintro e w' ⟨rfl, rfl⟩)
        | (go_at_call 28; refine (spoil_any _ p S _ _ a cap HV.out).mono ?_; rintro e w' ⟨rfl, hR⟩; have R := Lib.hid hR; clear hR))
      go_ret
      exact ⟨rfl, R.out⟩
    · have h2 : most < n := h.elim (fun e => absurd e hk) id
      have d1 : ((k : Int) == 0) = false := by simp; omega
      clear h
      go_enter Try.func13, Try.ntmps13
      go_wp2_with (first
        | (go_at_call 27; refine (get_of HV.out.sl rfl HG.out).mono ?_; rintro e w' ⟨rfl, rfl⟩)
        | (go_at_call 28; refine (spoil_any _ p S _ _ a cap HV.out).mono ?_; rintro e w' ⟨rfl, hR⟩; have R := Lib.hid hR; clear hR))
      go_ret
      exact ⟨rfl, R.out⟩
  · obtain ⟨B, rfl, hR⟩ := numR_ok h
    rw [hR]
    simp only [Option.getD_some] at c0 hgs hgl hfit h HV
    obtain ⟨n, k, hg⟩ : ∃ n k, getN B = (n, k) := ⟨_, _, rfl⟩
    have N1 := Lib.hid (HV.out.next k (by rw [hg] at hgs; exact hgs))
    rw [hg] at h hgs hgl ⊢
    have HG := Lib.hid hg
    clear hg hR
    simp only at h hgs hgl ⊢
    have hk : ¬ k = 0 := fun e => h (Or.inl e)
    have d1 : ((k : Int) == 0) = false := by simp; omega
    have h2 : ¬ most < n := fun e => h (Or.inr e)
    rw [List.length_drop] at N1
    clear h
    by_cases hcap : cap = k
    · rw [if_pos hcap] at N1
      have N2 := N1.out
      clear N1
      subst hcap
      rw [Nat.sub_self, show B.length - cap = 0 by omega] at N2
      have N1 := Lib.hid N2
      clear N2
      go_enter Try.func13, Try.ntmps13
      go_wp2_with (go_at_call 27; refine (get_of HV.out.sl rfl HG.out).mono ?_; rintro e w' ⟨rfl, rfl⟩)
      go_ret
      exact ⟨rfl, ⟨_, _, N1.out⟩, (Keep.refl _ _).own _ _⟩
    · rw [if_neg hcap] at N1
      go_enter Try.func13, Try.ntmps13
      go_wp2_with (go_at_call 27; refine (get_of HV.out.sl rfl HG.out).mono ?_; rintro e w' ⟨rfl, rfl⟩)
      go_ret
      exact ⟨rfl, ⟨_, _, N1.out⟩, (Keep.refl _ _).own _ _⟩

theorem rnum_top (W : World) (p : Nat) (S : Nat → Prop) (s : Option (List Nat)) (hA : RdAt W p S s) :
    Calls Try.prog 13 #[.pointer (some ⟨p, 0, none⟩), .int .u64 18446744073709551615] W (RdPost W p S (.int .u64 ((numR 18446744073709551615 s).1 : Nat)) (numR 18446744073709551615 s).2) :=
  rnum_any W p S s 18446744073709551615 hA

theorem nil_test (B : List Nat) : ((B.length : Int) == 0) = decide (B = []) := by
  cases B with
  | nil => rfl
  | cons x r => simp; omega

set_option maxHeartbeats 2000000 in
theorem rend_any (W : World) (p : Nat) (S : Nat → Prop) (s : Option (List Nat)) (hA : RdAt W p S s) :
    Calls Try.prog 15 #[.pointer (some ⟨p, 0, none⟩)] W fun e w' => e = .returned (.bool (endR s)) ∧ W = w' := by
  obtain ⟨a, cap, hV⟩ := hA
  have c0 := hV.c0
  have c1 := hV.c1
  clear hV
  cases s with
  | none =>
    go_enter Try.func15, Try.ntmps15
    go_wp2_with fail
    go_ret
    exact ⟨rfl, rfl⟩
  | some B =>
    simp only [Option.getD_some, Option.isNone_some] at c0 c1
    have E := Lib.hid (nil_test B)
    go_enter Try.func15, Try.ntmps15
    go_wp2_with fail
    go_ret
    exact ⟨ret_b E.out, rfl⟩

/-- The reader goes on: nothing is left, or something may be. -/
theorem RdV.nextA {w : World} {p k : Nat} {S : Nat → Prop} {bs : List Nat} {bad : Bool} {a : Option Addr} {cap : Nat} (h : RdV w p S bs bad a cap) (hk : k ≤ bs.length) (hc : cap = k) :
    RdV (w.setCell ⟨p, 0, none⟩ (.slice a 0 0)) p S (bs.drop k) bad a 0 := by
  have hn := h.next k hk
  have hf := h.sl.fit
  rw [if_pos hc, List.length_drop, show bs.length - k = 0 by omega, show cap - k = 0 by omega] at hn
  exact hn

theorem RdV.nextB {w : World} {p k : Nat} {S : Nat → Prop} {bs : List Nat} {bad : Bool} {a : Option Addr} {cap : Nat} (h : RdV w p S bs bad a cap) (hk : k ≤ bs.length) (hc : ¬ cap = k) :
    RdV (w.setCell ⟨p, 0, none⟩ (.slice (a.map (·.add k)) (bs.length - k) (cap - k))) p S (bs.drop k) bad (a.map (·.add k)) (cap - k) := by
  have hn := h.next k hk
  rw [if_neg hc, List.length_drop] at hn
  exact hn

def BytPost (W : World) (p : Nat) (S : Nat → Prop) (ys : List Nat) (s : Option (List Nat)) (e : Ending) (w' : World) : Prop :=
  ∃ a cap, e = .returned (.slice a ys.length cap) ∧ SlAt bV 256 w' a cap ys ∧ RdAt w' p S s ∧ Keep (fun k => k = p) W w' ∧ ∀ ad, a = some ad → W.heap.size ≤ ad.block

theorem top_wrap {M : Nat} (h : M ≤ 9223372036854775807) : IntKind.u64.wrap (M : Int) = (M : Int) := by rw [IntKind.wrap_u64]; omega

theorem takes_len {xs : List Nat} {n : Nat} (hn : n ≤ xs.length) : (xs.take n).length = n := by rw [List.length_take]; omega

theorem clone_of {bs : List Nat} {ao : Option Addr} {cap len : Nat} {W : World} (hs : SlAt bV 256 W ao cap bs) (hl : bs.length = len) (hb : len ≤ 2000000) :
    Calls Try.prog 26 #[.slice ao len cap] W (FreshPost W bs) := by
  subst hl
  exact clone_any bs ao cap W hs hb

theorem RdAt.len {w : World} {p : Nat} {S : Nat → Prop} {bs : List Nat} {bad : Bool} {a : Option Addr} {cap : Nat} (h : RdV w p S bs bad a cap) : bs.length ≤ 9223372036854775807 := by
  have h1 := h.sl.fit
  have h2 := h.sl.max
  unfold maxLen at h2
  omega

end Go.Proofs.Ythnglifjijfplaa
