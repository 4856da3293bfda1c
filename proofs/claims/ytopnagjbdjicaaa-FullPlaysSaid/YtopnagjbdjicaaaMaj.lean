/-
  Texts of this claim, put together.
-/
import Derived.Test.YtopnagjbdjicaaaPrepm
import Derived.Deep.RegionLaw

/-
  What a writer's calls do: numbers, bytes.
-/
namespace Go.Proofs.Ytopnagjbdjicaaa
open Go.RowKit

theorem put_nil (n : Nat) (W : World) (hn : n < 18446744073709551616) :
    Calls Try.prog 73 #[.slice none 0 0, .int .u64 (n : Nat)] W (MadePost bV 256 W (lebL n)) := by
  simpa using put_any [] none 0 n W (SlAt.none _ _ _) hn (by simp)

theorem leb_len {n : Nat} (hn : n < 18446744073709551616) : 0 < (lebL n).length ∧ (lebL n).length ≤ 10 := ⟨szN_pos n, szN_word hn⟩

theorem WrV.at2 {w w2 : World} {N p : Nat} {F : Nat → Prop} {bs : List Nat} {v : Value} (h : WrV w N p F bs v) (hgr : w.grownBy w2 v.ownBlock) : w2.cell? ⟨p, 0, none⟩ = some v ∧ w2.frozen? ⟨p, 0, none⟩ = false := by
  have hb : w2.heap[p]? = w.heap[p]? := hgr.block p (h.low p h.inP).2 (fun e => h.apart e.symm)
  exact ⟨(World.cell?_of_block (w := w) (a := ⟨p, 0, none⟩) hb).trans h.cell, (World.frozen?_of_block (w := w) (a := ⟨p, 0, none⟩) hb).trans h.fz⟩

theorem lies_at {v : Value} {H g n cap : Nat} (hat : v.ownBlock = some g ∨ g = H) : ∀ k, (Value.slice (some ⟨g, 0, none⟩) n cap).ownBlock = some k → v.ownBlock = some k ∨ H ≤ k := by
  intro k hk
  have e : g = k := by simpa [Value.ownBlock] using hk
  subst e
  exact hat.imp id (fun h => Nat.le_of_eq h.symm)

set_option maxRecDepth 20000 in
set_option maxHeartbeats 2000000 in
theorem wnum_any (W : World) (N p : Nat) (F : Nat → Prop) (bs : List Nat) (n : Nat) (hA : WrAt W N p F bs) (hn : n < 18446744073709551616) (hl : bs.length ≤ 1000000) :
    Calls Try.prog 51 #[.pointer (some ⟨p, 0, none⟩), .int .u64 (n : Nat)] W (WrPost W N p F (bs ++ lebL n)) := by
  obtain ⟨v, hV⟩ := hA
  obtain ⟨i0, hi0, hz0, hz1, hz2⟩ := info_parts Try.infoB
  have hp : p < W.heap.size := (hV.low p hV.inP).2
  have hN := (hV.low p hV.inP).1
  have c0 := hV.cell
  have f0 := hV.fz
  have c0' : W.drew.cell? ⟨p, 0, none⟩ = some v := c0
  obtain ⟨l1, l2⟩ := leb_len hn
  have HV := Lib.hid hV
  clear hV
  go_enter Try.func51, Try.ntmps51
  go_wp2_with fail
  go_region_law (first
    | (refine step_append_lies _ rfl (.tmp 8) (.tmp 10) 32 rfl N 5 i0 (.int .u8 0) 1 1 Try.underlying32 hi0 hz0 hz1 hz2 rfl (by decide) _ _ _ (by simp [Act.eval]) HO2.out ⟨b1, o1, none⟩ (lebL n).length cap1 ((lebL n).map bV) (by simp [Act.eval]) (by simp) (HS1.out.news ⟨b1, o1, none⟩ rfl) (ones_b _) (by omega) (by unfold maxLen; omega) (by omega) (by omega) _ rfl ?_
       intro g2 cap2 w2 hown2 hgr2 hat2 hlt2
       have R := Lib.hid (HV1.out.post (Keep.ofBelow HB1.out) rfl hown2 hgr2 (lies_at hat2) (lebL_lt n))
       obtain ⟨c2, f2⟩ := HV1.out.at2 hgr2
       clear hown2 hgr2 hat2)
    | (go_simp; go_at_call 73; refine (put_nil n _ hn).mono ?_
       rintro e w1 ⟨a1, cap1, rfl, hs1, hb1⟩
       obtain ⟨b1, o1, rfl, _, _⟩ := hs1.cell 0 l1
       have hb1' : Below W.heap.size W w1 := ⟨hb1.os, hb1.tape, hb1.output, hb1.size, hb1.block⟩
       have hV1 := HV.out.drew.below hb1
       have HV1 := Lib.hid hV1
       have HO2 := Lib.hid hV1.own
       have HB1 := Lib.hid hb1'
       have HS1 := Lib.hid hs1
       have c1 := hV1.cell
       have hp1 := (hV1.low p hV1.inP)
       clear hV1 hb1 hb1' hs1))
  all_goals go_end0
  all_goals exact R.out

theorem WrPost.trans {W w1 w2 : World} {N p : Nat} {F F1 : Nat → Prop} {bs : List Nat} {e : Ending} (hk : Keep F W w1) (hF : ∀ k, F1 k → F k ∨ W.heap.size ≤ k) (h : WrPost w1 N p F1 bs e w2) : WrPost W N p F bs e w2 := by
  obtain ⟨he, F2, hA, hk2, hF2⟩ := h
  refine ⟨he, F2, hA, hk.trans hk2 (fun k hk f => (hF k f).elim id (fun l => by omega)), fun k f => ?_⟩
  rcases hF2 k f with g | g
  · exact hF k g
  · exact Or.inr (Nat.le_trans hk.size g)

/-- A slice that came in lies in none of the blocks that were turned. -/
theorem SlAt.keep {f : Nat → Value} {M : Nat} {F : Nat → Prop} {w w' : World} {a : Option Addr} {cap : Nat} {xs : List Nat} (h : SlAt f M w a cap xs) (hk : Keep F w w') (hF : ∀ ad, a = some ad → xs ≠ [] → ¬ F ad.block) : SlAt f M w' a cap xs :=
  h.carry hk.size (fun ad e h0 l => hk.block ad.block l (hF ad e h0))


/-! A copy, and what all calls so far wrote. -/
def FreshPost (W : World) (ys : List Nat) (e : Ending) (w' : World) : Prop :=
  ∃ a cap, e = .returned (.slice a ys.length cap) ∧ SlAt bV 256 w' a cap ys ∧ Below W.heap.size W w' ∧ ∀ ad, a = some ad → W.heap.size ≤ ad.block ∧ ad.block < w'.heap.size

theorem own_fresh {W w' : World} {v : Value} {ys : List Nat} (h : w'.ownsRow W.heap.size 5 1 v ys.length (ys.map bV)) (hl : ∀ x ∈ ys, x < 256) (hb : Below W.heap.size W w') : FreshPost W ys (.returned v) w' := by
  obtain ⟨_, a, cap, rfl, hs⟩ := own_sl h hl
  exact ⟨a, cap, rfl, hs, hb, fun ad e => by subst e; exact h.lt ad.block rfl⟩

set_option maxRecDepth 20000 in
set_option maxHeartbeats 2000000 in
theorem clone_any (bs : List Nat) (ao : Option Addr) (cap : Nat) (W : World) (hs : SlAt bV 256 W ao cap bs) (hb : bs.length ≤ 2000000) :
    Calls Try.prog 38 #[.slice ao bs.length cap] W (FreshPost W bs) := by
  obtain ⟨i0, hi0, hz0, hz1, hz2⟩ := info_parts Try.infoB
  cases ao with
  | none =>
    have hc := hs.nil rfl
    have hf := hs.fit
    obtain rfl : bs = [] := List.length_eq_zero_iff.1 (by omega)
    subst hc
    have he : ∀ w : World, (binOp .eql 32 (.slice none 0 0) (.slice none 0 0)).run Try.prog w = .ok (.bool true) w := fun _ => rfl
    go_enter Try.func38, Try.ntmps38
    go_wp2_with fail
    go_ret
    exact ⟨none, 0, rfl, SlAt.none _ _ _, Below.refl _ _, fun ad e => by cases e⟩
  | some ad =>
    have S := Lib.hid hs
    clear hs
    have he : ∀ w : World, (binOp .eql 32 (.slice (some ad) bs.length cap) (.slice none 0 0)).run Try.prog w = .ok (.bool false) w := fun _ => rfl
    have O := Lib.hid (World.ownsRow_lit (base := W.heap.size) (e := 5) (size := 1) W #[] 0 (Nat.le_refl _) (by unfold maxLen; omega) rfl)
    go_enter Try.func38, Try.ntmps38
    go_wp2_with (at_builtin; refine wpList_append_at rfl (.tmp 5) (.tmp 6) 32 rfl W.heap.size 5 i0 (.int .u8 0) 1 1 Try.underlying32 hi0 hz0 hz1 hz2 rfl (by decide) _ _ _ rfl O.out _ _ _ (bs.map bV) rfl (by simp) S.out.empty (S.out.below ((Below.refl _ _).alloc (Nat.le_refl _) _)).news (ones_b _) (by unfold maxLen; omega) (by omega) (by simp) ?_
                 intro v2 w2 hown2 hgr2 hat2
                 have hb2 : Below W.heap.size W w2 := ((Below.refl _ _).alloc (Nat.le_refl _) _).grown hgr2 (by simp) (fun k h => (O.out.lt k h).1)
                 try rw [Nat.zero_add, List.nil_append] at hown2
                 have R := Lib.hid (own_fresh hown2 S.out.lt hb2)
                 clear hown2 hgr2 hb2 hat2)
    go_ret
    exact R.out

theorem WrV.slice {w : World} {N p : Nat} {F : Nat → Prop} {bs : List Nat} {v : Value} (h : WrV w N p F bs v) : ∃ a cap, v = .slice a bs.length cap ∧ SlAt bV 256 w a cap bs := (own_sl h.own h.lt).2

set_option maxHeartbeats 2000000 in
theorem wdone_any (W : World) (N p : Nat) (F : Nat → Prop) (bs : List Nat) (hA : WrAt W N p F bs) (hl : bs.length ≤ 2000000) :
    Calls Try.prog 52 #[.pointer (some ⟨p, 0, none⟩)] W (FreshPost W bs) := by
  obtain ⟨v, hV⟩ := hA
  have c0 := hV.cell
  obtain ⟨a, cap, rfl, hs⟩ := hV.slice
  have HS := Lib.hid hs
  clear hV hs
  go_enter Try.func52, Try.ntmps52
  go_wp2_with (go_at_call 38; refine (clone_any bs a cap W HS.out hl).mono ?_; rintro e w' ⟨a2, cap2, rfl, h2⟩; have R := Lib.hid h2; clear h2)
  go_ret
  exact ⟨a2, cap2, rfl, R.out⟩

def NewWrPost (W : World) (N : Nat) (e : Ending) (w' : World) : Prop :=
  e = .returned (.pointer (some ⟨W.heap.size, 0, none⟩)) ∧ WrAt w' N W.heap.size (fun k => k = W.heap.size) [] ∧ Below W.heap.size W w'

theorem new_wr (W : World) (N : Nat) (hN : N ≤ W.heap.size) (t : TypeId) : WrV (W.alloc (.cells #[.slice none 0 0] t)) N W.heap.size (fun k => k = W.heap.size) [] (.slice none 0 0) :=
  ⟨by simp, by simp, World.ownsRow_nil .., rfl, fun k hk => by simp [Value.ownBlock] at hk, fun k f => by subst f; simpa using hN, by simp [Value.ownBlock], by simp⟩

set_option maxHeartbeats 1000000 in
theorem wnew_any (W : World) (N : Nat) (hN : N ≤ W.heap.size) : Calls Try.prog 50 #[] W (NewWrPost W N) := by
  have HN := Lib.hid hN
  go_enter Try.func50, Try.ntmps50
  go_wp2_with fail
  go_ret
  exact ⟨rfl, ⟨_, new_wr W N HN.out _⟩, (Below.refl _ _).alloc (Nat.le_refl _) _⟩

end Go.Proofs.Ytopnagjbdjicaaa

/-
  What a reader's calls do: numbers.
-/
namespace Go.Proofs.Ytopnagjbdjicaaa
open Go.RowKit

/-! What is read, and what is then left (none: bad). -/
def numR (most : Nat) : Option (List Nat) → Nat × Option (List Nat)
  | none => (0, none)
  | some B => if (getN B).2 = 0 ∨ most < (getN B).1 then (0, none) else ((getN B).1, some (B.drop (getN B).2))

def setR (within : Nat) (s : Option (List Nat)) : Nat × Option (List Nat) :=
  if (numR 18446744073709551615 s).1 &&& (18446744073709551615 - within) = 0 then numR 18446744073709551615 s else (0, none)

def bytR (most : Int) (s : Option (List Nat)) : List Nat × Option (List Nat) :=
  if ((numR (max most 0).toNat s).2.getD []).length < (numR (max most 0).toNat s).1 then ([], none)
  else (((numR (max most 0).toNat s).2.getD []).take (numR (max most 0).toNat s).1, (numR (max most 0).toNat s).2.map (List.drop (numR (max most 0).toNat s).1))

def endR : Option (List Nat) → Bool
  | none => false
  | some B => decide (B = [])

theorem numR_bad {most : Nat} {s : Option (List Nat)} (h : (getN (s.getD [])).2 = 0 ∨ most < (getN (s.getD [])).1) : numR most s = (0, none) := by
  cases s with
  | none => rfl
  | some B => exact if_pos h

theorem numR_ok {most : Nat} {s : Option (List Nat)} (h : ¬ ((getN (s.getD [])).2 = 0 ∨ most < (getN (s.getD [])).1)) : ∃ B, s = some B ∧ numR most s = ((getN B).1, some (B.drop (getN B).2)) := by
  cases s with
  | none => exact absurd (Or.inl rfl) h
  | some B => exact ⟨B, rfl, if_neg h⟩

theorem numR_lt (most : Nat) (s : Option (List Nat)) : (numR most s).1 < 18446744073709551616 := by
  cases s with
  | none => exact Nat.lt_of_lt_of_le (show (0 : Nat) < 1 by decide) (by decide)
  | some B =>
    show (if (getN B).2 = 0 ∨ most < (getN B).1 then ((0 : Nat), (none : Option (List Nat))) else ((getN B).1, some (B.drop (getN B).2))).1 < _
    by_cases h : (getN B).2 = 0 ∨ most < (getN B).1
    · rw [if_pos h]; exact (by decide : 0 < 18446744073709551616)
    · rw [if_neg h]; exact getN_lt B

theorem Keep.own {W w : World} {p : Nat} (h : Keep (fun k => k = p) W w) (i : Nat) (u : Value) : Keep (fun k => k = p) W (w.setCell ⟨p, i, none⟩ u) := Keep.setCell h (p := ⟨p, i, none⟩) rfl u

set_option maxHeartbeats 1000000 in
theorem spoil_any (W : World) (p : Nat) (S : Nat → Prop) (bs : List Nat) (bad : Bool) (a : Option Addr) (cap : Nat) (hV : RdV W p S bs bad a cap) :
    Calls Try.prog 70 #[.pointer (some ⟨p, 0, none⟩)] W (RdPost W p S (.tuple #[]) none) := by
  have c0 := hV.c0
  have c1 := hV.c1
  have f0 := hV.fz 0
  have f1 := hV.fz 1
  have HV := Lib.hid hV
  clear hV
  go_enter Try.func70, Try.ntmps70
  go_wp2
  go_end0
  exact ⟨rfl, HV.out.spoilt, ((Keep.refl _ _).own _ _).own _ _⟩

theorem get_of {bs : List Nat} {ao : Option Addr} {cap len n k : Nat} {W : World} (hs : SlAt bV 256 W ao cap bs) (hl : len = bs.length) (hg : getN bs = (n, k)) :
    Calls Try.prog 69 #[.slice ao len cap] W fun e w' => e = .returned (.tuple #[.int .u64 (n : Nat), .int .i64 (k : Nat)]) ∧ W = w' := by
  subst hl
  have := get_any bs ao cap W hs
  rw [hg] at this
  exact this

theorem RdPost.trans {W w1 w2 : World} {p : Nat} {S : Nat → Prop} {v : Value} {s : Option (List Nat)} {e : Ending} (hk : Keep (fun k => k = p) W w1) (h : RdPost w1 p S v s e w2) : RdPost W p S v s e w2 :=
  ⟨h.1, h.2.1, hk.trans h.2.2 (fun _ _ f => f)⟩

set_option maxRecDepth 20000 in
set_option maxHeartbeats 2000000 in
theorem rnum_any (W : World) (p : Nat) (S : Nat → Prop) (s : Option (List Nat)) (most : Nat) (hA : RdAt W p S s) :
    Calls Try.prog 44 #[.pointer (some ⟨p, 0, none⟩), .int .u64 (most : Nat)] W (RdPost W p S (.int .u64 ((numR most s).1 : Nat)) (numR most s).2) := by
  obtain ⟨a, cap, hV⟩ := hA
  have c0 := hV.c0
  have f0 := hV.fz 0
  have hp := hV.inP
  have hgs := getN_size (s.getD [])
  have hgl := getN_lt (s.getD [])
  have hmax := hV.sl.max
  have hfit := hV.sl.fit
  have HV := Lib.hid hV
  clear hV
  by_cases h : (getN (s.getD [])).2 = 0 ∨ most < (getN (s.getD [])).1
  · rw [numR_bad h]
    obtain ⟨n, k, hg⟩ : ∃ n k, getN (s.getD []) = (n, k) := ⟨_, _, rfl⟩
    rw [hg] at h hgs hgl
    have HG := Lib.hid hg
    clear hg
    simp only at h hgs hgl
    by_cases hk : k = 0
    · subst hk
      clear h
      go_enter Try.func44, Try.ntmps44
      go_wp2_with (first
        | (go_at_call 69; refine (get_of HV.out.sl rfl HG.out).mono ?_; rintro e w' ⟨rfl, rfl⟩)
        | (go_at_call 70; refine (spoil_any _ p S _ _ a cap HV.out).mono ?_; rintro e w' ⟨rfl, hR⟩; have R := Lib.hid hR; clear hR))
      go_ret
      exact ⟨rfl, R.out⟩
    · have h2 : most < n := h.elim (fun e => absurd e hk) id
      have d1 : ((k : Int) == 0) = false := by simp; omega
      clear h
      go_enter Try.func44, Try.ntmps44
      go_wp2_with (first
        | (go_at_call 69; refine (get_of HV.out.sl rfl HG.out).mono ?_; rintro e w' ⟨rfl, rfl⟩)
        | (go_at_call 70; refine (spoil_any _ p S _ _ a cap HV.out).mono ?_; rintro e w' ⟨rfl, hR⟩; have R := Lib.hid hR; clear hR))
      go_ret
      exact ⟨rfl, R.out⟩
  · obtain ⟨B, rfl, hR⟩ := numR_ok h
    rw [hR]
    simp only [Option.getD_some] at c0 hgs hgl hfit h HV
    obtain ⟨n, k, hg⟩ : ∃ n k, getN B = (n, k) := ⟨_, _, rfl⟩
    have N1 := Lib.hid (HV.out.next k (by rw [hg] at hgs; exact hgs))
    rw [hg] at h hgs hgl ⊢
    have HG := Lib.hid hg
    clear hg hR
    simp only at h hgs hgl ⊢
    have hk : ¬ k = 0 := fun e => h (Or.inl e)
    have d1 : ((k : Int) == 0) = false := by simp; omega
    have h2 : ¬ most < n := fun e => h (Or.inr e)
    rw [List.length_drop] at N1
    clear h
    by_cases hcap : cap = k
    · rw [if_pos hcap] at N1
      have N2 := N1.out
      clear N1
      subst hcap
      rw [Nat.sub_self, show B.length - cap = 0 by omega] at N2
      have N1 := Lib.hid N2
      clear N2
      go_enter Try.func44, Try.ntmps44
      go_wp2_with (go_at_call 69; refine (get_of HV.out.sl rfl HG.out).mono ?_; rintro e w' ⟨rfl, rfl⟩)
      go_ret
      exact ⟨rfl, ⟨_, _, N1.out⟩, (Keep.refl _ _).own _ _⟩
    · rw [if_neg hcap] at N1
      go_enter Try.func44, Try.ntmps44
      go_wp2_with (go_at_call 69; refine (get_of HV.out.sl rfl HG.out).mono ?_; rintro e w' ⟨rfl, rfl⟩)
      go_ret
      exact ⟨rfl, ⟨_, _, N1.out⟩, (Keep.refl _ _).own _ _⟩

theorem rnum_top (W : World) (p : Nat) (S : Nat → Prop) (s : Option (List Nat)) (hA : RdAt W p S s) :
    Calls Try.prog 44 #[.pointer (some ⟨p, 0, none⟩), .int .u64 18446744073709551615] W (RdPost W p S (.int .u64 ((numR 18446744073709551615 s).1 : Nat)) (numR 18446744073709551615 s).2) :=
  rnum_any W p S s 18446744073709551615 hA

theorem nil_test (B : List Nat) : ((B.length : Int) == 0) = decide (B = []) := by
  cases B with
  | nil => rfl
  | cons x r => simp; omega

set_option maxHeartbeats 2000000 in
theorem rend_any (W : World) (p : Nat) (S : Nat → Prop) (s : Option (List Nat)) (hA : RdAt W p S s) :
    Calls Try.prog 45 #[.pointer (some ⟨p, 0, none⟩)] W fun e w' => e = .returned (.bool (endR s)) ∧ W = w' := by
  obtain ⟨a, cap, hV⟩ := hA
  have c0 := hV.c0
  have c1 := hV.c1
  clear hV
  cases s with
  | none =>
    go_enter Try.func45, Try.ntmps45
    go_wp2_with fail
    go_ret
    exact ⟨rfl, rfl⟩
  | some B =>
    simp only [Option.getD_some, Option.isNone_some] at c0 c1
    have E := Lib.hid (nil_test B)
    go_enter Try.func45, Try.ntmps45
    go_wp2_with fail
    go_ret
    exact ⟨ret_b E.out, rfl⟩

/-- The reader goes on: nothing is left, or something may be. -/
theorem RdV.nextA {w : World} {p k : Nat} {S : Nat → Prop} {bs : List Nat} {bad : Bool} {a : Option Addr} {cap : Nat} (h : RdV w p S bs bad a cap) (hk : k ≤ bs.length) (hc : cap = k) :
    RdV (w.setCell ⟨p, 0, none⟩ (.slice a 0 0)) p S (bs.drop k) bad a 0 := by
  have hn := h.next k hk
  have hf := h.sl.fit
  rw [if_pos hc, List.length_drop, show bs.length - k = 0 by omega, show cap - k = 0 by omega] at hn
  exact hn

theorem RdV.nextB {w : World} {p k : Nat} {S : Nat → Prop} {bs : List Nat} {bad : Bool} {a : Option Addr} {cap : Nat} (h : RdV w p S bs bad a cap) (hk : k ≤ bs.length) (hc : ¬ cap = k) :
    RdV (w.setCell ⟨p, 0, none⟩ (.slice (a.map (·.add k)) (bs.length - k) (cap - k))) p S (bs.drop k) bad (a.map (·.add k)) (cap - k) := by
  have hn := h.next k hk
  rw [if_neg hc, List.length_drop] at hn
  exact hn

def BytPost (W : World) (p : Nat) (S : Nat → Prop) (ys : List Nat) (s : Option (List Nat)) (e : Ending) (w' : World) : Prop :=
  ∃ a cap, e = .returned (.slice a ys.length cap) ∧ SlAt bV 256 w' a cap ys ∧ RdAt w' p S s ∧ Keep (fun k => k = p) W w' ∧ ∀ ad, a = some ad → W.heap.size ≤ ad.block

theorem top_wrap {M : Nat} (h : M ≤ 9223372036854775807) : IntKind.u64.wrap (M : Int) = (M : Int) := by rw [IntKind.wrap_u64]; omega

theorem takes_len {xs : List Nat} {n : Nat} (hn : n ≤ xs.length) : (xs.take n).length = n := by rw [List.length_take]; omega

theorem clone_of {bs : List Nat} {ao : Option Addr} {cap len : Nat} {W : World} (hs : SlAt bV 256 W ao cap bs) (hl : bs.length = len) (hb : len ≤ 2000000) :
    Calls Try.prog 38 #[.slice ao len cap] W (FreshPost W bs) := by
  subst hl
  exact clone_any bs ao cap W hs hb

theorem RdAt.len {w : World} {p : Nat} {S : Nat → Prop} {bs : List Nat} {bad : Bool} {a : Option Addr} {cap : Nat} (h : RdV w p S bs bad a cap) : bs.length ≤ 9223372036854775807 := by
  have h1 := h.sl.fit
  have h2 := h.sl.max
  unfold maxLen at h2
  omega

end Go.Proofs.Ytopnagjbdjicaaa

/-
  Bytes are read.
-/
namespace Go.Proofs.Ytopnagjbdjicaaa
open Go.RowKit

theorem RdV.at_drop {w : World} {p n : Nat} {S : Nat → Prop} {s : Option (List Nat)} {a : Option Addr} {cap : Nat} (h : RdV w p S ((s.getD []).drop n) s.isNone a cap) : RdAt w p S (s.map (List.drop n)) := by
  refine ⟨a, cap, ?_⟩
  cases s with
  | none => simpa using h
  | some B => exact h


end Go.Proofs.Ytopnagjbdjicaaa

/-
  A reader begins.
-/
namespace Go.Proofs.Ytopnagjbdjicaaa
open Go.RowKit

def NewRdPost (W : World) (bs : List Nat) (e : Ending) (w' : World) : Prop :=
  ∃ p S, e = .returned (.pointer (some ⟨p, 0, none⟩)) ∧ RdAt w' p S (some bs) ∧ Below W.heap.size W w' ∧ W.heap.size ≤ p ∧ ∀ k, S k → W.heap.size ≤ k ∧ k < p

theorem new_rd {W w1 : World} {bs : List Nat} {a : Option Addr} {cap : Nat} {t : TypeId} (hs : SlAt bV 256 w1 a cap bs) (hb : Below W.heap.size W w1) (hf : ∀ ad, a = some ad → W.heap.size ≤ ad.block ∧ ad.block < w1.heap.size) :
    NewRdPost W bs (.returned (.pointer (some ⟨w1.heap.size, 0, none⟩))) (w1.alloc (.cells #[.slice a bs.length cap, .bool false] t)) := by
  refine ⟨w1.heap.size, fun k => W.heap.size ≤ k ∧ k < w1.heap.size, rfl, ⟨a, cap, ?_⟩, hb.alloc hb.size _, hb.size, fun k h => h⟩
  exact ⟨by simp, by simp, fun i => by simp, by simp, hs.below ((Below.refl _ _).alloc (Nat.le_refl _) _), (fun ad e _ => hf ad e), fun h => by omega⟩

set_option maxHeartbeats 2000000 in
theorem rnew_any (W : World) (bs : List Nat) (ao : Option Addr) (cap : Nat) (hs : SlAt bV 256 W ao cap bs) (hl : bs.length ≤ 2000000) :
    Calls Try.prog 43 #[.slice ao bs.length cap] W (NewRdPost W bs) := by
  have HS := Lib.hid hs
  clear hs
  go_enter Try.func43, Try.ntmps43
  go_wp2_with fail
  refine (clone_any bs ao cap W HS.out hl).mono ?_
  rintro e w1 ⟨a1, cap1, rfl, hs1, hb1, hf1⟩
  have R := Lib.hid (new_rd (t := 118) hs1 hb1 hf1)
  clear hs1 hb1 hf1
  go_wp2_with fail
  go_ret
  exact R.out

end Go.Proofs.Ytopnagjbdjicaaa

/-
  What the document's own reader's calls do: numbers.
-/
namespace Go.Proofs.Ytopnagjbdjicaaa
open Go.RowKit

set_option maxHeartbeats 1000000 in
theorem fail_any (W : World) (p : Nat) (S : Nat → Prop) (bs : List Nat) (bad : Bool) (a : Option Addr) (cap : Nat) (hV : RdV W p S bs bad a cap) :
    Calls Try.prog 79 #[.pointer (some ⟨p, 0, none⟩)] W (RdPost W p S (.tuple #[]) none) := by
  have c0 := hV.c0
  have c1 := hV.c1
  have f0 := hV.fz 0
  have f1 := hV.fz 1
  have HV := Lib.hid hV
  clear hV
  go_enter Try.func79, Try.ntmps79
  go_wp2
  go_end0
  exact ⟨rfl, HV.out.spoilt', ((Keep.refl _ _).own _ _).own _ _⟩

theorem get_nil : getN [] = (0, 0) := rfl

theorem rget_of' {bs : List Nat} {ao : Option Addr} {cap len n k : Nat} {W : World} (hs : SlAt bV 256 W ao cap bs) (hl : len = bs.length) (hg : getN bs = (n, k)) :
    Calls Try.prog 78 #[.slice ao len cap] W fun e w' => e = .returned (.tuple #[.int .u64 (n : Nat), .int .i64 (k : Nat)]) ∧ W = w' := by
  subst hl
  have := rget_any bs ao cap W hs
  rw [hg] at this
  exact this

set_option maxRecDepth 20000 in
set_option maxHeartbeats 2000000 in
theorem rrnum_any (W : World) (p : Nat) (S : Nat → Prop) (s : Option (List Nat)) (most : Nat) (hA : RdAt W p S s) :
    Calls Try.prog 58 #[.pointer (some ⟨p, 0, none⟩), .int .u64 (most : Nat)] W (RdPost W p S (.int .u64 ((numR most s).1 : Nat)) (numR most s).2) := by
  obtain ⟨a, cap, hV⟩ := hA
  have c0 := hV.c0
  have c1 := hV.c1
  have f0 := hV.fz 0
  have hp := hV.inP
  have hgs := getN_size (s.getD [])
  have hmax := hV.sl.max
  have hfit := hV.sl.fit
  have HV := Lib.hid hV
  clear hV
  cases s with
  | none =>
    simp only [Option.getD_none, Option.isNone_none] at c0 c1 HV hfit
    go_enter Try.func58, Try.ntmps58
    go_wp2_with (first
      | (go_at_call 78; refine (rget_of' HV.out.sl rfl get_nil).mono ?_; rintro e w' ⟨rfl, rfl⟩)
      | (go_at_call 79; refine (fail_any _ p S _ _ a cap HV.out).mono ?_; rintro e w' ⟨rfl, hR⟩; have R := Lib.hid hR; clear hR))
    go_ret
    exact ⟨rfl, R.out⟩
  | some B =>
    simp only [Option.getD_some, Option.isNone_some] at c0 c1 hgs hfit HV
    obtain ⟨n, k, hg⟩ : ∃ n k, getN B = (n, k) := ⟨_, _, rfl⟩
    have E : numR most (some B) = if k = 0 ∨ most < n then (0, none) else (n, some (B.drop k)) := by
      show (if (getN B).2 = 0 ∨ most < (getN B).1 then _ else _) = _
      rw [hg]
    rw [hg] at hgs
    have HG := Lib.hid hg
    clear hg
    simp only at hgs
    by_cases hk : k = 0
    · rw [if_pos (Or.inl hk)] at E
      rw [E]
      subst hk
      clear E
      go_enter Try.func58, Try.ntmps58
      go_wp2_with (first
        | (go_at_call 78; refine (rget_of' HV.out.sl rfl HG.out).mono ?_; rintro e w' ⟨rfl, rfl⟩)
        | (go_at_call 79; refine (fail_any _ p S _ _ a cap HV.out).mono ?_; rintro e w' ⟨rfl, hR⟩; have R := Lib.hid hR; clear hR))
      go_ret
      exact ⟨rfl, R.out⟩
    · have d1 : ((k : Int) == 0) = false := by simp; omega
      by_cases h2 : most < n
      · rw [if_pos (Or.inr h2)] at E
        rw [E]
        clear E
        go_enter Try.func58, Try.ntmps58
        go_wp2_with (first
          | (go_at_call 78; refine (rget_of' HV.out.sl rfl HG.out).mono ?_; rintro e w' ⟨rfl, rfl⟩)
          | (go_at_call 79; refine (fail_any _ p S _ _ a cap HV.out).mono ?_; rintro e w' ⟨rfl, hR⟩; have R := Lib.hid hR; clear hR))
        go_ret
        exact ⟨rfl, R.out⟩
      · rw [if_neg (fun e => e.elim hk h2)] at E
        rw [E]
        clear E
        by_cases hcap : cap = k
        · have N1 := Lib.hid (HV.out.nextA hgs hcap)
          subst hcap
          go_enter Try.func58, Try.ntmps58
          go_wp2_with (go_at_call 78; refine (rget_of' HV.out.sl rfl HG.out).mono ?_; rintro e w' ⟨rfl, rfl⟩)
          go_ret
          exact ⟨rfl, ⟨_, _, N1.out⟩, (Keep.refl _ _).own _ _⟩
        · have N1 := Lib.hid (HV.out.nextB hgs hcap)
          go_enter Try.func58, Try.ntmps58
          go_wp2_with (go_at_call 78; refine (rget_of' HV.out.sl rfl HG.out).mono ?_; rintro e w' ⟨rfl, rfl⟩)
          go_ret
          exact ⟨rfl, ⟨_, _, N1.out⟩, (Keep.refl _ _).own _ _⟩

theorem setR_some {t n k : Nat} {B : List Nat} (hg : getN B = (n, k)) : setR t (some B) = if k = 0 ∨ n &&& (18446744073709551615 - t) ≠ 0 then (0, none) else (n, some (B.drop k)) := by
  have hl := getN_lt B
  rw [hg] at hl
  have E : numR 18446744073709551615 (some B) = if k = 0 ∨ 18446744073709551615 < n then (0, none) else (n, some (B.drop k)) := by
    show (if (getN B).2 = 0 ∨ 18446744073709551615 < (getN B).1 then _ else _) = _
    rw [hg]
  unfold setR
  rw [E]
  by_cases hk : k = 0
  · rw [if_pos (Or.inl hk), if_pos (Or.inl hk)]
    simp
  · have hl : n < 18446744073709551616 := hl
    rw [if_neg (show ¬ (k = 0 ∨ 18446744073709551615 < n) by omega)]
    by_cases hz : n &&& (18446744073709551615 - t) = 0
    · rw [if_pos hz, if_neg (fun e => e.elim hk (fun f => f hz))]
    · rw [if_neg hz, if_pos (Or.inr hz)]

set_option maxHeartbeats 2000000 in
theorem rrend_any (W : World) (p : Nat) (S : Nat → Prop) (s : Option (List Nat)) (hA : RdAt W p S s) :
    Calls Try.prog 59 #[.pointer (some ⟨p, 0, none⟩)] W fun e w' => e = .returned (.bool (endR s)) ∧ W = w' := by
  obtain ⟨a, cap, hV⟩ := hA
  have c0 := hV.c0
  have c1 := hV.c1
  clear hV
  cases s with
  | none =>
    go_enter Try.func59, Try.ntmps59
    go_wp2_with fail
    go_ret
    exact ⟨rfl, rfl⟩
  | some B =>
    simp only [Option.getD_some, Option.isNone_some] at c0 c1
    have E := Lib.hid (nil_test B)
    go_enter Try.func59, Try.ntmps59
    go_wp2_with fail
    go_ret
    exact ⟨ret_b E.out, rfl⟩

end Go.Proofs.Ytopnagjbdjicaaa

/-
  The document's own reader reads bytes.
-/
namespace Go.Proofs.Ytopnagjbdjicaaa
open Go.RowKit

theorem bytR_some {most : Int} {n k : Nat} {B : List Nat} (hg : getN B = (n, k)) :
    bytR most (some B) = if k = 0 ∨ (max most 0).toNat < n ∨ B.length - k < n then ([], none) else ((B.drop k).take n, some (B.drop (k + n))) := by
  have E : numR (max most 0).toNat (some B) = if k = 0 ∨ (max most 0).toNat < n then (0, none) else (n, some (B.drop k)) := by
    show (if (getN B).2 = 0 ∨ (max most 0).toNat < (getN B).1 then _ else _) = _
    rw [hg]
  unfold bytR
  rw [E]
  by_cases h1 : k = 0 ∨ (max most 0).toNat < n
  · rw [if_pos h1, if_pos (h1.elim Or.inl (fun h => Or.inr (Or.inl h)))]
    simp
  · rw [if_neg h1]
    simp only [Option.getD_some, List.length_drop, Option.map_some, List.drop_drop]
    by_cases h2 : B.length - k < n
    · rw [if_pos h2, if_pos (Or.inr (Or.inr h2))]
    · rw [if_neg h2, if_neg (fun h => h.elim (fun h => h1 (Or.inl h)) (fun h => h.elim (fun h => h1 (Or.inr h)) h2))]

/-- What was read lies in new memory; the reader is as it was. -/
theorem app_res {W w0 w2 : World} {p n k : Nat} {S : Nat → Prop} {B : List Nat} {a a2 : Option Addr} {cap cap2 : Nat} (hV : RdV w0 p S B false a cap) (hS : ∀ k, S k → k < W.heap.size) (hk : Keep (fun k => k = p) W w0) (hp : p < W.heap.size) (hs : W.heap.size < w0.heap.size) (hlt : ∀ x ∈ (B.drop k).take n, x < 256)
    (hown : w2.ownsRow W.heap.size 5 1 (.slice a2 (0 + n) cap2) (0 + n) ([] ++ ((B.drop k).take n).map bV)) (hgr : w0.grownBy w2 (some W.heap.size)) :
    RdV w2 p S B false a cap ∧ Keep (fun k => k = p) W w2 ∧ SlAt bV 256 w2 a2 cap2 ((B.drop k).take n) ∧ ∀ ad, a2 = some ad → W.heap.size ≤ ad.block := by
  have hb : ∀ k, k < W.heap.size → w2.heap[k]? = w0.heap[k]? := fun k hk => hgr.block k (by omega) (fun e => by cases e; omega)
  refine ⟨hV.carry hgr.size (hb p hp) (fun k hl f => hb k (hS k f)), hk.grown hgr (fun k e => by cases e; exact Or.inr (Nat.le_refl _)), ?_, fun ad e => ?_⟩
  · rw [Nat.zero_add, List.nil_append] at hown
    have hown' : w2.ownsRow W.heap.size 5 1 (.slice a2 n cap2) n (((B.drop k).take n).map bV) := hown
    obtain ⟨_, a3, c3, e, h⟩ := own_sl hown' hlt
    simp only [Value.slice.injEq] at e
    obtain ⟨rfl, _, rfl⟩ := e
    exact h
  · subst e
    exact (hown.lt ad.block rfl).1


end Go.Proofs.Ytopnagjbdjicaaa

/-
  What the document's own writer's calls do.
-/
namespace Go.Proofs.Ytopnagjbdjicaaa
open Go.RowKit

def OwnPost (W : World) (ys : List Nat) (e : Ending) (w' : World) : Prop :=
  ∃ v, e = .returned v ∧ w'.ownsRow W.heap.size 5 1 v ys.length (ys.map bV) ∧ Below W.heap.size W w'

theorem own_end {W wr w2 : World} {bs ms : List Nat} {m n : Nat} {v2 : Value} {o : Obj} {a : Option Addr} {c : Nat} (hm : m < 128) (hB : Below W.heap.size W wr) (hO : wr.ownsRow W.heap.size 5 1 (.slice a ms.length c) ms.length (ms.map bV)) (he : ms ++ lebL m = bs ++ lebL n)
    (hown : w2.ownsRow W.heap.size 5 1 v2 (ms.length + 1) (ms.map bV ++ [bV m])) (hgr : (wr.alloc o).grownBy w2 (Value.slice a ms.length c).ownBlock) : OwnPost W (bs ++ lebL n) (.returned v2) w2 := by
  rw [lebL_lo hm] at he
  have e : ms.map bV ++ [bV m] = (bs ++ lebL n).map bV := by rw [← he]; simp
  have e2 : ms.length + 1 = (bs ++ lebL n).length := by rw [← he]; simp
  rw [e, e2] at hown
  exact ⟨v2, rfl, hown, (hB.alloc hB.size o).grown hgr (by have := hB.size; simp; omega) (fun b h => (hO.lt b h).1)⟩

theorem rem_more (m : Nat) : Value.int .u8 ((m : Int) % 128 + 128) = bV (m % 128 + 128) := by simp [bV]

set_option maxRecDepth 20000 in
set_option maxHeartbeats 2000000 in
theorem rput_own (bs : List Nat) (ao : Option Addr) (cap n : Nat) (W : World) (hs : SlAt bV 256 W ao cap bs) (hn : n < 18446744073709551616) (hb : bs.length ≤ 1000000) :
    Calls Try.prog 80 #[.slice ao bs.length cap, .int .u64 (n : Nat)] W (OwnPost W (bs ++ lebL n)) := by
  obtain ⟨i0, hi0, hz0, hz1, hz2⟩ := info_parts Try.infoB
  have S := Lib.hid hs
  clear hs
  have hown0 := World.ownsRow_lit (base := W.heap.size) (e := 5) (size := 1) W #[] 0 (Nat.le_refl _) (by unfold maxLen; omega) rfl
  have O := Lib.hid hown0
  clear hown0
  go_enter Try.func80, Try.ntmps80
  go_wp2_with (at_builtin; refine wpList_append_opt rfl (.tmp 5) (.tmp 6) 32 rfl W.heap.size 5 i0 (.int .u8 0) 1 1 Try.underlying32 hi0 hz0 hz1 hz2 rfl (by decide) _ _ _ rfl O.out _ _ _ (bs.map bV) rfl (by simp) S.out.empty (S.out.below ((Below.refl _ _).alloc (Nat.le_refl _) _)).news (ones_b _) (by unfold maxLen; omega) (by omega) (by simp) ?_
               intro v2 w2 hown2 hgr2
               have hb2 : Below W.heap.size W w2 := ((Below.refl _ _).alloc (Nat.le_refl _) _).grown hgr2 (by simp) (fun k h => (O.out.lt k h).1)
               try rw [Nat.zero_add, List.nil_append] at hown2
               have HO2 := Lib.hid hown2
               have HB2 := Lib.hid hb2
               clear hown2 hgr2 hb2)
  obtain ⟨_, a2, c2, rfl, _⟩ := own_sl HO2.out S.out.lt
  go_loopw [0, 1] (fun l v wr => PutRel W bs n v l wr) (fun _ v _ => (intOf v).toNat)
  case atStart => exact ⟨n, bs, a2, c2, hn, rfl, rfl, HO2.out, HB2.out, rfl⟩
  case round =>
    obtain ⟨m, ms, a, c, hm, rfl, rfl, hO, hB, he⟩ := hrel
    have hl := put_len he hn hb
    have HO := Lib.hid hO
    have HB := Lib.hid hB
    have HE := Lib.hid he
    clear hO hB he
    by_cases h128 : m < 128
    · go_wp2_with (at_builtin; refine wpList_append_own _ rfl (.tmp 19) (.tmp 22) 32 rfl W.heap.size 5 i0 (.int .u8 0) 1 1 Try.underlying32 hi0 hz0 hz1 hz2 rfl (by decide) _ _ _ rfl (World.ownsRow.alloc HO.out _) ⟨wr.heap.size, 0, none⟩ 1 1 [bV m] rfl rfl (World.news_of_block (heap_alloc_new _ _)) (by simp [bV, Value.oneCell']) (by unfold maxLen; omega) (by omega) (by have := HB.out.size; simp; omega) ?_
                   intro v2 w2 hown2 hgr2 _
                   have R := Lib.hid (own_end h128 HB.out HO.out HE.out hown2 hgr2)
                   clear hown2 hgr2)
      go_ret
      exact R.out
    · have hor := Lib.hid (rem_more m)
      go_wp2_with (at_builtin; refine wpList_append_own _ rfl (.tmp 10) (.tmp 15) 32 rfl W.heap.size 5 i0 (.int .u8 0) 1 1 Try.underlying32 hi0 hz0 hz1 hz2 rfl (by decide) _ _ _ rfl (World.ownsRow.alloc HO.out _) ⟨wr.heap.size, 0, none⟩ 1 1 [.int .u8 ((m : Int) % 128 + 128)] rfl rfl (World.news_of_block (heap_alloc_new _ _)) (by simp [Value.oneCell']) (by unfold maxLen; omega) (by omega) (by have := HB.out.size; simp; omega) ?_
                   intro v2 w2 hown2 hgr2 _
                   rw [hor.out] at hown2
                   have R := Lib.hid (put_step h128 hm HB.out HO.out HE.out hown2 hgr2)
                   clear hown2 hgr2)
      go_roundw
      case rel => exact R.out
      case measure => simp only [intOf]; omega

/-- A new row is stored in the writer's cell. -/
theorem WrV.fresh {w w2 : World} {N p : Nat} {F : Nat → Prop} {bs cs : List Nat} {v v2 : Value} (h : WrV w N p F bs v) (hown : w2.ownsRow w.heap.size 5 1 v2 cs.length (cs.map bV)) (hb : Below w.heap.size w w2) (hc : ∀ x ∈ cs, x < 256) :
    WrPost w N p F cs (.returned (.tuple #[])) (w2.setCell ⟨p, 0, none⟩ v2) := by
  have hp := (h.low p h.inP).2
  have hNw : N ≤ w.heap.size := by have := (h.low p h.inP).1; omega
  have hap : v2.ownBlock ≠ some p := fun e => by have := (hown.lt p e).1; omega
  have hbp : w2.heap[p]? = w.heap[p]? := hb.block p hp
  refine ⟨rfl, fun k => F k ∨ v2.ownBlock = some k, ⟨v2, ⟨World.cell?_setCell_same (h := (World.cell?_of_block (w := w) (a := ⟨p, 0, none⟩) hbp).trans h.cell) .., (World.frozen?_setCell ..).trans ((World.frozen?_of_block (w := w) (a := ⟨p, 0, none⟩) hbp).trans h.fz), ownsRow_setCell_other (own_mono hown hNw) hap _, Or.inl h.inP, fun k hk => Or.inr hk, fun k f => ?_, hap, hc⟩⟩, (Keep.ofBelow hb).setCell (p := ⟨p, 0, none⟩) h.inP _, fun k f => ?_⟩
  · rcases f with f | f
    · exact ⟨(h.low k f).1, Nat.lt_of_lt_of_le (h.low k f).2 (by simpa [World.setCell] using hb.size)⟩
    · have := hown.lt k f
      exact ⟨Nat.le_trans hNw this.1, by simpa [World.setCell] using this.2⟩
  · exact f.elim Or.inl (fun f => Or.inr (hown.lt k f).1)

theorem rput_of {bs : List Nat} {ao : Option Addr} {cap len n : Nat} {W : World} (hs : SlAt bV 256 W ao cap bs) (hl : len = bs.length) (hn : n < 18446744073709551616) (hb : bs.length ≤ 1000000) :
    Calls Try.prog 80 #[.slice ao len cap, .int .u64 (n : Nat)] W (OwnPost W (bs ++ lebL n)) := by
  subst hl
  exact rput_own bs ao cap n W hs hn hb

set_option maxRecDepth 20000 in
set_option maxHeartbeats 2000000 in
theorem rwnum_any (W : World) (N p : Nat) (F : Nat → Prop) (bs : List Nat) (n : Nat) (hA : WrAt W N p F bs) (hn : n < 18446744073709551616) (hl : bs.length ≤ 1000000) :
    Calls Try.prog 60 #[.pointer (some ⟨p, 0, none⟩), .int .u64 (n : Nat)] W (WrPost W N p F (bs ++ lebL n)) := by
  obtain ⟨v, hV⟩ := hA
  have hp : p < W.heap.size := (hV.low p hV.inP).2
  have c0 := hV.cell
  have f0 := hV.fz
  obtain ⟨a, cap, rfl, hs⟩ := hV.slice
  have HS := Lib.hid hs
  have HV := Lib.hid hV
  clear hV hs
  go_enter Try.func60, Try.ntmps60
  go_wp2_with fail
  refine (rput_of HS.out rfl hn hl).mono ?_
  rintro e w2 ⟨v2, rfl, hown, hb⟩
  have hbp : w2.heap[p]? = W.heap[p]? := hb.block p hp
  have c2 := (World.cell?_of_block (w := W) (a := ⟨p, 0, none⟩) hbp).trans HV.out.cell
  have f2 := (World.frozen?_of_block (w := W) (a := ⟨p, 0, none⟩) hbp).trans HV.out.fz
  obtain ⟨a2, cap2, rfl⟩ := own_form hown
  have R := Lib.hid (HV.out.fresh hown hb (fun x hx => (List.mem_append.1 hx).elim (HV.out.lt x) (lebL_lt n x)))
  clear hown hb
  go_wp2_with fail
  go_end0
  simpa only [List.length_append] using R.out



end Go.Proofs.Ytopnagjbdjicaaa

/-
  What is written is read again: numbers, bytes, sets.
-/
namespace Go.Proofs.Ytopnagjbdjicaaa
open Go.RowKit

theorem num_back {n most : Nat} (hn : n < 18446744073709551616) (hm : n ≤ most) (r : List Nat) : numR most (some (lebL n ++ r)) = (n, some r) := by
  show (if (getN (lebL n ++ r)).2 = 0 ∨ most < (getN (lebL n ++ r)).1 then _ else _) = _
  rw [getN_lebL hn]
  have := szN_pos n
  rw [if_neg (by simp only; omega)]
  show (n, some ((lebL n ++ r).drop (szN n))) = _
  rw [show szN n = (lebL n).length from rfl, List.drop_left' rfl]

theorem byt_back {bs : List Nat} {most : Int} (hm : (bs.length : Int) ≤ most) (hb : bs.length < 18446744073709551616) (r : List Nat) : bytR most (some (lebL bs.length ++ (bs ++ r))) = (bs, some r) := by
  have e := num_back (most := (max most 0).toNat) hb (by omega) (bs ++ r)
  unfold bytR
  rw [e]
  simp only [Option.getD_some, List.length_append]
  rw [if_neg (by omega), List.take_left' rfl]
  simp [List.drop_left' rfl]

theorem set_back {n : Nat} (hn : n < 18446744073709551616) (r : List Nat) : setR 18446744073709551615 (some (lebL n ++ r)) = (n, some r) := by
  unfold setR
  rw [num_back hn (by omega) r]
  simp

end Go.Proofs.Ytopnagjbdjicaaa
