/-
  Texts of this claim, put together.
-/
import Derived.Test.YtbmpeadoicjpnaaPrepm
import Derived.Deep.RegionLaw

/-
  What a writer's calls do: numbers, bytes.
-/
namespace Go.Proofs.Ytbmpeadoicjpnaa
open Go.RowKit

theorem put_nil (n : Nat) (W : World) (hn : n < 18446744073709551616) :
    Calls Try.prog 69 #[.slice none 0 0, .int .u64 (n : Nat)] W (MadePost bV 256 W (lebL n)) := by
  simpa using put_any [] none 0 n W (SlAt.none _ _ _) hn (by simp)

theorem leb_len {n : Nat} (hn : n < 18446744073709551616) : 0 < (lebL n).length ∧ (lebL n).length ≤ 10 := ⟨szN_pos n, szN_word hn⟩

theorem WrV.at2 {w w2 : World} {N p : Nat} {F : Nat → Prop} {bs : List Nat} {v : Value} (h : WrV w N p F bs v) (hgr : w.grownBy w2 v.ownBlock) : w2.cell? ⟨p, 0, none⟩ = some v ∧ w2.frozen? ⟨p, 0, none⟩ = false := by
  have hb : w2.heap[p]? = w.heap[p]? := hgr.block p (h.low p h.inP).2 (fun e => h.apart e.symm)
  exact ⟨(World.cell?_of_block (w := w) (a := ⟨p, 0, none⟩) hb).trans h.cell, (World.frozen?_of_block (w := w) (a := ⟨p, 0, none⟩) hb).trans h.fz⟩

theorem lies_at {v : Value} {H g n cap : Nat} (hat : v.ownBlock = some g ∨ g = H) : ∀ k, (Value.slice (some ⟨g, 0, none⟩) n cap).ownBlock = some k → v.ownBlock = some k ∨ H ≤ k := by
  intro k hk
  have e : g = k := by simpa [Value.ownBlock] using hk
  subst e
  exact hat.imp id (fun h => Nat.le_of_eq h.symm)

set_option maxRecDepth 20000 in
set_option maxHeartbeats 2000000 in
theorem wnum_any (W : World) (N p : Nat) (F : Nat → Prop) (bs : List Nat) (n : Nat) (hA : WrAt W N p F bs) (hn : n < 18446744073709551616) (hl : bs.length ≤ 1000000) :
    Calls Try.prog 45 #[.pointer (some ⟨p, 0, none⟩), .int .u64 (n : Nat)] W (WrPost W N p F (bs ++ lebL n)) := by
  obtain ⟨v, hV⟩ := hA
  obtain ⟨i0, hi0, hz0, hz1, hz2⟩ := info_parts Try.infoB
  have hp : p < W.heap.size := (hV.low p hV.inP).2
  have hN := (hV.low p hV.inP).1
  have c0 := hV.cell
  have f0 := hV.fz
  have c0' : W.drew.cell? ⟨p, 0, none⟩ = some v := c0
  obtain ⟨l1, l2⟩ := leb_len hn
  have HV := Lib.hid hV
  clear hV
  go_enter Try.func45, Try.ntmps45
  go_wp2_with fail
  go_region_law (first
    | (refine step_append_lies _ rfl (.tmp 8) (.tmp 10) 37 rfl N 5 i0 (.int .u8 0) 1 1 Try.underlying37 hi0 hz0 hz1 hz2 rfl (by decide) _ _ _ (by simp [Act.eval]) HO2.out ⟨b1, o1, none⟩ (lebL n).length cap1 ((lebL n).map bV) (by simp [Act.eval]) (by simp) (HS1.out.news ⟨b1, o1, none⟩ rfl) (ones_b _) (by omega) (by unfold maxLen; omega) (by omega) (by omega) _ rfl ?_
       intro g2 cap2 w2 hown2 hgr2 hat2 hlt2
       have R := Lib.hid (HV1.out.post (Keep.ofBelow HB1.out) rfl hown2 hgr2 (lies_at hat2) (lebL_lt n))
       obtain ⟨c2, f2⟩ := HV1.out.at2 hgr2
       clear hown2 hgr2 hat2)
    | (go_simp; go_at_call 69; refine (put_nil n _ hn).mono ?_
       rintro e w1 ⟨a1, cap1, rfl, hs1, hb1⟩
       obtain ⟨b1, o1, rfl, _, _⟩ := hs1.cell 0 l1
       have hb1' : Below W.heap.size W w1 := ⟨hb1.os, hb1.tape, hb1.output, hb1.size, hb1.block⟩
       have hV1 := HV.out.drew.below hb1
       have HV1 := Lib.hid hV1
       have HO2 := Lib.hid hV1.own
       have HB1 := Lib.hid hb1'
       have HS1 := Lib.hid hs1
       have c1 := hV1.cell
       have hp1 := (hV1.low p hV1.inP)
       clear hV1 hb1 hb1' hs1))
  all_goals go_end0
  all_goals exact R.out

theorem WrPost.trans {W w1 w2 : World} {N p : Nat} {F F1 : Nat → Prop} {bs : List Nat} {e : Ending} (hk : Keep F W w1) (hF : ∀ k, F1 k → F k ∨ W.heap.size ≤ k) (h : WrPost w1 N p F1 bs e w2) : WrPost W N p F bs e w2 := by
  obtain ⟨he, F2, hA, hk2, hF2⟩ := h
  refine ⟨he, F2, hA, hk.trans hk2 (fun k hk f => (hF k f).elim id (fun l => by omega)), fun k f => ?_⟩
  rcases hF2 k f with g | g
  · exact hF k g
  · exact Or.inr (Nat.le_trans hk.size g)

/-- A slice that came in lies in none of the blocks that were turned. -/
theorem SlAt.keep {f : Nat → Value} {M : Nat} {F : Nat → Prop} {w w' : World} {a : Option Addr} {cap : Nat} {xs : List Nat} (h : SlAt f M w a cap xs) (hk : Keep F w w') (hF : ∀ ad, a = some ad → xs ≠ [] → ¬ F ad.block) : SlAt f M w' a cap xs :=
  h.carry hk.size (fun ad e h0 l => hk.block ad.block l (hF ad e h0))


/-! A copy, and what all calls so far wrote. -/
def FreshPost (W : World) (ys : List Nat) (e : Ending) (w' : World) : Prop :=
  ∃ a cap, e = .returned (.slice a ys.length cap) ∧ SlAt bV 256 w' a cap ys ∧ Below W.heap.size W w' ∧ ∀ ad, a = some ad → W.heap.size ≤ ad.block ∧ ad.block < w'.heap.size

theorem own_fresh {W w' : World} {v : Value} {ys : List Nat} (h : w'.ownsRow W.heap.size 5 1 v ys.length (ys.map bV)) (hl : ∀ x ∈ ys, x < 256) (hb : Below W.heap.size W w') : FreshPost W ys (.returned v) w' := by
  obtain ⟨_, a, cap, rfl, hs⟩ := own_sl h hl
  exact ⟨a, cap, rfl, hs, hb, fun ad e => by subst e; exact h.lt ad.block rfl⟩

set_option maxRecDepth 20000 in
set_option maxHeartbeats 2000000 in
theorem clone_any (bs : List Nat) (ao : Option Addr) (cap : Nat) (W : World) (hs : SlAt bV 256 W ao cap bs) (hb : bs.length ≤ 2000000) :
    Calls Try.prog 65 #[.slice ao bs.length cap] W (FreshPost W bs) := by
  obtain ⟨i0, hi0, hz0, hz1, hz2⟩ := info_parts Try.infoB
  cases ao with
  | none =>
    have hc := hs.nil rfl
    have hf := hs.fit
    obtain rfl : bs = [] := List.length_eq_zero_iff.1 (by omega)
    subst hc
    have he : ∀ w : World, (binOp .eql 37 (.slice none 0 0) (.slice none 0 0)).run Try.prog w = .ok (.bool true) w := fun _ => rfl
    go_enter Try.func65, Try.ntmps65
    go_wp2_with fail
    go_ret
    exact ⟨none, 0, rfl, SlAt.none _ _ _, Below.refl _ _, fun ad e => by cases e⟩
  | some ad =>
    have S := Lib.hid hs
    clear hs
    have he : ∀ w : World, (binOp .eql 37 (.slice (some ad) bs.length cap) (.slice none 0 0)).run Try.prog w = .ok (.bool false) w := fun _ => rfl
    have O := Lib.hid (World.ownsRow_lit (base := W.heap.size) (e := 5) (size := 1) W #[] 0 (Nat.le_refl _) (by unfold maxLen; omega) rfl)
    go_enter Try.func65, Try.ntmps65
    go_wp2_with (at_builtin; refine wpList_append_at rfl (.tmp 5) (.tmp 6) 37 rfl W.heap.size 5 i0 (.int .u8 0) 1 1 Try.underlying37 hi0 hz0 hz1 hz2 rfl (by decide) _ _ _ rfl O.out _ _ _ (bs.map bV) rfl (by simp) S.out.empty (S.out.below ((Below.refl _ _).alloc (Nat.le_refl _) _)).news (ones_b _) (by unfold maxLen; omega) (by omega) (by simp) ?_
                 intro v2 w2 hown2 hgr2 hat2
                 have hb2 : Below W.heap.size W w2 := ((Below.refl _ _).alloc (Nat.le_refl _) _).grown hgr2 (by simp) (fun k h => (O.out.lt k h).1)
                 try rw [Nat.zero_add, List.nil_append] at hown2
                 have R := Lib.hid (own_fresh hown2 S.out.lt hb2)
                 clear hown2 hgr2 hb2 hat2)
    go_ret
    exact R.out

theorem WrV.slice {w : World} {N p : Nat} {F : Nat → Prop} {bs : List Nat} {v : Value} (h : WrV w N p F bs v) : ∃ a cap, v = .slice a bs.length cap ∧ SlAt bV 256 w a cap bs := (own_sl h.own h.lt).2

set_option maxHeartbeats 2000000 in
theorem wdone_any (W : World) (N p : Nat) (F : Nat → Prop) (bs : List Nat) (hA : WrAt W N p F bs) (hl : bs.length ≤ 2000000) :
    Calls Try.prog 47 #[.pointer (some ⟨p, 0, none⟩)] W (FreshPost W bs) := by
  obtain ⟨v, hV⟩ := hA
  have c0 := hV.cell
  obtain ⟨a, cap, rfl, hs⟩ := hV.slice
  have HS := Lib.hid hs
  clear hV hs
  go_enter Try.func47, Try.ntmps47
  go_wp2_with (go_at_call 65; refine (clone_any bs a cap W HS.out hl).mono ?_; rintro e w' ⟨a2, cap2, rfl, h2⟩; have R := Lib.hid h2; clear h2)
  go_ret
  exact ⟨a2, cap2, rfl, R.out⟩

def NewWrPost (W : World) (N : Nat) (e : Ending) (w' : World) : Prop :=
  e = .returned (.pointer (some ⟨W.heap.size, 0, none⟩)) ∧ WrAt w' N W.heap.size (fun k => k = W.heap.size) [] ∧ Below W.heap.size W w'

theorem new_wr (W : World) (N : Nat) (hN : N ≤ W.heap.size) (t : TypeId) : WrV (W.alloc (.cells #[.slice none 0 0] t)) N W.heap.size (fun k => k = W.heap.size) [] (.slice none 0 0) :=
  ⟨by simp, by simp, World.ownsRow_nil .., rfl, fun k hk => by simp [Value.ownBlock] at hk, fun k f => by subst f; simpa using hN, by simp [Value.ownBlock], by simp⟩

set_option maxHeartbeats 1000000 in
theorem wnew_any (W : World) (N : Nat) (hN : N ≤ W.heap.size) : Calls Try.prog 44 #[] W (NewWrPost W N) := by
  have HN := Lib.hid hN
  go_enter Try.func44, Try.ntmps44
  go_wp2_with fail
  go_ret
  exact ⟨rfl, ⟨_, new_wr W N HN.out _⟩, (Below.refl _ _).alloc (Nat.le_refl _) _⟩

end Go.Proofs.Ytbmpeadoicjpnaa

/-
  What a reader's calls do: numbers.
-/
namespace Go.Proofs.Ytbmpeadoicjpnaa
open Go.RowKit

/-! What is read, and what is then left (none: bad). -/
def numR (most : Nat) : Option (List Nat) → Nat × Option (List Nat)
  | none => (0, none)
  | some B => if (getN B).2 = 0 ∨ most < (getN B).1 then (0, none) else ((getN B).1, some (B.drop (getN B).2))

def setR (within : Nat) (s : Option (List Nat)) : Nat × Option (List Nat) :=
  if (numR 18446744073709551615 s).1 &&& (18446744073709551615 - within) = 0 then numR 18446744073709551615 s else (0, none)

def bytR (most : Int) (s : Option (List Nat)) : List Nat × Option (List Nat) :=
  if ((numR (max most 0).toNat s).2.getD []).length < (numR (max most 0).toNat s).1 then ([], none)
  else (((numR (max most 0).toNat s).2.getD []).take (numR (max most 0).toNat s).1, (numR (max most 0).toNat s).2.map (List.drop (numR (max most 0).toNat s).1))

def endR : Option (List Nat) → Bool
  | none => false
  | some B => decide (B = [])

theorem numR_bad {most : Nat} {s : Option (List Nat)} (h : (getN (s.getD [])).2 = 0 ∨ most < (getN (s.getD [])).1) : numR most s = (0, none) := by
  cases s with
  | none => rfl
  | some B => exact if_pos h

theorem numR_ok {most : Nat} {s : Option (List Nat)} (h : ¬ ((getN (s.getD [])).2 = 0 ∨ most < (getN (s.getD [])).1)) : ∃ B, s = some B ∧ numR most s = ((getN B).1, some (B.drop (getN B).2)) := by
  cases s with
  | none => exact absurd (Or.inl rfl) h
  | some B => exact ⟨B, rfl, if_neg h⟩

theorem numR_lt (most : Nat) (s : Option (List Nat)) : (numR most s).1 < 18446744073709551616 := by
  cases s with
  | none => exact Nat.lt_of_lt_of_le (show (0 : Nat) < 1 by decide) (by decide)
  | some B =>
    show (if (getN B).2 = 0 ∨ most < (getN B).1 then ((0 : Nat), (none : Option (List Nat))) else ((getN B).1, some (B.drop (getN B).2))).1 < _
    by_cases h : (getN B).2 = 0 ∨ most < (getN B).1
    · rw [if_pos h]; exact (by decide : 0 < 18446744073709551616)
    · rw [if_neg h]; exact getN_lt B

theorem Keep.own {W w : World} {p : Nat} (h : Keep (fun k => k = p) W w) (i : Nat) (u : Value) : Keep (fun k => k = p) W (w.setCell ⟨p, i, none⟩ u) := Keep.setCell h (p := ⟨p, i, none⟩) rfl u

set_option maxHeartbeats 1000000 in
theorem spoil_any (W : World) (p : Nat) (S : Nat → Prop) (bs : List Nat) (bad : Bool) (a : Option Addr) (cap : Nat) (hV : RdV W p S bs bad a cap) :
    Calls Try.prog 67 #[.pointer (some ⟨p, 0, none⟩)] W (RdPost W p S (.tuple #[]) none) := by
  have c0 := hV.c0
  have c1 := hV.c1
  have f0 := hV.fz 0
  have f1 := hV.fz 1
  have HV := Lib.hid hV
  clear hV
  go_enter Try.func67, Try.ntmps67
  go_wp2
  go_end0
  exact ⟨rfl, HV.out.spoilt, ((Keep.refl _ _).own _ _).own _ _⟩

theorem get_of {bs : List Nat} {ao : Option Addr} {cap len n k : Nat} {W : World} (hs : SlAt bV 256 W ao cap bs) (hl : len = bs.length) (hg : getN bs = (n, k)) :
    Calls Try.prog 66 #[.slice ao len cap] W fun e w' => e = .returned (.tuple #[.int .u64 (n : Nat), .int .i64 (k : Nat)]) ∧ W = w' := by
  subst hl
  have := get_any bs ao cap W hs
  rw [hg] at this
  exact this

theorem RdPost.trans {W w1 w2 : World} {p : Nat} {S : Nat → Prop} {v : Value} {s : Option (List Nat)} {e : Ending} (hk : Keep (fun k => k = p) W w1) (h : RdPost w1 p S v s e w2) : RdPost W p S v s e w2 :=
  ⟨h.1, h.2.1, hk.trans h.2.2 (fun _ _ f => f)⟩

set_option maxRecDepth 20000 in
set_option maxHeartbeats 2000000 in
theorem rnum_any (W : World) (p : Nat) (S : Nat → Prop) (s : Option (List Nat)) (most : Nat) (hA : RdAt W p S s) :
    Calls Try.prog 41 #[.pointer (some ⟨p, 0, none⟩), .int .u64 (most : Nat)] W (RdPost W p S (.int .u64 ((numR most s).1 : Nat)) (numR most s).2) := by
  obtain ⟨a, cap, hV⟩ := hA
  have c0 := hV.c0
  have f0 := hV.fz 0
  have hp := hV.inP
  have hgs := getN_size (s.getD [])
  have hgl := getN_lt (s.getD [])
  have hmax := hV.sl.max
  have hfit := hV.sl.fit
  have HV := Lib.hid hV
  clear hV
  by_cases h : (getN (s.getD [])).2 = 0 ∨ most < (getN (s.getD [])).1
  · rw [numR_bad h]
    obtain ⟨n, k, hg⟩ : ∃ n k, getN (s.getD []) = (n, k) := ⟨_, _, rfl⟩
    rw [hg] at h hgs hgl
    have HG := Lib.hid hg
    clear hg
    simp only at h hgs hgl
    by_cases hk : k = 0
    · subst hk
      clear h
      go_enter Try.func41, Try.ntmps41
      go_wp2_with (first
        | (go_at_call 66; refine (get_of HV.out.sl rfl HG.out).mono ?_; rintro e w' ⟨rfl, rfl⟩)
        | (go_at_call 67; refine (spoil_any _ p S _ _ a cap HV.out).mono ?_; rintro e w' ⟨rfl, hR⟩; have R := Lib.hid hR; clear hR))
      go_ret
      exact ⟨rfl, R.out⟩
    · have h2 : most < n := h.elim (fun e => absurd e hk) id
      have d1 : ((k : Int) == 0) = false := by simp; omega
      clear h
      go_enter Try.func41, Try.ntmps41
      go_wp2_with (first
        | (go_at_call 66; refine (get_of HV.out.sl rfl HG.out).mono ?_; rintro e w' ⟨rfl, rfl⟩)
        | (go_at_call 67; refine (spoil_any _ p S _ _ a cap HV.out).mono ?_; rintro e w' ⟨rfl, hR⟩; have R := Lib.hid hR; clear hR))
      go_ret
      exact ⟨rfl, R.out⟩
  · obtain ⟨B, rfl, hR⟩ := numR_ok h
    rw [hR]
    simp only [Option.getD_some] at c0 hgs hgl hfit h HV
    obtain ⟨n, k, hg⟩ : ∃ n k, getN B = (n, k) := ⟨_, _, rfl⟩
    have N1 := Lib.hid (HV.out.next k (by rw [hg] at hgs; exact hgs))
    rw [hg] at h hgs hgl ⊢
    have HG := Lib.hid hg
    clear hg hR
    simp only at h hgs hgl ⊢
    have hk : ¬ k = 0 := fun e => h (Or.inl e)
    have d1 : ((k : Int) == 0) = false := by simp; omega
    have h2 : ¬ most < n := fun e => h (Or.inr e)
    rw [List.length_drop] at N1
    clear h
    by_cases hcap : cap = k
    · rw [if_pos hcap] at N1
      have N2 := N1.out
      clear N1
      subst hcap
      rw [Nat.sub_self, show B.length - cap = 0 by omega] at N2
      have N1 := Lib.hid N2
      clear N2
      go_enter Try.func41, Try.ntmps41
      go_wp2_with (go_at_call 66; refine (get_of HV.out.sl rfl HG.out).mono ?_; rintro e w' ⟨rfl, rfl⟩)
      go_ret
      exact ⟨rfl, ⟨_, _, N1.out⟩, (Keep.refl _ _).own _ _⟩
    · rw [if_neg hcap] at N1
      go_enter Try.func41, Try.ntmps41
      go_wp2_with (go_at_call 66; refine (get_of HV.out.sl rfl HG.out).mono ?_; rintro e w' ⟨rfl, rfl⟩)
      go_ret
      exact ⟨rfl, ⟨_, _, N1.out⟩, (Keep.refl _ _).own _ _⟩

theorem rnum_top (W : World) (p : Nat) (S : Nat → Prop) (s : Option (List Nat)) (hA : RdAt W p S s) :
    Calls Try.prog 41 #[.pointer (some ⟨p, 0, none⟩), .int .u64 18446744073709551615] W (RdPost W p S (.int .u64 ((numR 18446744073709551615 s).1 : Nat)) (numR 18446744073709551615 s).2) :=
  rnum_any W p S s 18446744073709551615 hA

theorem nil_test (B : List Nat) : ((B.length : Int) == 0) = decide (B = []) := by
  cases B with
  | nil => rfl
  | cons x r => simp; omega

set_option maxHeartbeats 2000000 in
theorem rend_any (W : World) (p : Nat) (S : Nat → Prop) (s : Option (List Nat)) (hA : RdAt W p S s) :
    Calls Try.prog 43 #[.pointer (some ⟨p, 0, none⟩)] W fun e w' => e = .returned (.bool (endR s)) ∧ W = w' := by
  obtain ⟨a, cap, hV⟩ := hA
  have c0 := hV.c0
  have c1 := hV.c1
  clear hV
  cases s with
  | none =>
    go_enter Try.func43, Try.ntmps43
    go_wp2_with fail
    go_ret
    exact ⟨rfl, rfl⟩
  | some B =>
    simp only [Option.getD_some, Option.isNone_some] at c0 c1
    have E := Lib.hid (nil_test B)
    go_enter Try.func43, Try.ntmps43
    go_wp2_with fail
    go_ret
    exact ⟨ret_b E.out, rfl⟩

/-- The reader goes on: nothing is left, or something may be. -/
theorem RdV.nextA {w : World} {p k : Nat} {S : Nat → Prop} {bs : List Nat} {bad : Bool} {a : Option Addr} {cap : Nat} (h : RdV w p S bs bad a cap) (hk : k ≤ bs.length) (hc : cap = k) :
    RdV (w.setCell ⟨p, 0, none⟩ (.slice a 0 0)) p S (bs.drop k) bad a 0 := by
  have hn := h.next k hk
  have hf := h.sl.fit
  rw [if_pos hc, List.length_drop, show bs.length - k = 0 by omega, show cap - k = 0 by omega] at hn
  exact hn

theorem RdV.nextB {w : World} {p k : Nat} {S : Nat → Prop} {bs : List Nat} {bad : Bool} {a : Option Addr} {cap : Nat} (h : RdV w p S bs bad a cap) (hk : k ≤ bs.length) (hc : ¬ cap = k) :
    RdV (w.setCell ⟨p, 0, none⟩ (.slice (a.map (·.add k)) (bs.length - k) (cap - k))) p S (bs.drop k) bad (a.map (·.add k)) (cap - k) := by
  have hn := h.next k hk
  rw [if_neg hc, List.length_drop] at hn
  exact hn

def BytPost (W : World) (p : Nat) (S : Nat → Prop) (ys : List Nat) (s : Option (List Nat)) (e : Ending) (w' : World) : Prop :=
  ∃ a cap, e = .returned (.slice a ys.length cap) ∧ SlAt bV 256 w' a cap ys ∧ RdAt w' p S s ∧ Keep (fun k => k = p) W w' ∧ ∀ ad, a = some ad → W.heap.size ≤ ad.block

theorem top_wrap {M : Nat} (h : M ≤ 9223372036854775807) : IntKind.u64.wrap (M : Int) = (M : Int) := by rw [IntKind.wrap_u64]; omega

theorem takes_len {xs : List Nat} {n : Nat} (hn : n ≤ xs.length) : (xs.take n).length = n := by rw [List.length_take]; omega

theorem clone_of {bs : List Nat} {ao : Option Addr} {cap len : Nat} {W : World} (hs : SlAt bV 256 W ao cap bs) (hl : bs.length = len) (hb : len ≤ 2000000) :
    Calls Try.prog 65 #[.slice ao len cap] W (FreshPost W bs) := by
  subst hl
  exact clone_any bs ao cap W hs hb

theorem RdAt.len {w : World} {p : Nat} {S : Nat → Prop} {bs : List Nat} {bad : Bool} {a : Option Addr} {cap : Nat} (h : RdV w p S bs bad a cap) : bs.length ≤ 9223372036854775807 := by
  have h1 := h.sl.fit
  have h2 := h.sl.max
  unfold maxLen at h2
  omega

end Go.Proofs.Ytbmpeadoicjpnaa

/-
  Bytes are read.
-/
namespace Go.Proofs.Ytbmpeadoicjpnaa
open Go.RowKit

theorem RdV.at_drop {w : World} {p n : Nat} {S : Nat → Prop} {s : Option (List Nat)} {a : Option Addr} {cap : Nat} (h : RdV w p S ((s.getD []).drop n) s.isNone a cap) : RdAt w p S (s.map (List.drop n)) := by
  refine ⟨a, cap, ?_⟩
  cases s with
  | none => simpa using h
  | some B => exact h


end Go.Proofs.Ytbmpeadoicjpnaa

/-
  A reader begins.
-/
namespace Go.Proofs.Ytbmpeadoicjpnaa
open Go.RowKit

def NewRdPost (W : World) (bs : List Nat) (e : Ending) (w' : World) : Prop :=
  ∃ p S, e = .returned (.pointer (some ⟨p, 0, none⟩)) ∧ RdAt w' p S (some bs) ∧ Below W.heap.size W w' ∧ W.heap.size ≤ p ∧ ∀ k, S k → W.heap.size ≤ k ∧ k < p

theorem new_rd {W w1 : World} {bs : List Nat} {a : Option Addr} {cap : Nat} {t : TypeId} (hs : SlAt bV 256 w1 a cap bs) (hb : Below W.heap.size W w1) (hf : ∀ ad, a = some ad → W.heap.size ≤ ad.block ∧ ad.block < w1.heap.size) :
    NewRdPost W bs (.returned (.pointer (some ⟨w1.heap.size, 0, none⟩))) (w1.alloc (.cells #[.slice a bs.length cap, .bool false] t)) := by
  refine ⟨w1.heap.size, fun k => W.heap.size ≤ k ∧ k < w1.heap.size, rfl, ⟨a, cap, ?_⟩, hb.alloc hb.size _, hb.size, fun k h => h⟩
  exact ⟨by simp, by simp, fun i => by simp, by simp, hs.below ((Below.refl _ _).alloc (Nat.le_refl _) _), (fun ad e _ => hf ad e), fun h => by omega⟩

set_option maxHeartbeats 2000000 in
theorem rnew_any (W : World) (bs : List Nat) (ao : Option Addr) (cap : Nat) (hs : SlAt bV 256 W ao cap bs) (hl : bs.length ≤ 2000000) :
    Calls Try.prog 40 #[.slice ao bs.length cap] W (NewRdPost W bs) := by
  have HS := Lib.hid hs
  clear hs
  go_enter Try.func40, Try.ntmps40
  go_wp2_with fail
  refine (clone_any bs ao cap W HS.out hl).mono ?_
  rintro e w1 ⟨a1, cap1, rfl, hs1, hb1, hf1⟩
  have R := Lib.hid (new_rd (t := 102) hs1 hb1 hf1)
  clear hs1 hb1 hf1
  go_wp2_with fail
  go_ret
  exact R.out

end Go.Proofs.Ytbmpeadoicjpnaa

/-
  What the document's own reader's calls do: numbers.
-/
namespace Go.Proofs.Ytbmpeadoicjpnaa
open Go.RowKit

set_option maxHeartbeats 1000000 in
theorem fail_any (W : World) (p : Nat) (S : Nat → Prop) (bs : List Nat) (bad : Bool) (a : Option Addr) (cap : Nat) (hV : RdV W p S bs bad a cap) :
    Calls Try.prog 72 #[.pointer (some ⟨p, 0, none⟩)] W (RdPost W p S (.tuple #[]) none) := by
  have c0 := hV.c0
  have c1 := hV.c1
  have f0 := hV.fz 0
  have f1 := hV.fz 1
  have HV := Lib.hid hV
  clear hV
  go_enter Try.func72, Try.ntmps72
  go_wp2
  go_end0
  exact ⟨rfl, HV.out.spoilt', ((Keep.refl _ _).own _ _).own _ _⟩

theorem get_nil : getN [] = (0, 0) := rfl

theorem rget_of' {bs : List Nat} {ao : Option Addr} {cap len n k : Nat} {W : World} (hs : SlAt bV 256 W ao cap bs) (hl : len = bs.length) (hg : getN bs = (n, k)) :
    Calls Try.prog 71 #[.slice ao len cap] W fun e w' => e = .returned (.tuple #[.int .u64 (n : Nat), .int .i64 (k : Nat)]) ∧ W = w' := by
  subst hl
  have := rget_any bs ao cap W hs
  rw [hg] at this
  exact this

set_option maxRecDepth 20000 in
set_option maxHeartbeats 2000000 in
theorem rrnum_any (W : World) (p : Nat) (S : Nat → Prop) (s : Option (List Nat)) (most : Nat) (hA : RdAt W p S s) :
    Calls Try.prog 52 #[.pointer (some ⟨p, 0, none⟩), .int .u64 (most : Nat)] W (RdPost W p S (.int .u64 ((numR most s).1 : Nat)) (numR most s).2) := by
  obtain ⟨a, cap, hV⟩ := hA
  have c0 := hV.c0
  have c1 := hV.c1
  have f0 := hV.fz 0
  have hp := hV.inP
  have hgs := getN_size (s.getD [])
  have hmax := hV.sl.max
  have hfit := hV.sl.fit
  have HV := Lib.hid hV
  clear hV
  cases s with
  | none =>
    simp only [Option.getD_none, Option.isNone_none] at c0 c1 HV hfit
    go_enter Try.func52, Try.ntmps52
    go_wp2_with (first
      | (go_at_call 71; refine (rget_of' HV.out.sl rfl get_nil).mono ?_; rintro e w' ⟨rfl, rfl⟩)
      | (go_at_call 72; refine (fail_any _ p S _ _ a cap HV.out).mono ?_; rintro e w' ⟨rfl, hR⟩; have R := Lib.hid hR; clear hR))
    go_ret
    exact ⟨rfl, R.out⟩
  | some B =>
    simp only [Option.getD_some, Option.isNone_some] at c0 c1 hgs hfit HV
    obtain ⟨n, k, hg⟩ : ∃ n k, getN B = (n, k) := ⟨_, _, rfl⟩
    have E : numR most (some B) = if k = 0 ∨ most < n then (0, none) else (n, some (B.drop k)) := by
      show (if (getN B).2 = 0 ∨ most < (getN B).1 then _ else _) = _
      rw [hg]
    rw [hg] at hgs
    have HG := Lib.hid hg
    clear hg
    simp only at hgs
    by_cases hk : k = 0
    · rw [if_pos (Or.inl hk)] at E
      rw [E]
      subst hk
      clear E
      go_enter Try.func52, Try.ntmps52
      go_wp2_with (first
        | (go_at_call 71; refine (rget_of' HV.out.sl rfl HG.out).mono ?_; rintro e w' ⟨rfl, rfl⟩)
        | (go_at_call 72; refine (fail_any _ p S _ _ a cap HV.out).mono ?_; rintro e w' ⟨rfl, hR⟩; have R := Lib.hid hR; clear hR))
      go_ret
      exact ⟨rfl, R.out⟩
    · have d1 : ((k : Int) == 0) = false := by simp; omega
      by_cases h2 : most < n
      · rw [if_pos (Or.inr h2)] at E
        rw [E]
        clear E
        go_enter Try.func52, Try.ntmps52
        go_wp2_with (first
          | (go_at_call 71; refine (rget_of' HV.out.sl rfl HG.out).mono ?_; rintro e w' ⟨rfl, rfl⟩)
          | (go_at_call 72; refine (fail_any _ p S _ _ a cap HV.out).mono ?_; rintro e w' ⟨rfl, hR⟩; have R := Lib.hid hR; clear hR))
        go_ret
        exact ⟨rfl, R.out⟩
      · rw [if_neg (fun e => e.elim hk h2)] at E
        rw [E]
        clear E
        by_cases hcap : cap = k
        · have N1 := Lib.hid (HV.out.nextA hgs hcap)
          subst hcap
          go_enter Try.func52, Try.ntmps52
          go_wp2_with (go_at_call 71; refine (rget_of' HV.out.sl rfl HG.out).mono ?_; rintro e w' ⟨rfl, rfl⟩)
          go_ret
          exact ⟨rfl, ⟨_, _, N1.out⟩, (Keep.refl _ _).own _ _⟩
        · have N1 := Lib.hid (HV.out.nextB hgs hcap)
          go_enter Try.func52, Try.ntmps52
          go_wp2_with (go_at_call 71; refine (rget_of' HV.out.sl rfl HG.out).mono ?_; rintro e w' ⟨rfl, rfl⟩)
          go_ret
          exact ⟨rfl, ⟨_, _, N1.out⟩, (Keep.refl _ _).own _ _⟩

theorem setR_some {t n k : Nat} {B : List Nat} (hg : getN B = (n, k)) : setR t (some B) = if k = 0 ∨ n &&& (18446744073709551615 - t) ≠ 0 then (0, none) else (n, some (B.drop k)) := by
  have hl := getN_lt B
  rw [hg] at hl
  have E : numR 18446744073709551615 (some B) = if k = 0 ∨ 18446744073709551615 < n then (0, none) else (n, some (B.drop k)) := by
    show (if (getN B).2 = 0 ∨ 18446744073709551615 < (getN B).1 then _ else _) = _
    rw [hg]
  unfold setR
  rw [E]
  by_cases hk : k = 0
  · rw [if_pos (Or.inl hk), if_pos (Or.inl hk)]
    simp
  · have hl : n < 18446744073709551616 := hl
    rw [if_neg (show ¬ (k = 0 ∨ 18446744073709551615 < n) by omega)]
    by_cases hz : n &&& (18446744073709551615 - t) = 0
    · rw [if_pos hz, if_neg (fun e => e.elim hk (fun f => f hz))]
    · rw [if_neg hz, if_pos (Or.inr hz)]

set_option maxHeartbeats 2000000 in
theorem rrend_any (W : World) (p : Nat) (S : Nat → Prop) (s : Option (List Nat)) (hA : RdAt W p S s) :
    Calls Try.prog 53 #[.pointer (some ⟨p, 0, none⟩)] W fun e w' => e = .returned (.bool (endR s)) ∧ W = w' := by
  obtain ⟨a, cap, hV⟩ := hA
  have c0 := hV.c0
  have c1 := hV.c1
  clear hV
  cases s with
  | none =>
    go_enter Try.func53, Try.ntmps53
    go_wp2_with fail
    go_ret
    exact ⟨rfl, rfl⟩
  | some B =>
    simp only [Option.getD_some, Option.isNone_some] at c0 c1
    have E := Lib.hid (nil_test B)
    go_enter Try.func53, Try.ntmps53
    go_wp2_with fail
    go_ret
    exact ⟨ret_b E.out, rfl⟩

end Go.Proofs.Ytbmpeadoicjpnaa

/-
  The document's own reader reads bytes.
-/
namespace Go.Proofs.Ytbmpeadoicjpnaa
open Go.RowKit

theorem bytR_some {most : Int} {n k : Nat} {B : List Nat} (hg : getN B = (n, k)) :
    bytR most (some B) = if k = 0 ∨ (max most 0).toNat < n ∨ B.length - k < n then ([], none) else ((B.drop k).take n, some (B.drop (k + n))) := by
  have E : numR (max most 0).toNat (some B) = if k = 0 ∨ (max most 0).toNat < n then (0, none) else (n, some (B.drop k)) := by
    show (if (getN B).2 = 0 ∨ (max most 0).toNat < (getN B).1 then _ else _) = _
    rw [hg]
  unfold bytR
  rw [E]
  by_cases h1 : k = 0 ∨ (max most 0).toNat < n
  · rw [if_pos h1, if_pos (h1.elim Or.inl (fun h => Or.inr (Or.inl h)))]
    simp
  · rw [if_neg h1]
    simp only [Option.getD_some, List.length_drop, Option.map_some, List.drop_drop]
    by_cases h2 : B.length - k < n
    · rw [if_pos h2, if_pos (Or.inr (Or.inr h2))]
    · rw [if_neg h2, if_neg (fun h => h.elim (fun h => h1 (Or.inl h)) (fun h => h.elim (fun h => h1 (Or.inr h)) h2))]

/-- What was read lies in new memory; the reader is as it was. -/
theorem app_res {W w0 w2 : World} {p n k : Nat} {S : Nat → Prop} {B : List Nat} {a a2 : Option Addr} {cap cap2 : Nat} (hV : RdV w0 p S B false a cap) (hS : ∀ k, S k → k < W.heap.size) (hk : Keep (fun k => k = p) W w0) (hp : p < W.heap.size) (hs : W.heap.size < w0.heap.size) (hlt : ∀ x ∈ (B.drop k).take n, x < 256)
    (hown : w2.ownsRow W.heap.size 5 1 (.slice a2 (0 + n) cap2) (0 + n) ([] ++ ((B.drop k).take n).map bV)) (hgr : w0.grownBy w2 (some W.heap.size)) :
    RdV w2 p S B false a cap ∧ Keep (fun k => k = p) W w2 ∧ SlAt bV 256 w2 a2 cap2 ((B.drop k).take n) ∧ ∀ ad, a2 = some ad → W.heap.size ≤ ad.block := by
  have hb : ∀ k, k < W.heap.size → w2.heap[k]? = w0.heap[k]? := fun k hk => hgr.block k (by omega) (fun e => by cases e; omega)
  refine ⟨hV.carry hgr.size (hb p hp) (fun k hl f => hb k (hS k f)), hk.grown hgr (fun k e => by cases e; exact Or.inr (Nat.le_refl _)), ?_, fun ad e => ?_⟩
  · rw [Nat.zero_add, List.nil_append] at hown
    have hown' : w2.ownsRow W.heap.size 5 1 (.slice a2 n cap2) n (((B.drop k).take n).map bV) := hown
    obtain ⟨_, a3, c3, e, h⟩ := own_sl hown' hlt
    simp only [Value.slice.injEq] at e
    obtain ⟨rfl, _, rfl⟩ := e
    exact h
  · subst e
    exact (hown.lt ad.block rfl).1


end Go.Proofs.Ytbmpeadoicjpnaa

/-
  What the document's own writer's calls do.
-/
namespace Go.Proofs.Ytbmpeadoicjpnaa
open Go.RowKit

def OwnPost (W : World) (ys : List Nat) (e : Ending) (w' : World) : Prop :=
  ∃ v, e = .returned v ∧ w'.ownsRow W.heap.size 5 1 v ys.length (ys.map bV) ∧ Below W.heap.size W w'

theorem own_end {W wr w2 : World} {bs ms : List Nat} {m n : Nat} {v2 : Value} {o : Obj} {a : Option Addr} {c : Nat} (hm : m < 128) (hB : Below W.heap.size W wr) (hO : wr.ownsRow W.heap.size 5 1 (.slice a ms.length c) ms.length (ms.map bV)) (he : ms ++ lebL m = bs ++ lebL n)
    (hown : w2.ownsRow W.heap.size 5 1 v2 (ms.length + 1) (ms.map bV ++ [bV m])) (hgr : (wr.alloc o).grownBy w2 (Value.slice a ms.length c).ownBlock) : OwnPost W (bs ++ lebL n) (.returned v2) w2 := by
  rw [lebL_lo hm] at he
  have e : ms.map bV ++ [bV m] = (bs ++ lebL n).map bV := by rw [← he]; simp
  have e2 : ms.length + 1 = (bs ++ lebL n).length := by rw [← he]; simp
  rw [e, e2] at hown
  exact ⟨v2, rfl, hown, (hB.alloc hB.size o).grown hgr (by have := hB.size; simp; omega) (fun b h => (hO.lt b h).1)⟩

theorem rem_more (m : Nat) : Value.int .u8 ((m : Int) % 128 + 128) = bV (m % 128 + 128) := by simp [bV]

set_option maxRecDepth 20000 in
set_option maxHeartbeats 2000000 in
theorem rput_own (bs : List Nat) (ao : Option Addr) (cap n : Nat) (W : World) (hs : SlAt bV 256 W ao cap bs) (hn : n < 18446744073709551616) (hb : bs.length ≤ 1000000) :
    Calls Try.prog 70 #[.slice ao bs.length cap, .int .u64 (n : Nat)] W (OwnPost W (bs ++ lebL n)) := by
  obtain ⟨i0, hi0, hz0, hz1, hz2⟩ := info_parts Try.infoB
  have S := Lib.hid hs
  clear hs
  have hown0 := World.ownsRow_lit (base := W.heap.size) (e := 5) (size := 1) W #[] 0 (Nat.le_refl _) (by unfold maxLen; omega) rfl
  have O := Lib.hid hown0
  clear hown0
  go_enter Try.func70, Try.ntmps70
  go_wp2_with (at_builtin; refine wpList_append_opt rfl (.tmp 5) (.tmp 6) 37 rfl W.heap.size 5 i0 (.int .u8 0) 1 1 Try.underlying37 hi0 hz0 hz1 hz2 rfl (by decide) _ _ _ rfl O.out _ _ _ (bs.map bV) rfl (by simp) S.out.empty (S.out.below ((Below.refl _ _).alloc (Nat.le_refl _) _)).news (ones_b _) (by unfold maxLen; omega) (by omega) (by simp) ?_
               intro v2 w2 hown2 hgr2
               have hb2 : Below W.heap.size W w2 := ((Below.refl _ _).alloc (Nat.le_refl _) _).grown hgr2 (by simp) (fun k h => (O.out.lt k h).1)
               try rw [Nat.zero_add, List.nil_append] at hown2
               have HO2 := Lib.hid hown2
               have HB2 := Lib.hid hb2
               clear hown2 hgr2 hb2)
  obtain ⟨_, a2, c2, rfl, _⟩ := own_sl HO2.out S.out.lt
  go_loopw [0, 1] (fun l v wr => PutRel W bs n v l wr) (fun _ v _ => (intOf v).toNat)
  case atStart => exact ⟨n, bs, a2, c2, hn, rfl, rfl, HO2.out, HB2.out, rfl⟩
  case round =>
    obtain ⟨m, ms, a, c, hm, rfl, rfl, hO, hB, he⟩ := hrel
    have hl := put_len he hn hb
    have HO := Lib.hid hO
    have HB := Lib.hid hB
    have HE := Lib.hid he
    clear hO hB he
    by_cases h128 : m < 128
    · go_wp2_with (at_builtin; refine wpList_append_own _ rfl (.tmp 19) (.tmp 22) 37 rfl W.heap.size 5 i0 (.int .u8 0) 1 1 Try.underlying37 hi0 hz0 hz1 hz2 rfl (by decide) _ _ _ rfl (World.ownsRow.alloc HO.out _) ⟨wr.heap.size, 0, none⟩ 1 1 [bV m] rfl rfl (World.news_of_block (heap_alloc_new _ _)) (by simp [bV, Value.oneCell']) (by unfold maxLen; omega) (by omega) (by have := HB.out.size; simp; omega) ?_
                   intro v2 w2 hown2 hgr2 _
                   have R := Lib.hid (own_end h128 HB.out HO.out HE.out hown2 hgr2)
                   clear hown2 hgr2)
      go_ret
      exact R.out
    · have hor := Lib.hid (rem_more m)
      go_wp2_with (at_builtin; refine wpList_append_own _ rfl (.tmp 10) (.tmp 15) 37 rfl W.heap.size 5 i0 (.int .u8 0) 1 1 Try.underlying37 hi0 hz0 hz1 hz2 rfl (by decide) _ _ _ rfl (World.ownsRow.alloc HO.out _) ⟨wr.heap.size, 0, none⟩ 1 1 [.int .u8 ((m : Int) % 128 + 128)] rfl rfl (World.news_of_block (heap_alloc_new _ _)) (by simp [Value.oneCell']) (by unfold maxLen; omega) (by omega) (by have := HB.out.size; simp; omega) ?_
                   intro v2 w2 hown2 hgr2 _
                   rw [hor.out] at hown2
                   have R := Lib.hid (put_step h128 hm HB.out HO.out HE.out hown2 hgr2)
                   clear hown2 hgr2)
      go_roundw
      case rel => exact R.out
      case measure => simp only [intOf]; omega

/-- A new row is stored in the writer's cell. -/
theorem WrV.fresh {w w2 : World} {N p : Nat} {F : Nat → Prop} {bs cs : List Nat} {v v2 : Value} (h : WrV w N p F bs v) (hown : w2.ownsRow w.heap.size 5 1 v2 cs.length (cs.map bV)) (hb : Below w.heap.size w w2) (hc : ∀ x ∈ cs, x < 256) :
    WrPost w N p F cs (.returned (.tuple #[])) (w2.setCell ⟨p, 0, none⟩ v2) := by
  have hp := (h.low p h.inP).2
  have hNw : N ≤ w.heap.size := by have := (h.low p h.inP).1; omega
  have hap : v2.ownBlock ≠ some p := fun e => by have := (hown.lt p e).1; omega
  have hbp : w2.heap[p]? = w.heap[p]? := hb.block p hp
  refine ⟨rfl, fun k => F k ∨ v2.ownBlock = some k, ⟨v2, ⟨World.cell?_setCell_same (h := (World.cell?_of_block (w := w) (a := ⟨p, 0, none⟩) hbp).trans h.cell) .., (World.frozen?_setCell ..).trans ((World.frozen?_of_block (w := w) (a := ⟨p, 0, none⟩) hbp).trans h.fz), ownsRow_setCell_other (own_mono hown hNw) hap _, Or.inl h.inP, fun k hk => Or.inr hk, fun k f => ?_, hap, hc⟩⟩, (Keep.ofBelow hb).setCell (p := ⟨p, 0, none⟩) h.inP _, fun k f => ?_⟩
  · rcases f with f | f
    · exact ⟨(h.low k f).1, Nat.lt_of_lt_of_le (h.low k f).2 (by simpa [World.setCell] using hb.size)⟩
    · have := hown.lt k f
      exact ⟨Nat.le_trans hNw this.1, by simpa [World.setCell] using this.2⟩
  · exact f.elim Or.inl (fun f => Or.inr (hown.lt k f).1)

theorem rput_of {bs : List Nat} {ao : Option Addr} {cap len n : Nat} {W : World} (hs : SlAt bV 256 W ao cap bs) (hl : len = bs.length) (hn : n < 18446744073709551616) (hb : bs.length ≤ 1000000) :
    Calls Try.prog 70 #[.slice ao len cap, .int .u64 (n : Nat)] W (OwnPost W (bs ++ lebL n)) := by
  subst hl
  exact rput_own bs ao cap n W hs hn hb

set_option maxRecDepth 20000 in
set_option maxHeartbeats 2000000 in
theorem rwnum_any (W : World) (N p : Nat) (F : Nat → Prop) (bs : List Nat) (n : Nat) (hA : WrAt W N p F bs) (hn : n < 18446744073709551616) (hl : bs.length ≤ 1000000) :
    Calls Try.prog 51 #[.pointer (some ⟨p, 0, none⟩), .int .u64 (n : Nat)] W (WrPost W N p F (bs ++ lebL n)) := by
  obtain ⟨v, hV⟩ := hA
  have hp : p < W.heap.size := (hV.low p hV.inP).2
  have c0 := hV.cell
  have f0 := hV.fz
  obtain ⟨a, cap, rfl, hs⟩ := hV.slice
  have HS := Lib.hid hs
  have HV := Lib.hid hV
  clear hV hs
  go_enter Try.func51, Try.ntmps51
  go_wp2_with fail
  refine (rput_of HS.out rfl hn hl).mono ?_
  rintro e w2 ⟨v2, rfl, hown, hb⟩
  have hbp : w2.heap[p]? = W.heap[p]? := hb.block p hp
  have c2 := (World.cell?_of_block (w := W) (a := ⟨p, 0, none⟩) hbp).trans HV.out.cell
  have f2 := (World.frozen?_of_block (w := W) (a := ⟨p, 0, none⟩) hbp).trans HV.out.fz
  obtain ⟨a2, cap2, rfl⟩ := own_form hown
  have R := Lib.hid (HV.out.fresh hown hb (fun x hx => (List.mem_append.1 hx).elim (HV.out.lt x) (lebL_lt n x)))
  clear hown hb
  go_wp2_with fail
  go_end0
  simpa only [List.length_append] using R.out



end Go.Proofs.Ytbmpeadoicjpnaa

/-
  What is written is read again: numbers, bytes, sets.
-/
namespace Go.Proofs.Ytbmpeadoicjpnaa
open Go.RowKit

theorem num_back {n most : Nat} (hn : n < 18446744073709551616) (hm : n ≤ most) (r : List Nat) : numR most (some (lebL n ++ r)) = (n, some r) := by
  show (if (getN (lebL n ++ r)).2 = 0 ∨ most < (getN (lebL n ++ r)).1 then _ else _) = _
  rw [getN_lebL hn]
  have := szN_pos n
  rw [if_neg (by simp only; omega)]
  show (n, some ((lebL n ++ r).drop (szN n))) = _
  rw [show szN n = (lebL n).length from rfl, List.drop_left' rfl]

theorem byt_back {bs : List Nat} {most : Int} (hm : (bs.length : Int) ≤ most) (hb : bs.length < 18446744073709551616) (r : List Nat) : bytR most (some (lebL bs.length ++ (bs ++ r))) = (bs, some r) := by
  have e := num_back (most := (max most 0).toNat) hb (by omega) (bs ++ r)
  unfold bytR
  rw [e]
  simp only [Option.getD_some, List.length_append]
  rw [if_neg (by omega), List.take_left' rfl]
  simp [List.drop_left' rfl]

theorem set_back {n : Nat} (hn : n < 18446744073709551616) (r : List Nat) : setR 18446744073709551615 (some (lebL n ++ r)) = (n, some r) := by
  unfold setR
  rw [num_back hn (by omega) r]
  simp

end Go.Proofs.Ytbmpeadoicjpnaa

/-
  Logs of entries, as plain data.
-/
namespace Go.Proofs.Ytbmpeadoicjpnaa
open Go.RowKit

/-! What is read is what was written. -/
theorem decN_back : ∀ (b : List Nat) (n j : Nat), (∀ x ∈ b, x < 256) → decN b = some (n, j) → b = lebL n ++ b.drop j ∧ j = szN n
  | [], n, j, _, h => by simp [decN] at h
  | c :: r, n, j, hb, h => by
    have hc : c < 256 := hb c (by simp)
    by_cases h1 : c < 128
    · rw [decN_lo h1] at h
      simp only [Option.some.injEq, Prod.mk.injEq] at h
      obtain ⟨rfl, rfl⟩ := h
      rw [lebL_lo h1, szN_lo h1]
      exact ⟨rfl, rfl⟩
    · cases hd : decN r with
      | none => rw [decN_none h1 hd] at h; cases h
      | some p =>
        obtain ⟨m, i⟩ := p
        by_cases hm : m = 0
        · subst hm; rw [decN_zero h1 hd] at h; cases h
        · rw [decN_more h1 hd hm] at h
          simp only [Option.some.injEq, Prod.mk.injEq] at h
          obtain ⟨rfl, rfl⟩ := h
          obtain ⟨e, e2⟩ := decN_back r m i (fun x hx => hb x (by simp [hx])) hd
          have h2 : ¬ (c % 128 + 128 * m < 128) := by omega
          rw [lebL_hi h2, szN_hi h2, show (c % 128 + 128 * m) % 128 + 128 = c by omega, show (c % 128 + 128 * m) / 128 = m by omega]
          refine ⟨?_, by omega⟩
          rw [List.cons_append, List.drop_succ_cons, ← e]

/-! Entries. -/
structure Le where
  f : Int
  n : Nat
  t : Nat
theorem Le.eq {x y : Le} (h1 : x.f = y.f) (h2 : x.n = y.n) (h3 : x.t = y.t) : x = y := by cases x; cases y; simp_all
instance : Inhabited Le := ⟨⟨0, 0, 0⟩⟩
instance : DecidableEq Le := fun x y => if h : x.f = y.f ∧ x.n = y.n ∧ x.t = y.t then isTrue (Le.eq h.1 h.2.1 h.2.2) else isFalse (fun e => h (by subst e; exact ⟨rfl, rfl, rfl⟩))
def goodX (x : Le) : Bool := decide (0 ≤ x.f ∧ x.f ≤ 15 ∧ 1 ≤ x.n ∧ x.t ≤ 65535)
def aheadX (a b : Le) : Bool := decide (a.f < b.f ∨ (a.f = b.f ∧ a.n < b.n))
theorem ahead_iff {a b : Le} : aheadX a b = true ↔ a.f < b.f ∨ (a.f = b.f ∧ a.n < b.n) := by unfold aheadX; rw [decide_eq_true_eq]
theorem ahead_trans {a b c : Le} (h1 : aheadX a b = true) (h2 : aheadX b c = true) : aheadX a c = true := by
  rw [ahead_iff] at *; omega
theorem ahead_self (a : Le) : aheadX a a = false := by unfold aheadX; exact decide_eq_false (by omega)
theorem ahead_asym {a b : Le} (h1 : aheadX a b = true) : aheadX b a = false := by
  rw [ahead_iff] at h1; unfold aheadX; exact decide_eq_false (by omega)
theorem ahead_or {a b : Le} (h1 : aheadX a b = false) (h2 : aheadX b a = false) : a.f = b.f ∧ a.n = b.n := by
  unfold aheadX at h1 h2
  have h1 := of_decide_eq_false h1
  have h2 := of_decide_eq_false h2
  omega
/-- Rising. -/
abbrev Rise (l : List Le) : Prop := l.Pairwise fun a b => aheadX a b = true
def goodL (l : List Le) : Bool := decide ((∀ x ∈ l, goodX x = true) ∧ Rise l)
theorem goodL_iff {l : List Le} : goodL l = true ↔ (∀ x ∈ l, goodX x = true) ∧ Rise l := by unfold goodL; rw [decide_eq_true_eq]
theorem goodL_nil : goodL [] = true := goodL_iff.2 ⟨by simp, List.Pairwise.nil⟩
/-- Rising is: each one behind the one ahead of it. -/
theorem rise_step {l : List Le} {x : Le} (h : Rise l) (hx : l ≠ [] → aheadX (l.getLast?.getD x) x = true) : Rise (l ++ [x]) := by
  rw [Rise, List.pairwise_append]
  refine ⟨h, List.pairwise_singleton _ _, fun a ha b hb => ?_⟩
  rw [List.mem_singleton.1 hb]
  have hne : l ≠ [] := List.ne_nil_of_mem ha
  have h2 := hx hne
  rw [List.getLast?_eq_some_getLast hne] at h2
  obtain ⟨i, hi, rfl⟩ := List.getElem_of_mem ha
  have e : l.getLast hne = l[l.length - 1] := List.getLast_eq_getElem hne
  by_cases hl : i = l.length - 1
  · subst hl
    rw [← e]; exact h2
  · have := List.pairwise_iff_getElem.1 h i (l.length - 1) hi (by omega) (by omega)
    exact ahead_trans this (by rw [← e]; exact h2)
theorem rise_take {l : List Le} {k : Nat} (hk : k < l.length) : Rise (l.take (k + 1)) ↔ Rise (l.take k) ∧ (0 < k → aheadX (l.getD (k - 1) default) (l.getD k default) = true) := by
  have ek : l.getD k default = l[k] := by rw [List.getD, List.getElem?_eq_getElem hk]; rfl
  rw [List.take_succ_eq_append_getElem hk]
  constructor
  · intro h
    rw [Rise, List.pairwise_append] at h
    refine ⟨h.1, fun h0 => ?_⟩
    have e1 : l.getD (k - 1) default = l[k - 1] := by rw [List.getD, List.getElem?_eq_getElem (by omega)]; rfl
    rw [e1, ek]
    exact h.2.2 _ (List.mem_take_iff_getElem.2 ⟨k - 1, by omega, rfl⟩) _ (List.mem_singleton.2 rfl)
  · rintro ⟨h, h2⟩
    refine rise_step h fun hne => ?_
    have hk0 : 0 < k := by
      rcases Nat.eq_zero_or_pos k with h0 | h0
      · subst h0; simp at hne
      · exact h0
    have h3 := h2 hk0
    rw [ek] at h3
    have : (l.take k).getLast?.getD l[k] = l.getD (k - 1) default := by
      rw [List.getLast?_eq_getElem?, List.length_take, Nat.min_eq_left (by omega), List.getElem?_take, if_pos (by omega), List.getD]
      rw [List.getElem?_eq_getElem (show k - 1 < l.length by omega)]
      rfl
    rw [this]
    exact h3
/-- Two that rise and have the same are alike. -/
theorem rise_ext : ∀ {a b : List Le}, Rise a → Rise b → (∀ x, x ∈ a ↔ x ∈ b) → a = b
  | [], [], _, _, _ => rfl
  | [], y :: b, _, _, h => absurd ((h y).2 (by simp)) (by simp)
  | x :: a, [], _, _, h => absurd ((h x).1 (by simp)) (by simp)
  | x :: a, y :: b, ha, hb, h => by
    have ha' := List.pairwise_cons.1 ha
    have hb' := List.pairwise_cons.1 hb
    have e : x = y := by
      rcases List.mem_cons.1 ((h x).1 (by simp)) with e | h1
      · exact e
      · rcases List.mem_cons.1 ((h y).2 (by simp)) with e | h2
        · exact e.symm
        · have g1 := hb'.1 x h1
          have g2 := ha'.1 y h2
          rw [ahead_asym g1] at g2
          cases g2
    subst e
    have t : a = b := rise_ext ha'.2 hb'.2 fun z => by
      constructor
      · intro hz
        rcases List.mem_cons.1 ((h z).1 (by simp [hz])) with e | h1
        · subst e
          have := ha'.1 z hz
          rw [ahead_self] at this
          cases this
        · exact h1
      · intro hz
        rcases List.mem_cons.1 ((h z).2 (by simp [hz])) with e | h1
        · subst e
          have := hb'.1 z hz
          rw [ahead_self] at this
          cases this
        · exact h1
    rw [t]
/-- Of a From and a Num there is one at most. -/
theorem rise_one {l : List Le} (h : Rise l) {x y : Le} (hx : x ∈ l) (hy : y ∈ l) (h1 : x.f = y.f) (h2 : x.n = y.n) : x = y := by
  obtain ⟨i, hi, rfl⟩ := List.getElem_of_mem hx
  obtain ⟨j, hj, rfl⟩ := List.getElem_of_mem hy
  have hp := List.pairwise_iff_getElem.1 h
  rcases Nat.lt_trichotomy i j with h3 | h3 | h3
  · have := ahead_iff.1 (hp i j hi hj h3); omega
  · subst h3; rfl
  · have := ahead_iff.1 (hp j i hj hi h3); omega

/-! Add. -/
def addL (l : List Le) (x : Le) : List Le := if goodL l = true ∧ goodX x = true then l.filter (aheadX · x) ++ x :: l.filter (aheadX x ·) else l
theorem addL_no {l : List Le} {x : Le} (h : ¬ (goodL l = true ∧ goodX x = true)) : addL l x = l := if_neg h
theorem addL_yes {l : List Le} {x : Le} (h : goodL l = true) (hx : goodX x = true) : addL l x = l.filter (aheadX · x) ++ x :: l.filter (aheadX x ·) := if_pos ⟨h, hx⟩
theorem mem_add {l : List Le} {x : Le} (h : goodL l = true) (hx : goodX x = true) (y : Le) : y ∈ addL l x ↔ y = x ∨ (y ∈ l ∧ ¬ (y.f = x.f ∧ y.n = x.n)) := by
  rw [addL_yes h hx, List.mem_append, List.mem_cons, List.mem_filter, List.mem_filter]
  constructor
  · rintro (⟨h1, h2⟩ | rfl | ⟨h1, h2⟩)
    · exact Or.inr ⟨h1, fun e => by rw [ahead_iff] at h2; omega⟩
    · exact Or.inl rfl
    · exact Or.inr ⟨h1, fun e => by rw [ahead_iff] at h2; omega⟩
  · rintro (rfl | ⟨h1, h2⟩)
    · exact Or.inr (Or.inl rfl)
    · rcases Bool.eq_false_or_eq_true (aheadX y x) with h3 | h3
      · exact Or.inl ⟨h1, h3⟩
      · rcases Bool.eq_false_or_eq_true (aheadX x y) with h4 | h4
        · exact Or.inr (Or.inr ⟨h1, h4⟩)
        · exact absurd (ahead_or h3 h4) h2
theorem add_good {l : List Le} {x : Le} (h : goodL l = true) : goodL (addL l x) = true := by
  by_cases hx : goodX x = true
  · refine goodL_iff.2 ⟨fun y hy => ?_, ?_⟩
    · rcases (mem_add h hx y).1 hy with rfl | ⟨hy, -⟩
      · exact hx
      · exact (goodL_iff.1 h).1 y hy
    · rw [addL_yes h hx, Rise, List.pairwise_append, List.pairwise_cons]
      have hr := (goodL_iff.1 h).2
      refine ⟨hr.filter _, ⟨fun y hy => (List.mem_filter.1 hy).2, hr.filter _⟩, fun a ha b hb => ?_⟩
      have h1 := (List.mem_filter.1 ha).2
      rcases List.mem_cons.1 hb with rfl | hb
      · exact h1
      · exact ahead_trans h1 (List.mem_filter.1 hb).2
  · rw [addL_no (fun h' => hx h'.2)]
    exact h
/-- Behind all others. -/
theorem add_last {l : List Le} {x : Le} (h : goodL l = true) (hx : goodX x = true) (hl : ∀ y ∈ l, aheadX y x = true) : addL l x = l ++ [x] := by
  rw [addL_yes h hx, List.filter_eq_self.2 hl, List.filter_eq_nil_iff.2 fun y hy => by rw [ahead_asym (hl y hy)]; decide]

/-! Less, But. -/
def butN64 (t to : Nat) : Nat := t &&& (18446744073709551615 - to)
def setX (x : Le) (to : Nat) : Le := ⟨x.f, x.n, butN64 x.t to⟩
def toD (to : Nat) (d : Int) : Nat := if 0 ≤ d ∧ d ≤ 63 then butN64 to (2 ^ d.toNat) else to
def butL (l : List Le) (to : Nat) (d : Int) : List Le := if goodL l = true then l.map (setX · (toD to d)) else l

/-! Purge. -/
def lastX (l : List Le) (x : Le) : Bool := !l.any fun y => decide (y.f = x.f ∧ x.n < y.n)
def keepX (l : List Le) (x : Le) : Bool := decide (x.t ≠ 0) || lastX l x
def purgeL (l : List Le) : List Le := if goodL l = true then l.filter (keepX l) else l
theorem purge_sub {l : List Le} : (purgeL l).Sublist l := by
  unfold purgeL
  split
  · exact List.filter_sublist
  · exact List.Sublist.refl _
theorem purge_good {l : List Le} (h : goodL l = true) : goodL (purgeL l) = true := by
  obtain ⟨h1, h2⟩ := goodL_iff.1 h
  exact goodL_iff.2 ⟨fun x hx => h1 x (purge_sub.subset hx), h2.sublist purge_sub⟩
theorem mem_purge {l : List Le} (h : goodL l = true) (x : Le) : x ∈ purgeL l ↔ x ∈ l ∧ keepX l x = true := by
  unfold purgeL
  rw [if_pos h, List.mem_filter]
theorem last_iff {l : List Le} {x : Le} : lastX l x = true ↔ ∀ y ∈ l, y.f = x.f → y.n ≤ x.n := by
  unfold lastX
  rw [Bool.not_eq_true', List.any_eq_false]
  constructor
  · intro h y hy e
    have := h y hy
    rw [decide_eq_true_eq] at this
    omega
  · intro h y hy
    rw [decide_eq_true_eq]
    intro e
    have := h y hy e.1
    omega
/-- What stays, stays once and for all. -/
theorem purge_twice {l : List Le} (h : goodL l = true) : purgeL (purgeL l) = purgeL l := by
  have hg := purge_good h
  refine (show purgeL (purgeL l) = (purgeL l).filter (keepX (purgeL l)) from if_pos hg).trans (List.filter_eq_self.2 fun x hx => ?_)
  obtain ⟨h1, h2⟩ := (mem_purge h x).1 hx
  unfold keepX at h2 ⊢
  rcases Bool.or_eq_true _ _ |>.mp h2 with h3 | h3
  · rw [h3]; rfl
  · rw [last_iff] at h3
    rw [Bool.or_eq_true]
    exact Or.inr (last_iff.2 fun y hy e => h3 y (purge_sub.subset hy) e)

/-! Join. -/
def findX (l : List Le) (x : Le) : Option Le := l.find? fun y => decide (y.f = x.f ∧ y.n = x.n)
def moreX (l : List Le) (x : Le) : Bool := l.any fun y => decide (y.f = x.f ∧ x.n < y.n)
def ownX (heard : List Le) (x : Le) : Option Le := match findX heard x with
  | some y => some ⟨x.f, x.n, x.t &&& y.t⟩
  | none => if moreX heard x then none else some x
def heardX (own : List Le) (x : Le) : Option Le := if (findX own x).isSome || moreX own x then none else some x
def foldL (r : List Le) (l : List (Option Le)) : List Le := l.foldl (fun r o => match o with | some x => addL r x | none => r) r
def joinG (own heard : List Le) : List Le := if goodL own = true ∧ goodL heard = true then foldL (foldL [] (own.map (ownX heard))) (heard.map (heardX own)) else own

end Go.Proofs.Ytbmpeadoicjpnaa

/-
  Logs of entries, as plain data: joined; as bytes.
-/
namespace Go.Proofs.Ytbmpeadoicjpnaa
open Go.RowKit

abbrev Same (x y : Le) : Prop := y.f = x.f ∧ y.n = x.n
theorem find_some {l : List Le} {x y : Le} (h : findX l x = some y) : y ∈ l ∧ Same x y := by
  unfold findX at h
  exact ⟨List.mem_of_find?_eq_some h, by have := List.find?_some h; simpa using this⟩
theorem find_none {l : List Le} {x : Le} (h : findX l x = none) : ∀ y ∈ l, ¬ Same x y := fun y hy => by
  unfold findX at h
  have := List.find?_eq_none.1 h y hy
  simpa using this
theorem find_is {l : List Le} {x y : Le} (hr : Rise l) (hy : y ∈ l) (h : Same x y) : findX l x = some y := by
  cases hf : findX l x with
  | none => exact absurd h (find_none hf y hy)
  | some z =>
    obtain ⟨h1, h2⟩ := find_some hf
    rw [rise_one hr h1 hy (h2.1.trans h.1.symm) (h2.2.trans h.2.symm)]
theorem more_iff {l : List Le} {x : Le} : moreX l x = true ↔ ∃ y ∈ l, y.f = x.f ∧ x.n < y.n := by
  unfold moreX
  simp only [List.any_eq_true, decide_eq_true_eq]

/-! One added after another. -/
theorem fold_add {l : List (Option Le)} : ∀ {r : List Le}, goodL r = true → (∀ x, some x ∈ l → goodX x = true) → (∀ x y, (x ∈ r ∨ some x ∈ l) → (y ∈ r ∨ some y ∈ l) → Same x y → x = y) → goodL (foldL r l) = true ∧ ∀ z, z ∈ foldL r l ↔ z ∈ r ∨ some z ∈ l := by
  induction l with
  | nil => intro r hr _ _; exact ⟨hr, fun z => by simp [foldL]⟩
  | cons o l ih =>
    intro r hr hg hk
    cases o with
    | none =>
      obtain ⟨h1, h2⟩ := ih hr (fun x hx => hg x (List.mem_cons_of_mem _ hx)) (fun x y hx hy => hk x y (hx.imp id (List.mem_cons_of_mem _)) (hy.imp id (List.mem_cons_of_mem _)))
      exact ⟨h1, fun z => by rw [show foldL r (none :: l) = foldL r l from rfl, h2 z]; simp⟩
    | some x =>
      have hx := hg x (by simp)
      have ha := add_good (x := x) hr
      have hm := mem_add hr hx
      have key : ∀ y, y ∈ addL r x ↔ y = x ∨ y ∈ r := fun y => by
        rw [hm y]
        constructor
        · rintro (h | h)
          · exact Or.inl h
          · exact Or.inr h.1
        · rintro (h | h)
          · exact Or.inl h
          · by_cases e : y.f = x.f ∧ y.n = x.n
            · exact Or.inl (hk x y (Or.inr (by simp)) (Or.inl h) e).symm
            · exact Or.inr ⟨h, e⟩
      have up : ∀ y, (y ∈ addL r x ∨ some y ∈ l) → (y ∈ r ∨ some y ∈ some x :: l) := fun y h => by
        rcases h with h | h
        · rcases (key y).1 h with rfl | h
          · exact Or.inr (by simp)
          · exact Or.inl h
        · exact Or.inr (List.mem_cons_of_mem _ h)
      obtain ⟨h1, h2⟩ := ih ha (fun y hy => hg y (List.mem_cons_of_mem _ hy)) (fun y z hy hz => hk y z (up y hy) (up z hz))
      refine ⟨h1, fun z => ?_⟩
      rw [show foldL r (some x :: l) = foldL (addL r x) l from rfl, h2 z, key z]
      simp only [List.mem_cons, Option.some.injEq]
      constructor
      · rintro ((h | h) | h)
        · exact Or.inr (Or.inl h)
        · exact Or.inl h
        · exact Or.inr (Or.inr h)
      · rintro (h | h | h)
        · exact Or.inl (Or.inr h)
        · exact Or.inl (Or.inl h)
        · exact Or.inr h

/-- What is in a join. -/
def InJ (own heard : List Le) (z : Le) : Prop :=
  (∃ x ∈ own, ∃ y ∈ heard, Same x y ∧ z = ⟨x.f, x.n, x.t &&& y.t⟩) ∨ (z ∈ own ∧ (∀ y ∈ heard, ¬ Same z y) ∧ ∀ y ∈ heard, y.f = z.f → y.n ≤ z.n) ∨ (z ∈ heard ∧ (∀ y ∈ own, ¬ Same z y) ∧ ∀ y ∈ own, y.f = z.f → y.n ≤ z.n)
theorem own_iff {heard : List Le} (hr : Rise heard) {x z : Le} : ownX heard x = some z ↔ (∃ y ∈ heard, Same x y ∧ z = ⟨x.f, x.n, x.t &&& y.t⟩) ∨ (z = x ∧ (∀ y ∈ heard, ¬ Same x y) ∧ ∀ y ∈ heard, y.f = x.f → y.n ≤ x.n) := by
  unfold ownX
  cases hf : findX heard x with
  | some y =>
    obtain ⟨h1, h2⟩ := find_some hf
    simp only [Option.some.injEq]
    constructor
    · rintro rfl; exact Or.inl ⟨y, h1, h2, rfl⟩
    · rintro (⟨y', h3, h4, rfl⟩ | ⟨-, h3, -⟩)
      · rw [rise_one hr h1 h3 (h2.1.trans h4.1.symm) (h2.2.trans h4.2.symm)]
      · exact absurd h2 (h3 y h1)
  | none =>
    have hn := find_none hf
    by_cases hm : moreX heard x = true
    · simp only [hm, if_true]
      constructor
      · intro h; cases h
      · rintro (⟨y, h1, h2, -⟩ | ⟨-, -, h3⟩)
        · exact absurd h2 (hn y h1)
        · obtain ⟨y, h1, h2, h4⟩ := more_iff.1 hm
          have := h3 y h1 h2
          omega
    · simp only [hm]
      constructor
      · intro h
        cases h
        refine Or.inr ⟨rfl, hn, fun y hy e => Nat.le_of_not_lt fun h => hm (more_iff.2 ⟨y, hy, e, h⟩)⟩
      · rintro (⟨y, h1, h2, -⟩ | ⟨rfl, -, -⟩)
        · exact absurd h2 (hn y h1)
        · rfl
theorem heard_iff {own : List Le} {x z : Le} : heardX own x = some z ↔ z = x ∧ (∀ y ∈ own, ¬ Same x y) ∧ ∀ y ∈ own, y.f = x.f → y.n ≤ x.n := by
  unfold heardX
  cases hf : findX own x with
  | some y =>
    obtain ⟨h1, h2⟩ := find_some hf
    simp only [Option.isSome_some, Bool.true_or, if_true]
    constructor
    · intro h; cases h
    · rintro ⟨-, h3, -⟩; exact absurd h2 (h3 y h1)
  | none =>
    have hn := find_none hf
    simp only [Option.isSome_none, Bool.false_or]
    by_cases hm : moreX own x = true
    · rw [if_pos hm]
      constructor
      · intro h; cases h
      · rintro ⟨-, -, h3⟩
        obtain ⟨y, h1, h2, h4⟩ := more_iff.1 hm
        have := h3 y h1 h2
        omega
    · rw [if_neg hm]
      constructor
      · intro h
        cases h
        exact ⟨rfl, hn, fun y hy e => Nat.le_of_not_lt fun h => hm (more_iff.2 ⟨y, hy, e, h⟩)⟩
      · rintro ⟨rfl, -, -⟩; rfl
theorem and_le_left16 {a b : Nat} (h : a ≤ 65535) : a &&& b ≤ 65535 := Nat.le_trans Nat.and_le_left h
theorem goodX_iff {x : Le} : goodX x = true ↔ 0 ≤ x.f ∧ x.f ≤ 15 ∧ 1 ≤ x.n ∧ x.t ≤ 65535 := by unfold goodX; rw [decide_eq_true_eq]
theorem inJ_good {own heard : List Le} (ho : goodL own = true) (hh : goodL heard = true) {z : Le} (h : InJ own heard z) : goodX z = true := by
  rcases h with ⟨x, hx, y, -, -, rfl⟩ | ⟨hz, -⟩ | ⟨hz, -⟩
  · have := goodX_iff.1 ((goodL_iff.1 ho).1 x hx)
    exact goodX_iff.2 ⟨this.1, this.2.1, this.2.2.1, and_le_left16 this.2.2.2⟩
  · exact (goodL_iff.1 ho).1 z hz
  · exact (goodL_iff.1 hh).1 z hz
theorem inJ_one {own heard : List Le} (ho : Rise own) (hh : Rise heard) {x y : Le} (hx : InJ own heard x) (hy : InJ own heard y) (h : Same x y) : x = y := by
  obtain ⟨h1, h2⟩ := h
  rcases hx with ⟨a, ha, b, hb, hs, rfl⟩ | ⟨hx, g1, -⟩ | ⟨hx, g1, -⟩
  · rcases hy with ⟨c, hc, d, hd, ht, rfl⟩ | ⟨hy, k1, -⟩ | ⟨hy, k1, -⟩
    · obtain rfl := rise_one ho ha hc h1.symm h2.symm
      obtain rfl := rise_one hh hb hd (hs.1.trans ht.1.symm) (hs.2.trans ht.2.symm)
      rfl
    · exact absurd (show Same y b from ⟨hs.1.trans h1.symm, hs.2.trans h2.symm⟩) (k1 b hb)
    · exact absurd (show Same y a from ⟨h1.symm, h2.symm⟩) (k1 a ha)
  · rcases hy with ⟨c, hc, d, hd, ht, rfl⟩ | ⟨hy, k1, -⟩ | ⟨hy, k1, -⟩
    · exact absurd (show Same x d from ⟨ht.1.trans h1, ht.2.trans h2⟩) (g1 d hd)
    · exact rise_one ho hx hy h1.symm h2.symm
    · exact absurd (show Same x y from ⟨h1, h2⟩) (g1 y hy)
  · rcases hy with ⟨c, hc, d, hd, ht, rfl⟩ | ⟨hy, k1, -⟩ | ⟨hy, k1, -⟩
    · exact absurd (show Same x c from ⟨h1, h2⟩) (g1 c hc)
    · exact absurd (show Same x y from ⟨h1, h2⟩) (g1 y hy)
    · exact rise_one hh hx hy h1.symm h2.symm
theorem join_is {own heard : List Le} (ho : goodL own = true) (hh : goodL heard = true) : goodL (joinG own heard) = true ∧ ∀ z, z ∈ joinG own heard ↔ InJ own heard z := by
  have hor := (goodL_iff.1 ho).2
  have hhr := (goodL_iff.1 hh).2
  have e1 : ∀ z, some z ∈ own.map (ownX heard) → InJ own heard z := fun z hz => by
    obtain ⟨x, hx, e⟩ := List.mem_map.1 hz
    rcases (own_iff hhr).1 e with ⟨y, hy, hs, rfl⟩ | ⟨rfl, h1, h2⟩
    · exact Or.inl ⟨x, hx, y, hy, hs, rfl⟩
    · exact Or.inr (Or.inl ⟨hx, h1, h2⟩)
  have e2 : ∀ z, some z ∈ heard.map (heardX own) → InJ own heard z := fun z hz => by
    obtain ⟨x, hx, e⟩ := List.mem_map.1 hz
    obtain ⟨rfl, h1, h2⟩ := heard_iff.1 e
    exact Or.inr (Or.inr ⟨hx, h1, h2⟩)
  obtain ⟨g1, m1⟩ := fold_add (l := own.map (ownX heard)) (r := []) goodL_nil (fun x hx => inJ_good ho hh (e1 x hx)) (fun x y hx hy hs => by
    rcases hx with hx | hx
    · cases hx
    · rcases hy with hy | hy
      · cases hy
      · exact inJ_one hor hhr (e1 x hx) (e1 y hy) hs)
  have m1' : ∀ z, z ∈ foldL [] (own.map (ownX heard)) → InJ own heard z := fun z hz => e1 z (((m1 z).1 hz).resolve_left (by simp))
  obtain ⟨g2, m2⟩ := fold_add (l := heard.map (heardX own)) g1 (fun x hx => inJ_good ho hh (e2 x hx)) (fun x y hx hy hs => inJ_one hor hhr (hx.elim (m1' x) (e2 x)) (hy.elim (m1' y) (e2 y)) hs)
  have ej : joinG own heard = foldL (foldL [] (own.map (ownX heard))) (heard.map (heardX own)) := if_pos ⟨ho, hh⟩
  rw [ej]
  refine ⟨g2, fun z => ?_⟩
  rw [m2 z]
  constructor
  · rintro (h | h)
    · exact m1' z h
    · exact e2 z h
  · rintro (⟨x, hx, y, hy, hs, rfl⟩ | ⟨hz, h1, h2⟩ | ⟨hz, h1, h2⟩)
    · exact Or.inl ((m1 _).2 (Or.inr (List.mem_map.2 ⟨x, hx, (own_iff hhr).2 (Or.inl ⟨y, hy, hs, rfl⟩)⟩)))
    · exact Or.inl ((m1 _).2 (Or.inr (List.mem_map.2 ⟨z, hz, (own_iff hhr).2 (Or.inr ⟨rfl, h1, h2⟩)⟩)))
    · exact Or.inr (List.mem_map.2 ⟨z, hz, heard_iff.2 ⟨rfl, h1, h2⟩⟩)
theorem join_no {own heard : List Le} (h : ¬ (goodL own = true ∧ goodL heard = true)) : joinG own heard = own := if_neg h
theorem inJ_comm {a b : List Le} {z : Le} (h : InJ a b z) : InJ b a z := by
  rcases h with ⟨x, hx, y, hy, hs, rfl⟩ | h | h
  · exact Or.inl ⟨y, hy, x, hx, ⟨hs.1.symm, hs.2.symm⟩, Le.eq hs.1.symm hs.2.symm (Nat.and_comm _ _)⟩
  · exact Or.inr (Or.inr h)
  · exact Or.inr (Or.inl h)
theorem join_comm {a b : List Le} (ha : goodL a = true) (hb : goodL b = true) : joinG a b = joinG b a := by
  obtain ⟨g1, m1⟩ := join_is ha hb
  obtain ⟨g2, m2⟩ := join_is hb ha
  exact rise_ext (goodL_iff.1 g1).2 (goodL_iff.1 g2).2 fun z => by rw [m1, m2]; exact ⟨inJ_comm, inJ_comm⟩
theorem join_self {a : List Le} (ha : goodL a = true) : joinG a a = a := by
  obtain ⟨g1, m1⟩ := join_is ha ha
  have hr := (goodL_iff.1 ha).2
  refine rise_ext (goodL_iff.1 g1).2 hr fun z => ?_
  rw [m1]
  constructor
  · rintro (⟨x, hx, y, hy, hs, rfl⟩ | h | h)
    · obtain rfl := rise_one hr hx hy hs.1.symm hs.2.symm
      rw [Nat.and_self]
      exact hx
    · exact h.1
    · exact h.1
  · intro h
    exact Or.inl ⟨z, h, z, h, ⟨rfl, rfl⟩, by rw [Nat.and_self]⟩

/-! As bytes. -/
def entB (x : Le) : List Nat := lebL x.f.toNat ++ (lebL x.n ++ lebL x.t)
def entsB (l : List Le) : List Nat := l.flatMap entB
def putG (l : List Le) : List Nat := if goodL l = true then lebL l.length ++ entsB l else []
theorem entsB_more (l : List Le) (x : Le) : entsB (l ++ [x]) = entsB l ++ entB x := by simp [entsB]
theorem entsB_cons (x : Le) (l : List Le) : entsB (x :: l) = entB x ++ entsB l := by simp [entsB]
def entR (s : Option (List Nat)) : Le × Option (List Nat) :=
  (⟨((numR 15 s).1 : Nat), (numR 18446744073709551615 (numR 15 s).2).1, (numR 65535 (numR 18446744073709551615 (numR 15 s).2).2).1⟩, (numR 65535 (numR 18446744073709551615 (numR 15 s).2).2).2)
def entsR : Nat → Option (List Nat) → List Le × Option (List Nat)
  | 0, s => ([], s)
  | k + 1, s => ((entsR k s).1 ++ [(entR (entsR k s).2).1], (entR (entsR k s).2).2)
def getG (b : List Nat) : Option (List Le) :=
  if endR (entsR (numR 4294967296 (some b)).1 (numR 4294967296 (some b)).2).2 && goodL (entsR (numR 4294967296 (some b)).1 (numR 4294967296 (some b)).2).1 then some (entsR (numR 4294967296 (some b)).1 (numR 4294967296 (some b)).2).1 else none
theorem entsR_len (k : Nat) (s : Option (List Nat)) : (entsR k s).1.length = k := by
  induction k with
  | zero => rfl
  | succ k ih => rw [entsR, List.length_append, ih]; rfl
theorem entR_none : (entR none).2 = none := rfl
theorem entsR_none {k : Nat} {s : Option (List Nat)} (h : (entsR k s).2 = none) : ∀ d, (entsR (k + d) s).2 = none
  | 0 => h
  | d + 1 => by
    show (entR (entsR (k + d) s).2).2 = none
    rw [entsR_none h d]
    exact entR_none
theorem ent_back {x : Le} (h : goodX x = true) (hn : x.n < 18446744073709551616) (r : List Nat) : entR (some (entB x ++ r)) = (x, some r) := by
  obtain ⟨h1, h2, h3, h4⟩ := goodX_iff.1 h
  have e1 : numR 15 (some (entB x ++ r)) = (x.f.toNat, some (lebL x.n ++ (lebL x.t ++ r))) := by
    unfold entB
    rw [List.append_assoc, List.append_assoc]
    exact num_back (by omega) (by omega) _
  have e2 : numR 18446744073709551615 (some (lebL x.n ++ (lebL x.t ++ r))) = (x.n, some (lebL x.t ++ r)) := num_back hn (by omega) _
  have e3 : numR 65535 (some (lebL x.t ++ r)) = (x.t, some r) := num_back (by omega) h4 _
  unfold entR
  rw [e1]
  simp only [e2, e3]
  rw [show ((x.f.toNat : Nat) : Int) = x.f by omega]
theorem ents_back {l : List Le} (h : ∀ x ∈ l, goodX x = true) (hn : ∀ x ∈ l, x.n < 18446744073709551616) (q : List Nat) {k : Nat} (hk : k ≤ l.length) : entsR k (some (entsB l ++ q)) = (l.take k, some (entsB (l.drop k) ++ q)) := by
  induction k with
  | zero => simp [entsR]
  | succ k ih =>
    have hlt : k < l.length := by omega
    rw [entsR, ih (by omega), List.drop_eq_getElem_cons hlt, entsB_cons, List.append_assoc, ent_back (h _ (List.getElem_mem _)) (hn _ (List.getElem_mem _)), List.take_succ_eq_append_getElem hlt]
theorem get_back {l : List Le} (h : goodL l = true) (hn : ∀ x ∈ l, x.n < 18446744073709551616) (hl : l.length ≤ 4294967296) : getG (putG l) = some l := by
  have e1 : numR 4294967296 (some (putG l)) = (l.length, some (entsB l)) := by
    unfold putG
    rw [if_pos h]
    exact num_back (by omega) hl _
  have e2 : entsR l.length (some (entsB l)) = (l, some []) := by
    have := ents_back (goodL_iff.1 h).1 hn [] (k := l.length) (Nat.le_refl _)
    rw [List.append_nil, List.take_of_length_le (Nat.le_refl _), List.drop_eq_nil_of_le (Nat.le_refl _)] at this
    exact this
  unfold getG
  rw [e1]
  simp only [e2, h]
  rfl
theorem num_inv {most n : Nat} {B R : List Nat} (hb : ∀ x ∈ B, x < 256) (h : numR most (some B) = (n, some R)) : B = lebL n ++ R ∧ n ≤ most ∧ n < 18446744073709551616 := by
  have hd : numR most (some B) = if (getN B).2 = 0 ∨ most < (getN B).1 then ((0 : Nat), (none : Option (List Nat))) else ((getN B).1, some (B.drop (getN B).2)) := rfl
  rw [hd] at h
  by_cases hc : (getN B).2 = 0 ∨ most < (getN B).1
  · rw [if_pos hc] at h; cases h
  · rw [if_neg hc] at h
    simp only [Prod.mk.injEq, Option.some.injEq] at h
    obtain ⟨rfl, rfl⟩ := h
    have hlt := getN_lt B
    have hdec : decN B = some ((getN B).1, (getN B).2) := by
      unfold getN at hc ⊢
      cases hd2 : decN B with
      | none => rw [hd2] at hc; exact absurd (Or.inl rfl) hc
      | some p =>
        obtain ⟨n', k'⟩ := p
        rw [hd2] at hc
        simp only at hc ⊢
        by_cases h1 : n' < 18446744073709551616
        · rw [if_pos h1]
        · rw [if_neg h1] at hc; exact absurd (Or.inl rfl) hc
    obtain ⟨e, e2⟩ := decN_back B _ _ hb hdec
    exact ⟨by rw [← e], by omega, hlt⟩

end Go.Proofs.Ytbmpeadoicjpnaa

/-
  Logs of entries, as plain data: what is read is what was written; purged, trimmed, place by place.
-/
namespace Go.Proofs.Ytbmpeadoicjpnaa
open Go.RowKit

theorem numR_some {most n : Nat} {s : Option (List Nat)} {R : List Nat} (h : numR most s = (n, some R)) : ∃ B, s = some B := by
  cases s with
  | none => cases h
  | some B => exact ⟨B, rfl⟩
theorem pair_eq {α β : Type} (p : α × β) : p = (p.1, p.2) := rfl
theorem ent_inv {B R : List Nat} {x : Le} (hb : ∀ x ∈ B, x < 256) (h : entR (some B) = (x, some R)) : B = entB x ++ R ∧ x.n < 18446744073709551616 := by
  unfold entR at h
  simp only [Prod.mk.injEq] at h
  obtain ⟨hx, h3⟩ := h
  have e3 : numR 65535 (numR 18446744073709551615 (numR 15 (some B)).2).2 = (x.t, some R) := by
    rw [pair_eq (numR 65535 _), h3]; rw [← hx]
  obtain ⟨B2, hB2⟩ := numR_some e3
  have e2 : numR 18446744073709551615 (numR 15 (some B)).2 = (x.n, some B2) := by
    rw [pair_eq (numR 18446744073709551615 _), hB2]; rw [← hx]
  obtain ⟨B1, hB1⟩ := numR_some e2
  have e1 : numR 15 (some B) = (x.f.toNat, some B1) := by
    rw [pair_eq (numR 15 _), hB1]; rw [← hx]; simp
  rw [hB1] at e2
  rw [hB2] at e3
  obtain ⟨g1, -, -⟩ := num_inv hb e1
  have hb1 : ∀ x ∈ B1, x < 256 := fun y hy => hb y (by rw [g1]; simp [hy])
  obtain ⟨g2, -, g4⟩ := num_inv hb1 e2
  have hb2 : ∀ x ∈ B2, x < 256 := fun y hy => hb1 y (by rw [g2]; simp [hy])
  obtain ⟨g3, -, -⟩ := num_inv hb2 e3
  refine ⟨?_, g4⟩
  unfold entB
  rw [List.append_assoc, List.append_assoc, ← g3, ← g2, ← g1]
theorem ents_inv {B : List Nat} (hb : ∀ x ∈ B, x < 256) : ∀ {k : Nat} {R : List Nat}, (entsR k (some B)).2 = some R → B = entsB (entsR k (some B)).1 ++ R ∧ ∀ x ∈ (entsR k (some B)).1, x.n < 18446744073709551616
  | 0, R, h => by
    simp only [entsR, Option.some.injEq] at h ⊢
    subst h
    simp [entsB]
  | k + 1, R, h => by
    have h' : (entR (entsR k (some B)).2).2 = some R := h
    cases hs : (entsR k (some B)).2 with
    | none => rw [hs] at h'; cases h'
    | some R1 =>
      rw [hs] at h'
      obtain ⟨e1, e2⟩ := ents_inv hb (k := k) hs
      have hr : entR (some R1) = ((entR (some R1)).1, some R) := by rw [pair_eq (entR (some R1)), h']
      obtain ⟨g1, g2⟩ := ent_inv (fun y hy => hb y (by rw [e1]; simp [hy])) hr
      have hl : (entsR (k + 1) (some B)).1 = (entsR k (some B)).1 ++ [(entR (some R1)).1] := by
        show (entsR k (some B)).1 ++ [(entR (entsR k (some B)).2).1] = _
        rw [hs]
      rw [hl, entsB_more, List.append_assoc, ← g1, ← e1]
      refine ⟨rfl, fun x hx => ?_⟩
      rcases List.mem_append.1 hx with hx | hx
      · exact e2 x hx
      · rw [List.mem_singleton.1 hx]; exact g2
theorem get_put {b : List Nat} {l : List Le} (hb : ∀ x ∈ b, x < 256) (h : getG b = some l) : goodL l = true ∧ putG l = b ∧ (∀ x ∈ l, x.n < 18446744073709551616) ∧ l.length ≤ 4294967296 := by
  unfold getG at h
  cases hn : numR 4294967296 (some b) with
  | mk n s =>
    rw [hn] at h
    simp only at h
    split at h
    · rename_i hc
      obtain ⟨h1, h2⟩ := Bool.and_eq_true _ _ |>.mp hc
      simp only [Option.some.injEq] at h
      cases s with
      | none =>
        have := entsR_none (k := 0) (s := none) rfl n
        rw [Nat.zero_add] at this
        rw [this] at h1
        cases h1
      | some B1 =>
        obtain ⟨g1, g2, -⟩ := num_inv hb hn
        cases he : (entsR n (some B1)).2 with
        | none => rw [he] at h1; cases h1
        | some R =>
          rw [he] at h1
          have hR : R = [] := of_decide_eq_true h1
          subst hR
          obtain ⟨g3, g4⟩ := ents_inv (fun y hy => hb y (by rw [g1]; simp [hy])) he
          have hl := entsR_len n (some B1)
          rw [h] at g3 g4 hl h2
          rw [List.append_nil] at g3
          refine ⟨h2, ?_, g4, by omega⟩
          unfold putG
          rw [if_pos h2, hl, ← g3, ← g1]
    · cases h
/-- Get, told by what is written. -/
theorem get_iff {b : List Nat} {l : List Le} (hb : ∀ x ∈ b, x < 256) : getG b = some l ↔ goodL l = true ∧ putG l = b ∧ (∀ x ∈ l, x.n < 18446744073709551616) ∧ l.length ≤ 4294967296 := by
  constructor
  · exact get_put hb
  · rintro ⟨h1, rfl, h3, h4⟩
    exact get_back h1 h3 h4
theorem entB_len {x : Le} (h : goodX x = true) (hn : x.n < 18446744073709551616) : (entB x).length ≤ 30 := by
  obtain ⟨h1, h2, h3, h4⟩ := goodX_iff.1 h
  have a := szN_word (show x.f.toNat < 18446744073709551616 by omega)
  have b := szN_word hn
  have c := szN_word (show x.t < 18446744073709551616 by omega)
  unfold entB
  rw [List.length_append, List.length_append]
  unfold szN at a b c
  omega
theorem entsB_len {l : List Le} (h : ∀ x ∈ l, goodX x = true) (hn : ∀ x ∈ l, x.n < 18446744073709551616) : (entsB l).length ≤ 30 * l.length := by
  induction l with
  | nil => simp [entsB]
  | cons x l ih =>
    have a := entB_len (h x (by simp)) (hn x (by simp))
    have b := ih (fun y hy => h y (by simp [hy])) (fun y hy => hn y (by simp [hy]))
    rw [entsB_cons, List.length_append, List.length_cons]
    omega

/-! Place by place. -/
theorem purge_at {l : List Le} (hr : Rise l) {i : Nat} (hi : i < l.length) : lastX l l[i] = true ↔ (i + 1 = l.length ∨ ∃ h : i + 1 < l.length, l[i + 1].f ≠ l[i].f) := by
  rw [last_iff]
  have hp := List.pairwise_iff_getElem.1 hr
  constructor
  · intro h
    by_cases h1 : i + 1 < l.length
    · refine Or.inr ⟨h1, fun e => ?_⟩
      have := h _ (List.getElem_mem h1) e
      have := ahead_iff.1 (hp i (i + 1) hi h1 (by omega))
      omega
    · exact Or.inl (by omega)
  · rintro h y hy e
    obtain ⟨j, hj, rfl⟩ := List.getElem_of_mem hy
    rcases Nat.lt_trichotomy j i with h1 | h1 | h1
    · have := ahead_iff.1 (hp j i hj hi h1); omega
    · subst h1; exact Nat.le_refl _
    · rcases h with h | ⟨h2, h3⟩
      · omega
      · have g1 := ahead_iff.1 (hp i (i + 1) hi h2 (by omega))
        rcases Nat.lt_or_ge (i + 1) j with h4 | h4
        · have := ahead_iff.1 (hp (i + 1) j h2 hj h4); omega
        · have : j = i + 1 := by omega
          subst this
          exact absurd e h3
theorem purge_take {l : List Le} {i : Nat} (hi : i < l.length) : (l.take (i + 1)).filter (keepX l) = (l.take i).filter (keepX l) ++ if keepX l l[i] = true then [l[i]] else [] := by
  rw [List.take_succ_eq_append_getElem hi, List.filter_append]
  congr 1
  by_cases h : keepX l l[i] = true
  · rw [if_pos h]; simp [h]
  · rw [if_neg h]; simp [h]
theorem but_take {l : List Le} {m i : Nat} (hi : i < l.length) : (l.take (i + 1)).map (setX · m) = (l.take i).map (setX · m) ++ [setX l[i] m] := by
  rw [List.take_succ_eq_append_getElem hi, List.map_append]; rfl
theorem fold_take {r : List Le} {l : List (Option Le)} {i : Nat} (hi : i < l.length) : foldL r (l.take (i + 1)) = match l[i] with | some x => addL (foldL r (l.take i)) x | none => foldL r (l.take i) := by
  unfold foldL
  rw [List.take_succ_eq_append_getElem hi, List.foldl_append]
  rfl
theorem butN_le (t to : Nat) : butN64 t to ≤ t := Nat.and_le_left
theorem but_good {l : List Le} (h : goodL l = true) (to : Nat) (d : Int) : goodL (butL l to d) = true := by
  obtain ⟨h1, h2⟩ := goodL_iff.1 h
  unfold butL
  rw [if_pos h]
  refine goodL_iff.2 ⟨fun x hx => ?_, ?_⟩
  · obtain ⟨y, hy, rfl⟩ := List.mem_map.1 hx
    obtain ⟨g1, g2, g3, g4⟩ := goodX_iff.1 (h1 y hy)
    exact goodX_iff.2 ⟨g1, g2, g3, Nat.le_trans (butN_le _ _) g4⟩
  · rw [Rise, List.pairwise_map]
    exact h2.imp fun {a b} hab => by rw [ahead_iff] at hab ⊢; exact hab
theorem but_len (l : List Le) (to : Nat) (d : Int) : (butL l to d).length = l.length := by
  unfold butL
  split
  · rw [List.length_map]
  · rfl
/-- How many have a To: as many behind Purge. -/
theorem purge_count {l : List Le} (h : goodL l = true) : (purgeL l).countP (fun x => decide (x.t ≠ 0)) = l.countP fun x => decide (x.t ≠ 0) := by
  unfold purgeL
  rw [if_pos h, List.countP_filter]
  refine List.countP_congr fun x _ => ?_
  unfold keepX
  cases decide (x.t ≠ 0) <;> simp

end Go.Proofs.Ytbmpeadoicjpnaa

/-
  Logs as plain data: where an entry is laid in.
-/
namespace Go.Proofs.Ytbmpeadoicjpnaa
open Go.RowKit

theorem ahead_same {a b c : Le} (h : Same a b) : aheadX a c = aheadX b c ∧ aheadX c a = aheadX c b := by
  obtain ⟨h1, h2⟩ := h
  unfold aheadX
  rw [h1, h2]
  exact ⟨rfl, rfl⟩
section
variable {l : List Le} {x : Le} {k : Nat}
theorem drop_mem {y : Le} (h : y ∈ l.drop k) : ∃ j, ∃ hj : j < l.length, k ≤ j ∧ y = l[j] := by
  obtain ⟨i, hi, rfl⟩ := List.getElem_of_mem h
  rw [List.length_drop] at hi
  exact ⟨k + i, by omega, by omega, by rw [List.getElem_drop]⟩
theorem filt_lo (hr : Rise l) (hk : k ≤ l.length) (h1 : ∀ i, (h : i < k) → aheadX (l[i]'(by omega)) x = true) (h2 : (h : k < l.length) → aheadX l[k] x = false) : l.filter (aheadX · x) = l.take k := by
  have e : l.filter (aheadX · x) = (l.take k ++ l.drop k).filter (aheadX · x) := by rw [List.take_append_drop]
  rw [e, List.filter_append, List.filter_eq_self.2, List.filter_eq_nil_iff.2, List.append_nil]
  · intro y hy
    obtain ⟨j, hj, hkj, rfl⟩ := drop_mem hy
    have g := h2 (by omega)
    rcases Nat.lt_or_ge k j with h3 | h3
    · have g2 := List.pairwise_iff_getElem.1 hr k j (by omega) hj h3
      intro h4
      rw [ahead_trans g2 h4] at g
      cases g
    · have : j = k := by omega
      subst this
      rw [g]; decide
  · intro y hy
    obtain ⟨i, hi, rfl⟩ := List.getElem_of_mem hy
    rw [List.length_take] at hi
    rw [List.getElem_take]
    exact h1 i (by omega)
theorem filt_hi (hr : Rise l) (hk : k ≤ l.length) (h1 : ∀ i, (h : i < k) → aheadX (l[i]'(by omega)) x = true) (h2 : (h : k < l.length) → aheadX l[k] x = false) :
    l.filter (aheadX x ·) = if ∃ h : k < l.length, Same x l[k] then l.drop (k + 1) else l.drop k := by
  have e : l.filter (aheadX x ·) = (l.take k ++ l.drop k).filter (aheadX x ·) := by rw [List.take_append_drop]
  have e1 : (l.take k).filter (aheadX x ·) = [] := List.filter_eq_nil_iff.2 fun y hy => by
    obtain ⟨i, hi, rfl⟩ := List.getElem_of_mem hy
    rw [List.length_take] at hi
    rw [List.getElem_take]
    rw [ahead_asym (h1 i (by omega))]; decide
  have hp := List.pairwise_iff_getElem.1 hr
  rw [e, List.filter_append, e1, List.nil_append]
  by_cases hs : ∃ h : k < l.length, Same x l[k]
  · rw [if_pos hs]
    obtain ⟨h, hs⟩ := hs
    rw [List.drop_eq_getElem_cons h, List.filter_cons_of_neg, List.filter_eq_self.2]
    · intro y hy
      obtain ⟨j, hj, hkj, rfl⟩ := drop_mem hy
      rw [(ahead_same hs).1]
      exact hp k j h hj (by omega)
    · rw [(ahead_same hs).1, ahead_self]; decide
  · rw [if_neg hs]
    refine List.filter_eq_self.2 fun y hy => ?_
    obtain ⟨j, hj, hkj, rfl⟩ := drop_mem hy
    have h : k < l.length := by omega
    have g : aheadX x l[k] = true := by
      rcases Bool.eq_false_or_eq_true (aheadX x l[k]) with h3 | h3
      · exact h3
      · have := ahead_or h3 (h2 h)
        exact absurd ⟨h, this.1.symm, this.2.symm⟩ hs
    rcases Nat.lt_or_ge k j with h3 | h3
    · exact ahead_trans g (hp k j h hj h3)
    · have : j = k := by omega
      subst this
      exact g
theorem add_at (hl : goodL l = true) (hx : goodX x = true) (hk : k ≤ l.length) (h1 : ∀ i, (h : i < k) → aheadX (l[i]'(by omega)) x = true) (h2 : (h : k < l.length) → aheadX l[k] x = false) :
    addL l x = l.take k ++ x :: if ∃ h : k < l.length, Same x l[k] then l.drop (k + 1) else l.drop k := by
  rw [addL_yes hl hx, filt_lo (goodL_iff.1 hl).2 hk h1 h2, filt_hi (goodL_iff.1 hl).2 hk h1 h2]
end
theorem good_take {l : List Le} {k : Nat} (hk : k < l.length) : goodL (l.take (k + 1)) = (goodL (l.take k) && (goodX (l.getD k default) && (decide (k = 0) || aheadX (l.getD (k - 1) default) (l.getD k default)))) := by
  have ek : l.getD k default = l[k] := by rw [List.getD, List.getElem?_eq_getElem hk]; rfl
  rw [Bool.eq_iff_iff, Bool.and_eq_true, Bool.and_eq_true, Bool.or_eq_true, decide_eq_true_eq, goodL_iff, goodL_iff, rise_take hk, List.take_succ_eq_append_getElem hk, ← ek]
  constructor
  · rintro ⟨h1, h2, h3⟩
    refine ⟨⟨fun x hx => h1 x (by simp [hx]), h2⟩, h1 _ (by simp), ?_⟩
    rcases Nat.eq_zero_or_pos k with h | h
    · exact Or.inl h
    · exact Or.inr (h3 h)
  · rintro ⟨⟨h1, h2⟩, h3, h4⟩
    refine ⟨fun x hx => ?_, h2, fun h => h4.resolve_left (by omega)⟩
    rcases List.mem_append.1 hx with hx | hx
    · exact h1 x hx
    · rw [List.mem_singleton.1 hx]; exact h3
theorem good_not {l : List Le} {k : Nat} (h : goodL (l.take k) = false) : goodL l = false := by
  rw [Bool.eq_false_iff] at h ⊢
  intro hl
  obtain ⟨h1, h2⟩ := goodL_iff.1 hl
  exact h (goodL_iff.2 ⟨fun x hx => h1 x (List.mem_of_mem_take hx), h2.sublist (List.take_sublist _ _)⟩)
theorem good_all {l : List Le} {k : Nat} (hk : l.length ≤ k) (h : goodL (l.take k) = true) : goodL l = true := by
  rwa [List.take_of_length_le hk] at h

end Go.Proofs.Ytbmpeadoicjpnaa

/-
  Two logs joined, as plain data: one list behind another, then sorted.
-/
namespace Go.Proofs.Ytbmpeadoicjpnaa
open Go.RowKit

def listJ (own heard : List Le) : List Le := own.filterMap (ownX heard) ++ heard.filterMap (heardX own)
theorem ownX_key {heard : List Le} {x z : Le} (h : ownX heard x = some z) : z.f = x.f ∧ z.n = x.n := by
  unfold ownX at h
  split at h
  · cases h; exact ⟨rfl, rfl⟩
  · split at h
    · cases h
    · cases h; exact ⟨rfl, rfl⟩
theorem mem_listJ {own heard : List Le} (hh : Rise heard) (z : Le) : z ∈ listJ own heard ↔ InJ own heard z := by
  unfold listJ InJ
  rw [List.mem_append, List.mem_filterMap, List.mem_filterMap]
  constructor
  · rintro (⟨x, hx, h⟩ | ⟨x, hx, h⟩)
    · rcases (own_iff hh).1 h with ⟨y, hy, h1, h2⟩ | ⟨rfl, h1, h2⟩
      · exact Or.inl ⟨x, hx, y, hy, h1, h2⟩
      · exact Or.inr (Or.inl ⟨hx, h1, h2⟩)
    · obtain ⟨rfl, h1, h2⟩ := heard_iff.1 h
      exact Or.inr (Or.inr ⟨hx, h1, h2⟩)
  · rintro (⟨x, hx, y, hy, h1, h2⟩ | ⟨hx, h1, h2⟩ | ⟨hx, h1, h2⟩)
    · exact Or.inl ⟨x, hx, (own_iff hh).2 (Or.inl ⟨y, hy, h1, h2⟩)⟩
    · exact Or.inl ⟨z, hx, (own_iff hh).2 (Or.inr ⟨rfl, h1, h2⟩)⟩
    · exact Or.inr ⟨z, hx, heard_iff.2 ⟨rfl, h1, h2⟩⟩
theorem rise_unlike {l : List Le} (h : Rise l) : l.Pairwise fun x y => ¬ Same x y := h.imp fun {a b} hab hs => by
  rw [ahead_iff] at hab
  obtain ⟨h1, h2⟩ := hs
  omega
theorem listJ_unlike {own heard : List Le} (ho : Rise own) (hh : Rise heard) : (listJ own heard).Pairwise fun x y => ¬ Same x y := by
  unfold listJ
  rw [List.pairwise_append, List.pairwise_filterMap, List.pairwise_filterMap]
  have p1 : own.Pairwise fun a a' => ∀ b, ownX heard a = some b → ∀ b', ownX heard a' = some b' → ¬ Same b b' := (rise_unlike ho).imp fun {a b} hab z hz z' hz' hs => by
    obtain ⟨h1, h2⟩ := ownX_key hz
    obtain ⟨h3, h4⟩ := ownX_key hz'
    obtain ⟨h5, h6⟩ := hs
    exact hab ⟨by rw [← h3, h5, h1], by rw [← h4, h6, h2]⟩
  have p2 : heard.Pairwise fun a a' => ∀ b, heardX own a = some b → ∀ b', heardX own a' = some b' → ¬ Same b b' := (rise_unlike hh).imp fun {a b} hab z hz z' hz' hs => by
    obtain ⟨rfl, -⟩ := heard_iff.1 hz
    obtain ⟨rfl, -⟩ := heard_iff.1 hz'
    exact hab hs
  refine ⟨p1, p2, fun z hz z' hz' hs => ?_⟩
  obtain ⟨x, hx, h⟩ := List.mem_filterMap.1 hz
  obtain ⟨y, hy, h'⟩ := List.mem_filterMap.1 hz'
  obtain ⟨h1, h2⟩ := ownX_key h
  obtain ⟨rfl, h3, -⟩ := heard_iff.1 h'
  exact h3 x hx ⟨by rw [← h1, hs.1], by rw [← h2, hs.2]⟩
theorem sorted_join {own heard l : List Le} (ho : goodL own = true) (hh : goodL heard = true) (hp : l.Perm (listJ own heard)) (hs : l.Pairwise fun x y => aheadX y x = false) : l = joinG own heard := by
  have ho2 := (goodL_iff.1 ho).2
  have hh2 := (goodL_iff.1 hh).2
  have hu : l.Pairwise fun x y => ¬ Same x y := (hp.pairwise_iff (fun {a b} hab hba => hab ⟨hba.1.symm, hba.2.symm⟩)).2 (listJ_unlike ho2 hh2)
  have hr : Rise l := (hs.and hu).imp fun {a b} ⟨h1, h2⟩ => by
    rcases Bool.eq_false_or_eq_true (aheadX a b) with h | h
    · exact h
    · have := ahead_or h h1
      exact absurd ⟨this.1.symm, this.2.symm⟩ h2
  obtain ⟨h1, h2⟩ := join_is ho hh
  exact rise_ext hr (goodL_iff.1 h1).2 fun z => by rw [hp.mem_iff, mem_listJ hh2, h2]
theorem nodup_unlike {l : List Le} (h : l.Pairwise fun x y => ¬ Same x y) : l.Nodup := h.imp fun {a b} hab e => hab (by subst e; exact ⟨rfl, rfl⟩)
theorem perm_of_mem {l m : List Le} (h1 : l.Pairwise fun x y => ¬ Same x y) (h2 : m.Pairwise fun x y => ¬ Same x y) (h : ∀ z, z ∈ l ↔ z ∈ m) : l.Perm m :=
  (List.perm_ext_iff_of_nodup (nodup_unlike h1) (nodup_unlike h2)).2 h
theorem joinG_len {own heard : List Le} (ho : goodL own = true) (hh : goodL heard = true) : (joinG own heard).length ≤ own.length + heard.length := by
  have hp : (listJ own heard).Perm (joinG own heard) := by
    obtain ⟨h1, h2⟩ := join_is ho hh
    refine perm_of_mem (listJ_unlike (goodL_iff.1 ho).2 (goodL_iff.1 hh).2) (rise_unlike (goodL_iff.1 h1).2) fun z => ?_
    rw [mem_listJ (goodL_iff.1 hh).2, h2]
  rw [← hp.length_eq]
  unfold listJ
  rw [List.length_append]
  have h1 := List.length_filterMap_le (ownX heard) own
  have h2 := List.length_filterMap_le (heardX own) heard
  omega
theorem filt_next {f : Le → Option Le} {l : List Le} {k : Nat} (hk : k < l.length) : (l.take (k + 1)).filterMap f = (l.take k).filterMap f ++ (f (l.getD k default)).toList := by
  have e : l.getD k default = l[k] := by rw [List.getD, List.getElem?_eq_getElem hk]; rfl
  rw [List.take_succ_eq_append_getElem hk, List.filterMap_append, e]
  cases h : f l[k] <;> simp [h]
theorem filt_le (f : Le → Option Le) (l : List Le) : (l.filterMap f).length ≤ l.length := List.length_filterMap_le _ _
theorem ownX_has {heard : List Le} {x y : Le} (h : findX heard x = some y) : ownX heard x = some ⟨x.f, x.n, x.t &&& y.t⟩ := by unfold ownX; rw [h]
theorem ownX_no {heard : List Le} {x : Le} (h : findX heard x = none) : ownX heard x = if moreX heard x = true then none else some x := by unfold ownX; rw [h]

end Go.Proofs.Ytbmpeadoicjpnaa

/-
  A writer writes a set.
-/
namespace Go.Proofs.Ytbmpeadoicjpnaa
open Go.RowKit

set_option maxHeartbeats 2000000 in
theorem wset_any (W : World) (N p : Nat) (F : Nat → Prop) (bs : List Nat) (n : Nat) (hA : WrAt W N p F bs) (hn : n < 18446744073709551616) (hl : bs.length ≤ 1000000) :
    Calls Try.prog 46 #[.pointer (some ⟨p, 0, none⟩), .int .u64 (n : Nat)] W (WrPost W N p F (bs ++ lebL n)) := by
  have HA := Lib.hid hA
  clear hA
  go_enter Try.func46, Try.ntmps46
  go_wp2_with (go_at_call 45; refine (wnum_any W N p F bs n HA.out hn hl).mono ?_; rintro e w' ⟨rfl, hw⟩; have R := Lib.hid hw; clear hw)
  go_end0
  exact ⟨rfl, R.out⟩

end Go.Proofs.Ytbmpeadoicjpnaa

/-
  A reader reads a set.
-/
namespace Go.Proofs.Ytbmpeadoicjpnaa
open Go.RowKit

theorem and_not_nat (a b : Nat) (ha : a < 18446744073709551616) (hb : b < 18446744073709551616) : bits .andNot .u64 (a : Int) (b : Int) = ((a &&& (18446744073709551615 - b) : Nat) : Int) := u64_andNot_nat a b ha hb

theorem eqw_word (d : Nat) : ((d : Int) == 0) = decide (d = 0) := by by_cases h : d = 0 <;> simp [h]

set_option maxRecDepth 20000 in
set_option maxHeartbeats 2000000 in
theorem wiset_any (s t : Nat) (W : World) (hs : s < 18446744073709551616) (ht : t < 18446744073709551616) :
    Calls Try.prog 30 #[.int .u64 (s : Nat), .int .u64 (t : Nat)] W fun e w' => e = .returned (.bool (decide (s &&& (18446744073709551615 - t) = 0))) ∧ W = w' := by
  have e1 := and_not_nat s t hs ht
  generalize s &&& (18446744073709551615 - t) = d at *
  go_enter Try.func30, Try.ntmps30
  go_wp2_with fail
  go_ret
  exact ⟨by rw [← eqw_word]; rfl, rfl⟩

theorem wiset_is {s t : Nat} {b : Bool} (W : World) (hs : s < 18446744073709551616) (ht : t < 18446744073709551616) (h : decide (s &&& (18446744073709551615 - t) = 0) = b) :
    Calls Try.prog 30 #[.int .u64 (s : Nat), .int .u64 (t : Nat)] W fun e w' => e = .returned (.bool b) ∧ W = w' := by
  subst h
  exact wiset_any s t W hs ht

set_option maxRecDepth 20000 in
set_option maxHeartbeats 2000000 in
theorem rset_any (W : World) (p : Nat) (S : Nat → Prop) (s : Option (List Nat)) (t : Nat) (hA : RdAt W p S s) (ht : t < 18446744073709551616) :
    Calls Try.prog 68 #[.pointer (some ⟨p, 0, none⟩), .int .u64 (t : Nat)] W (RdPost W p S (.int .u64 ((setR t s).1 : Nat)) (setR t s).2) := by
  have HA := Lib.hid hA
  clear hA
  have C := Lib.hid (rnum_top W p S s HA.out)
  have hx := numR_lt 18446744073709551615 s
  have E : Hid (setR t s = if (numR 18446744073709551615 s).1 &&& (18446744073709551615 - t) = 0 then numR 18446744073709551615 s else (0, none)) := rfl
  generalize numR 18446744073709551615 s = x at *
  obtain ⟨n, s1⟩ := x
  simp only at hx C E
  cases hd : decide (n &&& (18446744073709551615 - t) = 0)
  · have E2 := Lib.hid (show setR t s = (0, none) by rw [E.out, if_neg (of_decide_eq_false hd)])
    have D := Lib.hid hd
    clear E hd
    rw [E2.out]
    go_enter Try.func68, Try.ntmps68
    go_wp2_with fail
    refine C.out.mono ?_
    rintro e w1 ⟨rfl, ⟨a, cap, hV⟩, hk⟩
    have HV := Lib.hid hV
    have HK := Lib.hid hk
    clear hV hk
    go_wp2_with (first
      | (go_at_call 30; refine (wiset_is _ hx ht D.out).mono ?_; rintro e w' ⟨rfl, rfl⟩)
      | (go_at_call 67; refine (spoil_any _ p S _ _ a cap HV.out).mono ?_; rintro e w' ⟨rfl, hR⟩; have R := Lib.hid hR; clear hR))
    go_ret
    exact RdPost.trans HK.out ⟨rfl, R.out⟩
  · have E2 := Lib.hid (show setR t s = (n, s1) by rw [E.out, if_pos (of_decide_eq_true hd)])
    have D := Lib.hid hd
    clear E hd
    rw [E2.out]
    go_enter Try.func68, Try.ntmps68
    go_wp2_with fail
    refine C.out.mono ?_
    rintro e w1 ⟨rfl, hR⟩
    have R := Lib.hid hR
    clear hR
    go_wp2_with (go_at_call 30; refine (wiset_is _ hx ht D.out).mono ?_; rintro e w' ⟨rfl, rfl⟩)
    go_ret
    exact ⟨rfl, R.out⟩

end Go.Proofs.Ytbmpeadoicjpnaa

/-
  TrimKnown: the chapter's own logs, as plain data.
-/
namespace Go.Proofs.Ytbmpeadoicjpnaa
open Go.RowKit

/-! The chapter's own logs. -/
def gK : List Le := [⟨0, 1, 6⟩, ⟨0, 2, 2⟩, ⟨1, 5, 0⟩]
def aK : List Le := [⟨0, 1, 4⟩, ⟨0, 2, 0⟩, ⟨1, 5, 0⟩]
def lK : List Le := [⟨0, 1, 0⟩, ⟨0, 2, 0⟩, ⟨1, 5, 0⟩]
def bK : List Le := [⟨0, 2, 0⟩, ⟨1, 5, 0⟩]
def dK : List Le := [⟨0, 1, 6⟩, ⟨0, 2, 4⟩, ⟨1, 5, 0⟩]
def hK2 : List Le := [⟨0, 1, 4⟩, ⟨0, 3, 1⟩, ⟨1, 4, 1⟩, ⟨2, 1, 1⟩]
def fK : List Le := [⟨0, 1, 4⟩, ⟨0, 3, 1⟩, ⟨1, 5, 0⟩, ⟨2, 1, 1⟩]
def badK : List Le := [⟨1, 1, 0⟩, ⟨0, 1, 0⟩]
def gB : List Nat := [3, 0, 1, 6, 0, 2, 2, 1, 5, 0]
theorem k_less : butL gK 2 (-1) = aK := by decide
theorem k_less6 : butL gK 6 (-1) = lK := by decide
theorem k_purge : purgeL lK = bK := by decide
theorem k_but : butL gK 6 2 = aK := by decide
theorem k_add : addL gK ⟨0, 2, 4⟩ = dK := by decide
theorem k_add16 : addL gK ⟨16, 1, 0⟩ = gK := by decide
theorem k_join : joinG gK hK2 = fK := by decide
theorem k_good : goodL gK = true := by decide
theorem k_bad : goodL badK = false := by decide
theorem k_pbad : purgeL badK = badK := by decide
theorem k_jbad : joinG gK badK = gK := by decide
theorem k_putbad : putG badK = [] := by unfold putG; rw [k_bad]; rfl
theorem k_put : putG gK = gB := by
  unfold putG
  rw [if_pos k_good]
  simp [gK, gB, entsB, entB, lebL_lo]
theorem k_small : ∀ x ∈ gK, x.n < 18446744073709551616 := by decide
theorem k_get : getG gB = some gK := by rw [← k_put]; exact get_back k_good k_small (by decide)
theorem k_get1 : getG (gB ++ [0]) = none := by
  have e1 : numR 4294967296 (some (gB ++ [0])) = (3, some (entsB gK ++ [0])) := by
    have := num_back (n := 3) (most := 4294967296) (by omega) (by omega) (entsB gK ++ [0])
    rw [← k_put]
    unfold putG
    rw [if_pos k_good, List.append_assoc]
    exact this
  have e2 : entsR 3 (some (entsB gK ++ [0])) = (gK, some [0]) := ents_back (goodL_iff.1 k_good).1 k_small [0] (k := 3) (by decide)
  unfold getG
  rw [e1]
  simp only [e2]
  rfl

end Go.Proofs.Ytbmpeadoicjpnaa
