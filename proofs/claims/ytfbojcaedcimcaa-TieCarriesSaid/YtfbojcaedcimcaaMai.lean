/-
  Texts of this claim, put together.
-/
import Derived.Test.YtfbojcaedcimcaaPrepm
import Derived.Deep.RegionLaw

/-
  What a writer's calls do: numbers, bytes.
-/
namespace Go.Proofs.Ytfbojcaedcimcaa
open Go.RowKit

theorem put_nil (n : Nat) (W : World) (hn : n < 18446744073709551616) :
    Calls Try.prog 62 #[.slice none 0 0, .int .u64 (n : Nat)] W (MadePost bV 256 W (lebL n)) := by
  simpa using put_any [] none 0 n W (SlAt.none _ _ _) hn (by simp)

theorem leb_len {n : Nat} (hn : n < 18446744073709551616) : 0 < (lebL n).length ∧ (lebL n).length ≤ 10 := ⟨szN_pos n, szN_word hn⟩

theorem WrV.at2 {w w2 : World} {N p : Nat} {F : Nat → Prop} {bs : List Nat} {v : Value} (h : WrV w N p F bs v) (hgr : w.grownBy w2 v.ownBlock) : w2.cell? ⟨p, 0, none⟩ = some v ∧ w2.frozen? ⟨p, 0, none⟩ = false := by
  have hb : w2.heap[p]? = w.heap[p]? := hgr.block p (h.low p h.inP).2 (fun e => h.apart e.symm)
  exact ⟨(World.cell?_of_block (w := w) (a := ⟨p, 0, none⟩) hb).trans h.cell, (World.frozen?_of_block (w := w) (a := ⟨p, 0, none⟩) hb).trans h.fz⟩

theorem lies_at {v : Value} {H g n cap : Nat} (hat : v.ownBlock = some g ∨ g = H) : ∀ k, (Value.slice (some ⟨g, 0, none⟩) n cap).ownBlock = some k → v.ownBlock = some k ∨ H ≤ k := by
  intro k hk
  have e : g = k := by simpa [Value.ownBlock] using hk
  subst e
  exact hat.imp id (fun h => Nat.le_of_eq h.symm)

set_option maxRecDepth 20000 in
set_option maxHeartbeats 2000000 in
theorem wnum_any (W : World) (N p : Nat) (F : Nat → Prop) (bs : List Nat) (n : Nat) (hA : WrAt W N p F bs) (hn : n < 18446744073709551616) (hl : bs.length ≤ 1000000) :
    Calls Try.prog 52 #[.pointer (some ⟨p, 0, none⟩), .int .u64 (n : Nat)] W (WrPost W N p F (bs ++ lebL n)) := by
  obtain ⟨v, hV⟩ := hA
  obtain ⟨i0, hi0, hz0, hz1, hz2⟩ := info_parts Try.infoB
  have hp : p < W.heap.size := (hV.low p hV.inP).2
  have hN := (hV.low p hV.inP).1
  have c0 := hV.cell
  have f0 := hV.fz
  have c0' : W.drew.cell? ⟨p, 0, none⟩ = some v := c0
  obtain ⟨l1, l2⟩ := leb_len hn
  have HV := Lib.hid hV
  clear hV
  go_enter Try.func52, Try.ntmps52
  go_wp2_with fail
  go_region_law (first
    | (refine step_append_lies _ rfl (.tmp 8) (.tmp 10) 30 rfl N 5 i0 (.int .u8 0) 1 1 Try.underlying30 hi0 hz0 hz1 hz2 rfl (by decide) _ _ _ (by simp [Act.eval]) HO2.out ⟨b1, o1, none⟩ (lebL n).length cap1 ((lebL n).map bV) (by simp [Act.eval]) (by simp) (HS1.out.news ⟨b1, o1, none⟩ rfl) (ones_b _) (by omega) (by unfold maxLen; omega) (by omega) (by omega) _ rfl ?_
       intro g2 cap2 w2 hown2 hgr2 hat2 hlt2
       have R := Lib.hid (HV1.out.post (Keep.ofBelow HB1.out) rfl hown2 hgr2 (lies_at hat2) (lebL_lt n))
       obtain ⟨c2, f2⟩ := HV1.out.at2 hgr2
       clear hown2 hgr2 hat2)
    | (go_simp; go_at_call 62; refine (put_nil n _ hn).mono ?_
       rintro e w1 ⟨a1, cap1, rfl, hs1, hb1⟩
       obtain ⟨b1, o1, rfl, _, _⟩ := hs1.cell 0 l1
       have hb1' : Below W.heap.size W w1 := ⟨hb1.os, hb1.tape, hb1.output, hb1.size, hb1.block⟩
       have hV1 := HV.out.drew.below hb1
       have HV1 := Lib.hid hV1
       have HO2 := Lib.hid hV1.own
       have HB1 := Lib.hid hb1'
       have HS1 := Lib.hid hs1
       have c1 := hV1.cell
       have hp1 := (hV1.low p hV1.inP)
       clear hV1 hb1 hb1' hs1))
  all_goals go_end0
  all_goals exact R.out

theorem WrPost.trans {W w1 w2 : World} {N p : Nat} {F F1 : Nat → Prop} {bs : List Nat} {e : Ending} (hk : Keep F W w1) (hF : ∀ k, F1 k → F k ∨ W.heap.size ≤ k) (h : WrPost w1 N p F1 bs e w2) : WrPost W N p F bs e w2 := by
  obtain ⟨he, F2, hA, hk2, hF2⟩ := h
  refine ⟨he, F2, hA, hk.trans hk2 (fun k hk f => (hF k f).elim id (fun l => by omega)), fun k f => ?_⟩
  rcases hF2 k f with g | g
  · exact hF k g
  · exact Or.inr (Nat.le_trans hk.size g)

/-- A slice that came in lies in none of the blocks that were turned. -/
theorem SlAt.keep {f : Nat → Value} {M : Nat} {F : Nat → Prop} {w w' : World} {a : Option Addr} {cap : Nat} {xs : List Nat} (h : SlAt f M w a cap xs) (hk : Keep F w w') (hF : ∀ ad, a = some ad → xs ≠ [] → ¬ F ad.block) : SlAt f M w' a cap xs :=
  h.carry hk.size (fun ad e h0 l => hk.block ad.block l (hF ad e h0))

set_option maxRecDepth 20000 in
set_option maxHeartbeats 2000000 in
theorem wbytes_any (W : World) (N p : Nat) (F : Nat → Prop) (bs cs : List Nat) (ao : Option Addr) (cap : Nat) (hA : WrAt W N p F bs) (hs : SlAt bV 256 W ao cap cs) (hF : ∀ ad, ao = some ad → cs ≠ [] → ¬ F ad.block) (hl : bs.length ≤ 900000) (hc : cs.length ≤ 100000) :
    Calls Try.prog 53 #[.pointer (some ⟨p, 0, none⟩), .slice ao cs.length cap] W (WrPost W N p F (bs ++ lebL cs.length ++ cs)) := by
  obtain ⟨i0, hi0, hz0, hz1, hz2⟩ := info_parts Try.infoB
  have hn : cs.length < 18446744073709551616 := by omega
  obtain ⟨l1, l2⟩ := leb_len hn
  have HA := Lib.hid hA
  have HS := Lib.hid hs
  have HF := Lib.hid hF
  clear hA hs hF
  go_enter Try.func53, Try.ntmps53
  go_wp2_with fail
  refine (wnum_any W N p F bs cs.length HA.out hn (by omega)).mono ?_
  rintro e w1 ⟨rfl, F1, ⟨v, hV⟩, hk, hF1⟩
  have hp : p < w1.heap.size := (hV.low p hV.inP).2
  have hNw : N ≤ w1.heap.size := by have := (hV.low p hV.inP).1; omega
  have c0 := hV.cell
  have f0 := hV.fz
  have HV := Lib.hid hV
  have HK := Lib.hid hk
  have HF1 := Lib.hid hF1
  have HS1 := Lib.hid (HS.out.keep hk HF.out)
  have hlen : (bs ++ lebL cs.length).length ≤ 900010 := by rw [List.length_append]; omega
  generalize (bs ++ lebL cs.length) = ds at *
  clear hV hk hF1
  go_wp2_with (at_builtin; refine wpList_append_at rfl (.tmp 13) (.tmp 14) 30 rfl N 5 i0 (.int .u8 0) 1 1 Try.underlying30 hi0 hz0 hz1 hz2 rfl (by decide) _ _ _ rfl HV.out.own _ _ _ (cs.map bV) rfl (by simp) HS1.out.empty HS1.out.news (ones_b _) (by unfold maxLen; omega) (by omega) hNw ?_
               intro v2 w2 hown2 hgr2 hat2
               obtain ⟨a2, cap2, rfl⟩ := own_form hown2
               have R := Lib.hid (HV.out.post (Keep.refl _ _) rfl hown2 hgr2 hat2 HS1.out.lt)
               obtain ⟨c2, f2⟩ := HV.out.at2 hgr2
               clear hown2 hgr2 hat2)
  go_end0
  exact WrPost.trans HK.out HF1.out R.out

/-! A copy, and what all calls so far wrote. -/
def FreshPost (W : World) (ys : List Nat) (e : Ending) (w' : World) : Prop :=
  ∃ a cap, e = .returned (.slice a ys.length cap) ∧ SlAt bV 256 w' a cap ys ∧ Below W.heap.size W w' ∧ ∀ ad, a = some ad → W.heap.size ≤ ad.block ∧ ad.block < w'.heap.size

theorem own_fresh {W w' : World} {v : Value} {ys : List Nat} (h : w'.ownsRow W.heap.size 5 1 v ys.length (ys.map bV)) (hl : ∀ x ∈ ys, x < 256) (hb : Below W.heap.size W w') : FreshPost W ys (.returned v) w' := by
  obtain ⟨_, a, cap, rfl, hs⟩ := own_sl h hl
  exact ⟨a, cap, rfl, hs, hb, fun ad e => by subst e; exact h.lt ad.block rfl⟩

set_option maxRecDepth 20000 in
set_option maxHeartbeats 2000000 in
theorem clone_any (bs : List Nat) (ao : Option Addr) (cap : Nat) (W : World) (hs : SlAt bV 256 W ao cap bs) (hb : bs.length ≤ 2000000) :
    Calls Try.prog 48 #[.slice ao bs.length cap] W (FreshPost W bs) := by
  obtain ⟨i0, hi0, hz0, hz1, hz2⟩ := info_parts Try.infoB
  cases ao with
  | none =>
    have hc := hs.nil rfl
    have hf := hs.fit
    obtain rfl : bs = [] := List.length_eq_zero_iff.1 (by omega)
    subst hc
    have he : ∀ w : World, (binOp .eql 30 (.slice none 0 0) (.slice none 0 0)).run Try.prog w = .ok (.bool true) w := fun _ => rfl
    go_enter Try.func48, Try.ntmps48
    go_wp2_with fail
    go_ret
    exact ⟨none, 0, rfl, SlAt.none _ _ _, Below.refl _ _, fun ad e => by cases e⟩
  | some ad =>
    have S := Lib.hid hs
    clear hs
    have he : ∀ w : World, (binOp .eql 30 (.slice (some ad) bs.length cap) (.slice none 0 0)).run Try.prog w = .ok (.bool false) w := fun _ => rfl
    have O := Lib.hid (World.ownsRow_lit (base := W.heap.size) (e := 5) (size := 1) W #[] 0 (Nat.le_refl _) (by unfold maxLen; omega) rfl)
    go_enter Try.func48, Try.ntmps48
    go_wp2_with (at_builtin; refine wpList_append_at rfl (.tmp 5) (.tmp 6) 30 rfl W.heap.size 5 i0 (.int .u8 0) 1 1 Try.underlying30 hi0 hz0 hz1 hz2 rfl (by decide) _ _ _ rfl O.out _ _ _ (bs.map bV) rfl (by simp) S.out.empty (S.out.below ((Below.refl _ _).alloc (Nat.le_refl _) _)).news (ones_b _) (by unfold maxLen; omega) (by omega) (by simp) ?_
                 intro v2 w2 hown2 hgr2 hat2
                 have hb2 : Below W.heap.size W w2 := ((Below.refl _ _).alloc (Nat.le_refl _) _).grown hgr2 (by simp) (fun k h => (O.out.lt k h).1)
                 try rw [Nat.zero_add, List.nil_append] at hown2
                 have R := Lib.hid (own_fresh hown2 S.out.lt hb2)
                 clear hown2 hgr2 hb2 hat2)
    go_ret
    exact R.out

theorem WrV.slice {w : World} {N p : Nat} {F : Nat → Prop} {bs : List Nat} {v : Value} (h : WrV w N p F bs v) : ∃ a cap, v = .slice a bs.length cap ∧ SlAt bV 256 w a cap bs := (own_sl h.own h.lt).2

set_option maxHeartbeats 2000000 in
theorem wdone_any (W : World) (N p : Nat) (F : Nat → Prop) (bs : List Nat) (hA : WrAt W N p F bs) (hl : bs.length ≤ 2000000) :
    Calls Try.prog 54 #[.pointer (some ⟨p, 0, none⟩)] W (FreshPost W bs) := by
  obtain ⟨v, hV⟩ := hA
  have c0 := hV.cell
  obtain ⟨a, cap, rfl, hs⟩ := hV.slice
  have HS := Lib.hid hs
  clear hV hs
  go_enter Try.func54, Try.ntmps54
  go_wp2_with (go_at_call 48; refine (clone_any bs a cap W HS.out hl).mono ?_; rintro e w' ⟨a2, cap2, rfl, h2⟩; have R := Lib.hid h2; clear h2)
  go_ret
  exact ⟨a2, cap2, rfl, R.out⟩

def NewWrPost (W : World) (N : Nat) (e : Ending) (w' : World) : Prop :=
  e = .returned (.pointer (some ⟨W.heap.size, 0, none⟩)) ∧ WrAt w' N W.heap.size (fun k => k = W.heap.size) [] ∧ Below W.heap.size W w'

theorem new_wr (W : World) (N : Nat) (hN : N ≤ W.heap.size) (t : TypeId) : WrV (W.alloc (.cells #[.slice none 0 0] t)) N W.heap.size (fun k => k = W.heap.size) [] (.slice none 0 0) :=
  ⟨by simp, by simp, World.ownsRow_nil .., rfl, fun k hk => by simp [Value.ownBlock] at hk, fun k f => by subst f; simpa using hN, by simp [Value.ownBlock], by simp⟩

set_option maxHeartbeats 1000000 in
theorem wnew_any (W : World) (N : Nat) (hN : N ≤ W.heap.size) : Calls Try.prog 51 #[] W (NewWrPost W N) := by
  have HN := Lib.hid hN
  go_enter Try.func51, Try.ntmps51
  go_wp2_with fail
  go_ret
  exact ⟨rfl, ⟨_, new_wr W N HN.out _⟩, (Below.refl _ _).alloc (Nat.le_refl _) _⟩

end Go.Proofs.Ytfbojcaedcimcaa

/-
  What a reader's calls do: numbers.
-/
namespace Go.Proofs.Ytfbojcaedcimcaa
open Go.RowKit

/-! What is read, and what is then left (none: bad). -/
def numR (most : Nat) : Option (List Nat) → Nat × Option (List Nat)
  | none => (0, none)
  | some B => if (getN B).2 = 0 ∨ most < (getN B).1 then (0, none) else ((getN B).1, some (B.drop (getN B).2))

def setR (within : Nat) (s : Option (List Nat)) : Nat × Option (List Nat) :=
  if (numR 18446744073709551615 s).1 &&& (18446744073709551615 - within) = 0 then numR 18446744073709551615 s else (0, none)

def bytR (most : Int) (s : Option (List Nat)) : List Nat × Option (List Nat) :=
  if ((numR (max most 0).toNat s).2.getD []).length < (numR (max most 0).toNat s).1 then ([], none)
  else (((numR (max most 0).toNat s).2.getD []).take (numR (max most 0).toNat s).1, (numR (max most 0).toNat s).2.map (List.drop (numR (max most 0).toNat s).1))

def endR : Option (List Nat) → Bool
  | none => false
  | some B => decide (B = [])

theorem numR_bad {most : Nat} {s : Option (List Nat)} (h : (getN (s.getD [])).2 = 0 ∨ most < (getN (s.getD [])).1) : numR most s = (0, none) := by
  cases s with
  | none => rfl
  | some B => exact if_pos h

theorem numR_ok {most : Nat} {s : Option (List Nat)} (h : ¬ ((getN (s.getD [])).2 = 0 ∨ most < (getN (s.getD [])).1)) : ∃ B, s = some B ∧ numR most s = ((getN B).1, some (B.drop (getN B).2)) := by
  cases s with
  | none => exact absurd (Or.inl rfl) h
  | some B => exact ⟨B, rfl, if_neg h⟩

theorem numR_lt (most : Nat) (s : Option (List Nat)) : (numR most s).1 < 18446744073709551616 := by
  cases s with
  | none => exact Nat.lt_of_lt_of_le (show (0 : Nat) < 1 by decide) (by decide)
  | some B =>
    show (if (getN B).2 = 0 ∨ most < (getN B).1 then ((0 : Nat), (none : Option (List Nat))) else ((getN B).1, some (B.drop (getN B).2))).1 < _
    by_cases h : (getN B).2 = 0 ∨ most < (getN B).1
    · rw [if_pos h]; exact (by decide : 0 < 18446744073709551616)
    · rw [if_neg h]; exact getN_lt B

theorem Keep.own {W w : World} {p : Nat} (h : Keep (fun k => k = p) W w) (i : Nat) (u : Value) : Keep (fun k => k = p) W (w.setCell ⟨p, i, none⟩ u) := Keep.setCell h (p := ⟨p, i, none⟩) rfl u

set_option maxHeartbeats 1000000 in
theorem spoil_any (W : World) (p : Nat) (S : Nat → Prop) (bs : List Nat) (bad : Bool) (a : Option Addr) (cap : Nat) (hV : RdV W p S bs bad a cap) :
    Calls Try.prog 50 #[.pointer (some ⟨p, 0, none⟩)] W (RdPost W p S (.tuple #[]) none) := by
  have c0 := hV.c0
  have c1 := hV.c1
  have f0 := hV.fz 0
  have f1 := hV.fz 1
  have HV := Lib.hid hV
  clear hV
  go_enter Try.func50, Try.ntmps50
  go_wp2
  go_end0
  exact ⟨rfl, HV.out.spoilt, ((Keep.refl _ _).own _ _).own _ _⟩

theorem get_of {bs : List Nat} {ao : Option Addr} {cap len n k : Nat} {W : World} (hs : SlAt bV 256 W ao cap bs) (hl : len = bs.length) (hg : getN bs = (n, k)) :
    Calls Try.prog 49 #[.slice ao len cap] W fun e w' => e = .returned (.tuple #[.int .u64 (n : Nat), .int .i64 (k : Nat)]) ∧ W = w' := by
  subst hl
  have := get_any bs ao cap W hs
  rw [hg] at this
  exact this

theorem RdPost.trans {W w1 w2 : World} {p : Nat} {S : Nat → Prop} {v : Value} {s : Option (List Nat)} {e : Ending} (hk : Keep (fun k => k = p) W w1) (h : RdPost w1 p S v s e w2) : RdPost W p S v s e w2 :=
  ⟨h.1, h.2.1, hk.trans h.2.2 (fun _ _ f => f)⟩

set_option maxRecDepth 20000 in
set_option maxHeartbeats 2000000 in
theorem rnum_any (W : World) (p : Nat) (S : Nat → Prop) (s : Option (List Nat)) (most : Nat) (hA : RdAt W p S s) :
    Calls Try.prog 31 #[.pointer (some ⟨p, 0, none⟩), .int .u64 (most : Nat)] W (RdPost W p S (.int .u64 ((numR most s).1 : Nat)) (numR most s).2) := by
  obtain ⟨a, cap, hV⟩ := hA
  have c0 := hV.c0
  have f0 := hV.fz 0
  have hp := hV.inP
  have hgs := getN_size (s.getD [])
  have hgl := getN_lt (s.getD [])
  have hmax := hV.sl.max
  have hfit := hV.sl.fit
  have HV := Lib.hid hV
  clear hV
  by_cases h : (getN (s.getD [])).2 = 0 ∨ most < (getN (s.getD [])).1
  · rw [numR_bad h]
    obtain ⟨n, k, hg⟩ : ∃ n k, getN (s.getD []) = (n, k) := ⟨_, _, rfl⟩
    rw [hg] at h hgs hgl
    have HG := Lib.hid hg
    clear hg
    simp only at h hgs hgl
    by_cases hk : k = 0
    · subst hk
      clear h
      go_enter Try.func31, Try.ntmps31
      go_wp2_with (first
        | (go_at_call 49; refine (get_of HV.out.sl rfl HG.out).mono ?_; rintro e w' ⟨rfl, rfl⟩)
        | (go_at_call 50; refine (spoil_any _ p S _ _ a cap HV.out).mono ?_; rintro e w' ⟨rfl, hR⟩; have R := Lib.hid hR; clear hR))
      go_ret
      exact ⟨rfl, R.out⟩
    · have h2 : most < n := h.elim (fun e => absurd e hk) id
      have d1 : ((k : Int) == 0) = false := by simp; omega
      clear h
      go_enter Try.func31, Try.ntmps31
      go_wp2_with (first
        | (go_at_call 49; refine (get_of HV.out.sl rfl HG.out).mono ?_; rintro e w' ⟨rfl, rfl⟩)
        | (go_at_call 50; refine (spoil_any _ p S _ _ a cap HV.out).mono ?_; rintro e w' ⟨rfl, hR⟩; have R := Lib.hid hR; clear hR))
      go_ret
      exact ⟨rfl, R.out⟩
  · obtain ⟨B, rfl, hR⟩ := numR_ok h
    rw [hR]
    simp only [Option.getD_some] at c0 hgs hgl hfit h HV
    obtain ⟨n, k, hg⟩ : ∃ n k, getN B = (n, k) := ⟨_, _, rfl⟩
    have N1 := Lib.hid (HV.out.next k (by rw [hg] at hgs; exact hgs))
    rw [hg] at h hgs hgl ⊢
    have HG := Lib.hid hg
    clear hg hR
    simp only at h hgs hgl ⊢
    have hk : ¬ k = 0 := fun e => h (Or.inl e)
    have d1 : ((k : Int) == 0) = false := by simp; omega
    have h2 : ¬ most < n := fun e => h (Or.inr e)
    rw [List.length_drop] at N1
    clear h
    by_cases hcap : cap = k
    · rw [if_pos hcap] at N1
      have N2 := N1.out
      clear N1
      subst hcap
      rw [Nat.sub_self, show B.length - cap = 0 by omega] at N2
      have N1 := Lib.hid N2
      clear N2
      go_enter Try.func31, Try.ntmps31
      go_wp2_with (go_at_call 49; refine (get_of HV.out.sl rfl HG.out).mono ?_; rintro e w' ⟨rfl, rfl⟩)
      go_ret
      exact ⟨rfl, ⟨_, _, N1.out⟩, (Keep.refl _ _).own _ _⟩
    · rw [if_neg hcap] at N1
      go_enter Try.func31, Try.ntmps31
      go_wp2_with (go_at_call 49; refine (get_of HV.out.sl rfl HG.out).mono ?_; rintro e w' ⟨rfl, rfl⟩)
      go_ret
      exact ⟨rfl, ⟨_, _, N1.out⟩, (Keep.refl _ _).own _ _⟩

theorem rnum_top (W : World) (p : Nat) (S : Nat → Prop) (s : Option (List Nat)) (hA : RdAt W p S s) :
    Calls Try.prog 31 #[.pointer (some ⟨p, 0, none⟩), .int .u64 18446744073709551615] W (RdPost W p S (.int .u64 ((numR 18446744073709551615 s).1 : Nat)) (numR 18446744073709551615 s).2) :=
  rnum_any W p S s 18446744073709551615 hA

theorem nil_test (B : List Nat) : ((B.length : Int) == 0) = decide (B = []) := by
  cases B with
  | nil => rfl
  | cons x r => simp; omega

set_option maxHeartbeats 2000000 in
theorem rend_any (W : World) (p : Nat) (S : Nat → Prop) (s : Option (List Nat)) (hA : RdAt W p S s) :
    Calls Try.prog 33 #[.pointer (some ⟨p, 0, none⟩)] W fun e w' => e = .returned (.bool (endR s)) ∧ W = w' := by
  obtain ⟨a, cap, hV⟩ := hA
  have c0 := hV.c0
  have c1 := hV.c1
  clear hV
  cases s with
  | none =>
    go_enter Try.func33, Try.ntmps33
    go_wp2_with fail
    go_ret
    exact ⟨rfl, rfl⟩
  | some B =>
    simp only [Option.getD_some, Option.isNone_some] at c0 c1
    have E := Lib.hid (nil_test B)
    go_enter Try.func33, Try.ntmps33
    go_wp2_with fail
    go_ret
    exact ⟨ret_b E.out, rfl⟩

/-- The reader goes on: nothing is left, or something may be. -/
theorem RdV.nextA {w : World} {p k : Nat} {S : Nat → Prop} {bs : List Nat} {bad : Bool} {a : Option Addr} {cap : Nat} (h : RdV w p S bs bad a cap) (hk : k ≤ bs.length) (hc : cap = k) :
    RdV (w.setCell ⟨p, 0, none⟩ (.slice a 0 0)) p S (bs.drop k) bad a 0 := by
  have hn := h.next k hk
  have hf := h.sl.fit
  rw [if_pos hc, List.length_drop, show bs.length - k = 0 by omega, show cap - k = 0 by omega] at hn
  exact hn

theorem RdV.nextB {w : World} {p k : Nat} {S : Nat → Prop} {bs : List Nat} {bad : Bool} {a : Option Addr} {cap : Nat} (h : RdV w p S bs bad a cap) (hk : k ≤ bs.length) (hc : ¬ cap = k) :
    RdV (w.setCell ⟨p, 0, none⟩ (.slice (a.map (·.add k)) (bs.length - k) (cap - k))) p S (bs.drop k) bad (a.map (·.add k)) (cap - k) := by
  have hn := h.next k hk
  rw [if_neg hc, List.length_drop] at hn
  exact hn

def BytPost (W : World) (p : Nat) (S : Nat → Prop) (ys : List Nat) (s : Option (List Nat)) (e : Ending) (w' : World) : Prop :=
  ∃ a cap, e = .returned (.slice a ys.length cap) ∧ SlAt bV 256 w' a cap ys ∧ RdAt w' p S s ∧ Keep (fun k => k = p) W w' ∧ ∀ ad, a = some ad → W.heap.size ≤ ad.block

theorem top_wrap {M : Nat} (h : M ≤ 9223372036854775807) : IntKind.u64.wrap (M : Int) = (M : Int) := by rw [IntKind.wrap_u64]; omega

theorem takes_len {xs : List Nat} {n : Nat} (hn : n ≤ xs.length) : (xs.take n).length = n := by rw [List.length_take]; omega

theorem clone_of {bs : List Nat} {ao : Option Addr} {cap len : Nat} {W : World} (hs : SlAt bV 256 W ao cap bs) (hl : bs.length = len) (hb : len ≤ 2000000) :
    Calls Try.prog 48 #[.slice ao len cap] W (FreshPost W bs) := by
  subst hl
  exact clone_any bs ao cap W hs hb

theorem RdAt.len {w : World} {p : Nat} {S : Nat → Prop} {bs : List Nat} {bad : Bool} {a : Option Addr} {cap : Nat} (h : RdV w p S bs bad a cap) : bs.length ≤ 9223372036854775807 := by
  have h1 := h.sl.fit
  have h2 := h.sl.max
  unfold maxLen at h2
  omega

end Go.Proofs.Ytfbojcaedcimcaa

/-
  Bytes are read.
-/
namespace Go.Proofs.Ytfbojcaedcimcaa
open Go.RowKit

theorem RdV.at_drop {w : World} {p n : Nat} {S : Nat → Prop} {s : Option (List Nat)} {a : Option Addr} {cap : Nat} (h : RdV w p S ((s.getD []).drop n) s.isNone a cap) : RdAt w p S (s.map (List.drop n)) := by
  refine ⟨a, cap, ?_⟩
  cases s with
  | none => simpa using h
  | some B => exact h

set_option maxRecDepth 20000 in
set_option maxHeartbeats 2000000 in
theorem rbytes_any (W : World) (p : Nat) (S : Nat → Prop) (s : Option (List Nat)) (most : Int) (hA : RdAt W p S s) (hm : -9223372036854775808 ≤ most ∧ most ≤ 9223372036854775807) (hb : (s.getD []).length ≤ 1000000) :
    Calls Try.prog 32 #[.pointer (some ⟨p, 0, none⟩), .int .i64 most] W (BytPost W p S (bytR most s).1 (bytR most s).2) := by
  have HA := Lib.hid hA
  clear hA
  obtain ⟨M, hM⟩ : ∃ M : Nat, max most 0 = (M : Int) := ⟨(max most 0).toNat, by omega⟩
  have hM2 : M ≤ 9223372036854775807 := by omega
  have hw := top_wrap hM2
  have C := Lib.hid (show ∀ z : Int, (M : Int) = z → Calls Try.prog 31 #[.pointer (some ⟨p, 0, none⟩), .int .u64 z] W (RdPost W p S (.int .u64 ((numR M s).1 : Nat)) (numR M s).2) from fun z hz => by subst hz; exact rnum_any W p S s M HA.out)
  have hx := numR_lt M s
  have hl : ((numR M s).2.getD []).length ≤ 1000000 := by
    cases s with
    | none => exact Nat.zero_le _
    | some B =>
      show ((if (getN B).2 = 0 ∨ M < (getN B).1 then ((0 : Nat), (none : Option (List Nat))) else ((getN B).1, some (B.drop (getN B).2))).2.getD []).length ≤ _
      by_cases h : (getN B).2 = 0 ∨ M < (getN B).1
      · rw [if_pos h]; exact Nat.zero_le _
      · rw [if_neg h]; simp at hb ⊢; omega
  have E : Hid (bytR most s = if ((numR M s).2.getD []).length < (numR M s).1 then ([], none) else (((numR M s).2.getD []).take (numR M s).1, (numR M s).2.map (List.drop (numR M s).1))) := by
    show bytR most s = _
    rw [show M = (max most 0).toNat by omega]
    rfl
  generalize numR M s = x at *
  obtain ⟨n, s1⟩ := x
  simp only at hx hl C E
  clear hb
  have hz : (most < 0 ∧ (M : Int) = 0) ∨ (0 ≤ most ∧ (M : Int) = most) := by omega
  clear hM
  rcases hz with ⟨h0, hz⟩ | ⟨h0, hz⟩
  all_goals
    have Z := Lib.hid hz
    clear hz
    by_cases h : (s1.getD []).length < n
    · have E2 := Lib.hid (show bytR most s = ([], none) by rw [E.out, if_pos h])
      clear E
      rw [E2.out]
      go_enter Try.func32, Try.ntmps32
      go_wp2_with fail
      refine (C.out _ Z.out).mono ?_
      rintro e w1 ⟨rfl, ⟨a, cap, hV⟩, hk⟩
      have c0 := hV.c0
      have HV := Lib.hid hV
      have HK := Lib.hid hk
      clear hV hk
      have wl := top_wrap (show (s1.getD []).length ≤ 9223372036854775807 by omega)
      go_wp2_with (go_at_call 50; refine (spoil_any _ p S _ _ a cap HV.out).mono ?_; rintro e w' ⟨rfl, hR⟩; have R := Lib.hid hR; clear hR)
      go_ret
      exact ⟨none, 0, rfl, SlAt.none _ _ _, R.out.1, HK.out.trans R.out.2 (fun _ _ f => f), fun ad e => by cases e⟩
    · have E2 := Lib.hid (show bytR most s = ((s1.getD []).take n, s1.map (List.drop n)) by rw [E.out, if_neg h])
      have hn : n ≤ (s1.getD []).length := Nat.le_of_not_lt h
      clear E h
      rw [E2.out]
      go_enter Try.func32, Try.ntmps32
      go_wp2_with fail
      refine (C.out _ Z.out).mono ?_
      rintro e w1 ⟨rfl, ⟨a, cap, hV⟩, hk⟩
      have c0 := hV.c0
      have hfit := hV.sl.fit
      have HV := Lib.hid hV
      have HK := Lib.hid hk
      clear hV hk
      have wl := top_wrap (show (s1.getD []).length ≤ 9223372036854775807 by omega)
      go_wp2_with fail
      refine (clone_of (HV.out.sl.take n) (takes_len hn) (by omega)).mono ?_
      rintro e w2 ⟨a2, cap2, rfl, hs2, hb2, hf2⟩
      have hV2 := HV.out.below hb2
      have c2 := hV2.c0
      have f2 := hV2.fz 0
      have hp2 := hV2.inP
      have HV2 := Lib.hid hV2
      have HB2 := Lib.hid hb2
      have HF2 := Lib.hid hf2
      have HS2 := Lib.hid hs2
      clear hV2 hb2 hf2 hs2
      have hsz := HK.out.size
      by_cases hcap : cap = n
      · have N1 := Lib.hid (HV2.out.nextA hn hcap).at_drop
        have T1 := Lib.hid (HS2.out.keep ((Keep.refl (fun k => k = p) w2).own 0 (.slice a 0 0)) (fun ad e _ f => by have := (HF2.out ad e).1; have := HV.out.inP; omega))
        have K1 := Lib.hid ((HK.out.trans (Keep.ofBelow (F := fun k => k = p) HB2.out) (fun _ _ f => f)).own 0 (.slice a 0 0))
        subst hcap
        go_wp2_with fail
        go_ret
        exact ⟨a2, cap2, (by rw [takes_len hn]; rfl), T1.out, N1.out, K1.out, fun ad e => Nat.le_trans hsz (HF2.out ad e).1⟩
      · have N1 := Lib.hid (HV2.out.nextB hn hcap).at_drop
        have T1 := Lib.hid (HS2.out.keep ((Keep.refl (fun k => k = p) w2).own 0 (.slice (a.map (·.add n)) ((s1.getD []).length - n) (cap - n))) (fun ad e _ f => by have := (HF2.out ad e).1; have := HV.out.inP; omega))
        have K1 := Lib.hid ((HK.out.trans (Keep.ofBelow (F := fun k => k = p) HB2.out) (fun _ _ f => f)).own 0 (.slice (a.map (·.add n)) ((s1.getD []).length - n) (cap - n)))
        go_wp2_with fail
        go_ret
        exact ⟨a2, cap2, (by rw [takes_len hn]; rfl), T1.out, N1.out, K1.out, fun ad e => Nat.le_trans hsz (HF2.out ad e).1⟩

end Go.Proofs.Ytfbojcaedcimcaa

/-
  A reader begins.
-/
namespace Go.Proofs.Ytfbojcaedcimcaa
open Go.RowKit

def NewRdPost (W : World) (bs : List Nat) (e : Ending) (w' : World) : Prop :=
  ∃ p S, e = .returned (.pointer (some ⟨p, 0, none⟩)) ∧ RdAt w' p S (some bs) ∧ Below W.heap.size W w' ∧ W.heap.size ≤ p ∧ ∀ k, S k → W.heap.size ≤ k ∧ k < p

theorem new_rd {W w1 : World} {bs : List Nat} {a : Option Addr} {cap : Nat} {t : TypeId} (hs : SlAt bV 256 w1 a cap bs) (hb : Below W.heap.size W w1) (hf : ∀ ad, a = some ad → W.heap.size ≤ ad.block ∧ ad.block < w1.heap.size) :
    NewRdPost W bs (.returned (.pointer (some ⟨w1.heap.size, 0, none⟩))) (w1.alloc (.cells #[.slice a bs.length cap, .bool false] t)) := by
  refine ⟨w1.heap.size, fun k => W.heap.size ≤ k ∧ k < w1.heap.size, rfl, ⟨a, cap, ?_⟩, hb.alloc hb.size _, hb.size, fun k h => h⟩
  exact ⟨by simp, by simp, fun i => by simp, by simp, hs.below ((Below.refl _ _).alloc (Nat.le_refl _) _), (fun ad e _ => hf ad e), fun h => by omega⟩

set_option maxHeartbeats 2000000 in
theorem rnew_any (W : World) (bs : List Nat) (ao : Option Addr) (cap : Nat) (hs : SlAt bV 256 W ao cap bs) (hl : bs.length ≤ 2000000) :
    Calls Try.prog 30 #[.slice ao bs.length cap] W (NewRdPost W bs) := by
  have HS := Lib.hid hs
  clear hs
  go_enter Try.func30, Try.ntmps30
  go_wp2_with fail
  refine (clone_any bs ao cap W HS.out hl).mono ?_
  rintro e w1 ⟨a1, cap1, rfl, hs1, hb1, hf1⟩
  have R := Lib.hid (new_rd (t := 94) hs1 hb1 hf1)
  clear hs1 hb1 hf1
  go_wp2_with fail
  go_ret
  exact R.out

end Go.Proofs.Ytfbojcaedcimcaa

/-
  What is written is read again: numbers, bytes, sets.
-/
namespace Go.Proofs.Ytfbojcaedcimcaa
open Go.RowKit

theorem num_back {n most : Nat} (hn : n < 18446744073709551616) (hm : n ≤ most) (r : List Nat) : numR most (some (lebL n ++ r)) = (n, some r) := by
  show (if (getN (lebL n ++ r)).2 = 0 ∨ most < (getN (lebL n ++ r)).1 then _ else _) = _
  rw [getN_lebL hn]
  have := szN_pos n
  rw [if_neg (by simp only; omega)]
  show (n, some ((lebL n ++ r).drop (szN n))) = _
  rw [show szN n = (lebL n).length from rfl, List.drop_left' rfl]

theorem byt_back {bs : List Nat} {most : Int} (hm : (bs.length : Int) ≤ most) (hb : bs.length < 18446744073709551616) (r : List Nat) : bytR most (some (lebL bs.length ++ (bs ++ r))) = (bs, some r) := by
  have e := num_back (most := (max most 0).toNat) hb (by omega) (bs ++ r)
  unfold bytR
  rw [e]
  simp only [Option.getD_some, List.length_append]
  rw [if_neg (by omega), List.take_left' rfl]
  simp [List.drop_left' rfl]

theorem set_back {n : Nat} (hn : n < 18446744073709551616) (r : List Nat) : setR 18446744073709551615 (some (lebL n ++ r)) = (n, some r) := by
  unfold setR
  rw [num_back hn (by omega) r]
  simp

end Go.Proofs.Ytfbojcaedcimcaa
