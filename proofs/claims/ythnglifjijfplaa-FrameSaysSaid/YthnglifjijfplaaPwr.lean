/-
  What a writer's calls do: numbers, bytes.
-/
import Derived.Test.YthnglifjijfplaaPrep
import Derived.Deep.RegionLaw
namespace Go.Proofs.Ythnglifjijfplaa
open Go.RowKit

theorem put_nil (n : Nat) (W : World) (hn : n < 18446744073709551616) :
    Calls Try.prog 29 #[.slice none 0 0, .int .u64 (n : Nat)] W (MadePost bV 256 W (lebL n)) := by
  simpa using put_any [] none 0 n W (SlAt.none _ _ _) hn (by simp)

theorem leb_len {n : Nat} (hn : n < 18446744073709551616) : 0 < (lebL n).length ∧ (lebL n).length ≤ 10 := ⟨szN_pos n, szN_word hn⟩

theorem WrV.at2 {w w2 : World} {N p : Nat} {F : Nat → Prop} {bs : List Nat} {v : Value} (h : WrV w N p F bs v) (hgr : w.grownBy w2 v.ownBlock) : w2.cell? ⟨p, 0, none⟩ = some v ∧ w2.frozen? ⟨p, 0, none⟩ = false := by
  have hb : w2.heap[p]? = w.heap[p]? := hgr.block p (h.low p h.inP).2 (fun e => h.apart e.symm)
  exact ⟨(World.cell?_of_block (w := w) (a := ⟨p, 0, none⟩) hb).trans h.cell, (World.frozen?_of_block (w := w) (a := ⟨p, 0, none⟩) hb).trans h.fz⟩

theorem lies_at {v : Value} {H g n cap : Nat} (hat : v.ownBlock = some g ∨ g = H) : ∀ k, (Value.slice (some ⟨g, 0, none⟩) n cap).ownBlock = some k → v.ownBlock = some k ∨ H ≤ k := by
  intro k hk
  have e : g = k := by simpa [Value.ownBlock] using hk
  subst e
  exact hat.imp id (fun h => Nat.le_of_eq h.symm)

set_option maxRecDepth 20000 in
set_option maxHeartbeats 2000000 in
theorem wnum_any (W : World) (N p : Nat) (F : Nat → Prop) (bs : List Nat) (n : Nat) (hA : WrAt W N p F bs) (hn : n < 18446744073709551616) (hl : bs.length ≤ 1000000) :
    Calls Try.prog 18 #[.pointer (some ⟨p, 0, none⟩), .int .u64 (n : Nat)] W (WrPost W N p F (bs ++ lebL n)) := by
  obtain ⟨v, hV⟩ := hA
  obtain ⟨i0, hi0, hz0, hz1, hz2⟩ := info_parts Try.infoB
  have hp : p < W.heap.size := (hV.low p hV.inP).2
  have hN := (hV.low p hV.inP).1
  have c0 := hV.cell
  have f0 := hV.fz
  have c0' : W.drew.cell? ⟨p, 0, none⟩ = some v := c0
  obtain ⟨l1, l2⟩ := leb_len hn
  have HV := Lib.hid hV
  clear hV
  go_enter Try.func18, Try.ntmps18
  go_wp2_with fail
  go_region_law (first
    | (refine step_append_lies _ rfl (.tmp 8) (.tmp 10) 23 rfl N 5 i0 (.int .u8 0) 1 1 Try.underlying23 hi0 hz0 hz1 hz2 rfl (by decide) _ _ _ (by simp [Act.eval]) HO2.out ⟨b1, o1, none⟩ (lebL n).length cap1 ((lebL n).map bV) (by simp [Act.eval]) (by simp) (HS1.out.news ⟨b1, o1, none⟩ rfl) (ones_b _) (by omega) (by unfold maxLen; omega) (by omega) (by omega) _ rfl ?_
       intro g2 cap2 w2 hown2 hgr2 hat2 hlt2
       have R := Lib.hid (HV1.out.post (Keep.ofBelow HB1.out) rfl hown2 hgr2 (lies_at hat2) (lebL_lt n))
       obtain ⟨c2, f2⟩ := HV1.out.at2 hgr2
       clear hown2 hgr2 hat2)
    | (go_simp; go_at_call 29; refine (put_nil n _ hn).mono ?_
       rintro e w1 ⟨a1, cap1, rfl, hs1, hb1⟩
       obtain ⟨b1, o1, rfl, _, _⟩ := hs1.cell 0 l1
       have hb1' : Below W.heap.size W w1 := ⟨hb1.os, hb1.tape, hb1.output, hb1.size, hb1.block⟩
       have hV1 := HV.out.drew.below hb1
       have HV1 := Lib.hid hV1
       have HO2 := Lib.hid hV1.own
       have HB1 := Lib.hid hb1'
       have HS1 := Lib.hid hs1
       have c1 := hV1.cell
       have hp1 := (hV1.low p hV1.inP)
       clear hV1 hb1 hb1' hs1))
  all_goals go_end0
  all_goals exact R.out

theorem WrPost.trans {W w1 w2 : World} {N p : Nat} {F F1 : Nat → Prop} {bs : List Nat} {e : Ending} (hk : Keep F W w1) (hF : ∀ k, F1 k → F k ∨ W.heap.size ≤ k) (h : WrPost w1 N p F1 bs e w2) : WrPost W N p F bs e w2 := by
  obtain ⟨he, F2, hA, hk2, hF2⟩ := h
  refine ⟨he, F2, hA, hk.trans hk2 (fun k hk f => (hF k f).elim id (fun l => by omega)), fun k f => ?_⟩
  rcases hF2 k f with g | g
  · exact hF k g
  · exact Or.inr (Nat.le_trans hk.size g)

/-- A slice that came in lies in none of the blocks that were turned. -/
theorem SlAt.keep {f : Nat → Value} {M : Nat} {F : Nat → Prop} {w w' : World} {a : Option Addr} {cap : Nat} {xs : List Nat} (h : SlAt f M w a cap xs) (hk : Keep F w w') (hF : ∀ ad, a = some ad → xs ≠ [] → ¬ F ad.block) : SlAt f M w' a cap xs :=
  h.carry hk.size (fun ad e h0 l => hk.block ad.block l (hF ad e h0))

set_option maxRecDepth 20000 in
set_option maxHeartbeats 2000000 in
theorem wbytes_any (W : World) (N p : Nat) (F : Nat → Prop) (bs cs : List Nat) (ao : Option Addr) (cap : Nat) (hA : WrAt W N p F bs) (hs : SlAt bV 256 W ao cap cs) (hF : ∀ ad, ao = some ad → cs ≠ [] → ¬ F ad.block) (hl : bs.length ≤ 900000) (hc : cs.length ≤ 100000) :
    Calls Try.prog 19 #[.pointer (some ⟨p, 0, none⟩), .slice ao cs.length cap] W (WrPost W N p F (bs ++ lebL cs.length ++ cs)) := by
  obtain ⟨i0, hi0, hz0, hz1, hz2⟩ := info_parts Try.infoB
  have hn : cs.length < 18446744073709551616 := by omega
  obtain ⟨l1, l2⟩ := leb_len hn
  have HA := Lib.hid hA
  have HS := Lib.hid hs
  have HF := Lib.hid hF
  clear hA hs hF
  go_enter Try.func19, Try.ntmps19
  go_wp2_with fail
  refine (wnum_any W N p F bs cs.length HA.out hn (by omega)).mono ?_
  rintro e w1 ⟨rfl, F1, ⟨v, hV⟩, hk, hF1⟩
  have hp : p < w1.heap.size := (hV.low p hV.inP).2
  have hNw : N ≤ w1.heap.size := by have := (hV.low p hV.inP).1; omega
  have c0 := hV.cell
  have f0 := hV.fz
  have HV := Lib.hid hV
  have HK := Lib.hid hk
  have HF1 := Lib.hid hF1
  have HS1 := Lib.hid (HS.out.keep hk HF.out)
  have hlen : (bs ++ lebL cs.length).length ≤ 900010 := by rw [List.length_append]; omega
  generalize (bs ++ lebL cs.length) = ds at *
  clear hV hk hF1
  go_wp2_with (at_builtin; refine wpList_append_at rfl (.tmp 13) (.tmp 14) 23 rfl N 5 i0 (.int .u8 0) 1 1 Try.underlying23 hi0 hz0 hz1 hz2 rfl (by decide) _ _ _ rfl HV.out.own _ _ _ (cs.map bV) rfl (by simp) HS1.out.empty HS1.out.news (ones_b _) (by unfold maxLen; omega) (by omega) hNw ?_
               intro v2 w2 hown2 hgr2 hat2
               obtain ⟨a2, cap2, rfl⟩ := own_form hown2
               have R := Lib.hid (HV.out.post (Keep.refl _ _) rfl hown2 hgr2 hat2 HS1.out.lt)
               obtain ⟨c2, f2⟩ := HV.out.at2 hgr2
               clear hown2 hgr2 hat2)
  go_end0
  exact WrPost.trans HK.out HF1.out R.out

/-! A copy, and what all calls so far wrote. -/
def FreshPost (W : World) (ys : List Nat) (e : Ending) (w' : World) : Prop :=
  ∃ a cap, e = .returned (.slice a ys.length cap) ∧ SlAt bV 256 w' a cap ys ∧ Below W.heap.size W w' ∧ ∀ ad, a = some ad → W.heap.size ≤ ad.block ∧ ad.block < w'.heap.size

theorem own_fresh {W w' : World} {v : Value} {ys : List Nat} (h : w'.ownsRow W.heap.size 5 1 v ys.length (ys.map bV)) (hl : ∀ x ∈ ys, x < 256) (hb : Below W.heap.size W w') : FreshPost W ys (.returned v) w' := by
  obtain ⟨_, a, cap, rfl, hs⟩ := own_sl h hl
  exact ⟨a, cap, rfl, hs, hb, fun ad e => by subst e; exact h.lt ad.block rfl⟩

set_option maxRecDepth 20000 in
set_option maxHeartbeats 2000000 in
theorem clone_any (bs : List Nat) (ao : Option Addr) (cap : Nat) (W : World) (hs : SlAt bV 256 W ao cap bs) (hb : bs.length ≤ 2000000) :
    Calls Try.prog 26 #[.slice ao bs.length cap] W (FreshPost W bs) := by
  obtain ⟨i0, hi0, hz0, hz1, hz2⟩ := info_parts Try.infoB
  cases ao with
  | none =>
    have hc := hs.nil rfl
    have hf := hs.fit
    obtain rfl : bs = [] := List.length_eq_zero_iff.1 (by omega)
    subst hc
    have he : ∀ w : World, (binOp .eql 23 (.slice none 0 0) (.slice none 0 0)).run Try.prog w = .ok (.bool true) w := fun _ => rfl
    go_enter Try.func26, Try.ntmps26
    go_wp2_with fail
    go_ret
    exact ⟨none, 0, rfl, SlAt.none _ _ _, Below.refl _ _, fun ad e => by cases e⟩
  | some ad =>
    have S := Lib.hid hs
    clear hs
    have he : ∀ w : World, (binOp .eql 23 (.slice (some ad) bs.length cap) (.slice none 0 0)).run Try.prog w = .ok (.bool false) w := fun _ => rfl
    have O := Lib.hid (World.ownsRow_lit (base := W.heap.size) (e := 5) (size := 1) W #[] 0 (Nat.le_refl _) (by unfold maxLen; omega) rfl)
    go_enter Try.func26, Try.ntmps26
    go_wp2_with (at_builtin; refine wpList_append_at rfl (.tmp 5) (.tmp 6) 23 rfl W.heap.size 5 i0 (.int .u8 0) 1 1 Try.underlying23 hi0 hz0 hz1 hz2 rfl (by decide) _ _ _ rfl O.out _ _ _ (bs.map bV) rfl (by simp) S.out.empty (S.out.below ((Below.refl _ _).alloc (Nat.le_refl _) _)).news (ones_b _) (by unfold maxLen; omega) (by omega) (by simp) ?_
                 intro v2 w2 hown2 hgr2 hat2
                 have hb2 : Below W.heap.size W w2 := ((Below.refl _ _).alloc (Nat.le_refl _) _).grown hgr2 (by simp) (fun k h => (O.out.lt k h).1)
                 try rw [Nat.zero_add, List.nil_append] at hown2
                 have R := Lib.hid (own_fresh hown2 S.out.lt hb2)
                 clear hown2 hgr2 hb2 hat2)
    go_ret
    exact R.out

theorem WrV.slice {w : World} {N p : Nat} {F : Nat → Prop} {bs : List Nat} {v : Value} (h : WrV w N p F bs v) : ∃ a cap, v = .slice a bs.length cap ∧ SlAt bV 256 w a cap bs := (own_sl h.own h.lt).2

set_option maxHeartbeats 2000000 in
theorem wdone_any (W : World) (N p : Nat) (F : Nat → Prop) (bs : List Nat) (hA : WrAt W N p F bs) (hl : bs.length ≤ 2000000) :
    Calls Try.prog 20 #[.pointer (some ⟨p, 0, none⟩)] W (FreshPost W bs) := by
  obtain ⟨v, hV⟩ := hA
  have c0 := hV.cell
  obtain ⟨a, cap, rfl, hs⟩ := hV.slice
  have HS := Lib.hid hs
  clear hV hs
  go_enter Try.func20, Try.ntmps20
  go_wp2_with (go_at_call 26; refine (clone_any bs a cap W HS.out hl).mono ?_; rintro e w' ⟨a2, cap2, rfl, h2⟩; have R := Lib.hid h2; clear h2)
  go_ret
  exact ⟨a2, cap2, rfl, R.out⟩

def NewWrPost (W : World) (N : Nat) (e : Ending) (w' : World) : Prop :=
  e = .returned (.pointer (some ⟨W.heap.size, 0, none⟩)) ∧ WrAt w' N W.heap.size (fun k => k = W.heap.size) [] ∧ Below W.heap.size W w'

theorem new_wr (W : World) (N : Nat) (hN : N ≤ W.heap.size) (t : TypeId) : WrV (W.alloc (.cells #[.slice none 0 0] t)) N W.heap.size (fun k => k = W.heap.size) [] (.slice none 0 0) :=
  ⟨by simp, by simp, World.ownsRow_nil .., rfl, fun k hk => by simp [Value.ownBlock] at hk, fun k f => by subst f; simpa using hN, by simp [Value.ownBlock], by simp⟩

set_option maxHeartbeats 1000000 in
theorem wnew_any (W : World) (N : Nat) (hN : N ≤ W.heap.size) : Calls Try.prog 17 #[] W (NewWrPost W N) := by
  have HN := Lib.hid hN
  go_enter Try.func17, Try.ntmps17
  go_wp2_with fail
  go_ret
  exact ⟨rfl, ⟨_, new_wr W N HN.out _⟩, (Below.refl _ _).alloc (Nat.le_refl _) _⟩

end Go.Proofs.Ythnglifjijfplaa
