/-
  What the document's own writer's calls do.
-/
import Derived.Test.YthnglifjijfplaaPrs
namespace Go.Proofs.Ythnglifjijfplaa
open Go.RowKit

def OwnPost (W : World) (ys : List Nat) (e : Ending) (w' : World) : Prop :=
  ∃ v, e = .returned v ∧ w'.ownsRow W.heap.size 5 1 v ys.length (ys.map bV) ∧ Below W.heap.size W w'

theorem own_end {W wr w2 : World} {bs ms : List Nat} {m n : Nat} {v2 : Value} {o : Obj} {a : Option Addr} {c : Nat} (hm : m < 128) (hB : Below W.heap.size W wr) (hO : wr.ownsRow W.heap.size 5 1 (.slice a ms.length c) ms.length (ms.map bV)) (he : ms ++ lebL m = bs ++ lebL n)
    (hown : w2.ownsRow W.heap.size 5 1 v2 (ms.length + 1) (ms.map bV ++ [bV m])) (hgr : (wr.alloc o).grownBy w2 (Value.slice a ms.length c).ownBlock) : OwnPost W (bs ++ lebL n) (.returned v2) w2 := by
  rw [lebL_lo hm] at he
  have e : ms.map bV ++ [bV m] = (bs ++ lebL n).map bV := by rw [← he]; simp
  have e2 : ms.length + 1 = (bs ++ lebL n).length := by rw [← he]; simp
  rw [e, e2] at hown
  exact ⟨v2, rfl, hown, (hB.alloc hB.size o).grown hgr (by have := hB.size; simp; omega) (fun b h => (hO.lt b h).1)⟩

theorem rem_more (m : Nat) : Value.int .u8 ((m : Int) % 128 + 128) = bV (m % 128 + 128) := by simp [bV]

set_option maxRecDepth 20000 in
set_option maxHeartbeats 2000000 in
theorem rput_own (bs : List Nat) (ao : Option Addr) (cap n : Nat) (W : World) (hs : SlAt bV 256 W ao cap bs) (hn : n < 18446744073709551616) (hb : bs.length ≤ 1000000) :
    Calls Try.prog 32 #[.slice ao bs.length cap, .int .u64 (n : Nat)] W (OwnPost W (bs ++ lebL n)) := by
  obtain ⟨i0, hi0, hz0, hz1, hz2⟩ := info_parts Try.infoB
  have S := Lib.hid hs
  clear hs
  have hown0 := World.ownsRow_lit (base := W.heap.size) (e := 5) (size := 1) W #[] 0 (Nat.le_refl _) (by unfold maxLen; omega) rfl
  have O := Lib.hid hown0
  clear hown0
  go_enter Try.func32, Try.ntmps32
  go_wp2_with (at_builtin; refine wpList_append_opt rfl (.tmp 5) (.tmp 6) 23 rfl W.heap.size 5 i0 (.int .u8 0) 1 1 Try.underlying23 hi0 hz0 hz1 hz2 rfl (by decide) _ _ _ rfl O.out _ _ _ (bs.map bV) rfl (by simp) S.out.empty (S.out.below ((Below.refl _ _).alloc (Nat.le_refl _) _)).news (ones_b _) (by unfold maxLen; omega) (by omega) (by simp) ?_
               intro v2 w2 hown2 hgr2
               have hb2 : Below W.heap.size W w2 := ((Below.refl _ _).alloc (Nat.le_refl _) _).grown hgr2 (by simp) (fun k h => (O.out.lt k h).1)
               try rw [Nat.zero_add, List.nil_append] at hown2
               have HO2 := Lib.hid hown2
               have HB2 := Lib.hid hb2
               clear hown2 hgr2 hb2)
  obtain ⟨_, a2, c2, rfl, _⟩ := own_sl HO2.out S.out.lt
  go_loopw [0, 1] (fun l v wr => PutRel W bs n v l wr) (fun _ v _ => (intOf v).toNat)
  case atStart => exact ⟨n, bs, a2, c2, hn, rfl, rfl, HO2.out, HB2.out, rfl⟩
  case round =>
    obtain ⟨m, ms, a, c, hm, rfl, rfl, hO, hB, he⟩ := hrel
    have hl := put_len he hn hb
    have HO := Lib.hid hO
    have HB := Lib.hid hB
    have HE := Lib.hid he
    clear hO hB he
    by_cases h128 : m < 128
    · go_wp2_with (at_builtin; refine wpList_append_own _ rfl (.tmp 19) (.tmp 22) 23 rfl W.heap.size 5 i0 (.int .u8 0) 1 1 Try.underlying23 hi0 hz0 hz1 hz2 rfl (by decide) _ _ _ rfl (World.ownsRow.alloc HO.out _) ⟨wr.heap.size, 0, none⟩ 1 1 [bV m] rfl rfl (World.news_of_block (heap_alloc_new _ _)) (by simp [bV, Value.oneCell']) (by unfold maxLen; omega) (by omega) (by have := HB.out.size; simp; omega) ?_
                   intro v2 w2 hown2 hgr2 _
                   have R := Lib.hid (own_end h128 HB.out HO.out HE.out hown2 hgr2)
                   clear hown2 hgr2)
      go_ret
      exact R.out
    · have hor := Lib.hid (rem_more m)
      go_wp2_with (at_builtin; refine wpList_append_own _ rfl (.tmp 10) (.tmp 15) 23 rfl W.heap.size 5 i0 (.int .u8 0) 1 1 Try.underlying23 hi0 hz0 hz1 hz2 rfl (by decide) _ _ _ rfl (World.ownsRow.alloc HO.out _) ⟨wr.heap.size, 0, none⟩ 1 1 [.int .u8 ((m : Int) % 128 + 128)] rfl rfl (World.news_of_block (heap_alloc_new _ _)) (by simp [Value.oneCell']) (by unfold maxLen; omega) (by omega) (by have := HB.out.size; simp; omega) ?_
                   intro v2 w2 hown2 hgr2 _
                   rw [hor.out] at hown2
                   have R := Lib.hid (put_step h128 hm HB.out HO.out HE.out hown2 hgr2)
                   clear hown2 hgr2)
      go_roundw
      case rel => exact R.out
      case measure => simp only [intOf]; omega

/-- A new row is stored in the writer's cell. -/
theorem WrV.fresh {w w2 : World} {N p : Nat} {F : Nat → Prop} {bs cs : List Nat} {v v2 : Value} (h : WrV w N p F bs v) (hown : w2.ownsRow w.heap.size 5 1 v2 cs.length (cs.map bV)) (hb : Below w.heap.size w w2) (hc : ∀ x ∈ cs, x < 256) :
    WrPost w N p F cs (.returned (.tuple #[])) (w2.setCell ⟨p, 0, none⟩ v2) := by
  have hp := (h.low p h.inP).2
  have hNw : N ≤ w.heap.size := by have := (h.low p h.inP).1; omega
  have hap : v2.ownBlock ≠ some p := fun e => by have := (hown.lt p e).1; omega
  have hbp : w2.heap[p]? = w.heap[p]? := hb.block p hp
  refine ⟨rfl, fun k => F k ∨ v2.ownBlock = some k, ⟨v2, ⟨World.cell?_setCell_same (h := (World.cell?_of_block (w := w) (a := ⟨p, 0, none⟩) hbp).trans h.cell) .., (World.frozen?_setCell ..).trans ((World.frozen?_of_block (w := w) (a := ⟨p, 0, none⟩) hbp).trans h.fz), ownsRow_setCell_other (own_mono hown hNw) hap _, Or.inl h.inP, fun k hk => Or.inr hk, fun k f => ?_, hap, hc⟩⟩, (Keep.ofBelow hb).setCell (p := ⟨p, 0, none⟩) h.inP _, fun k f => ?_⟩
  · rcases f with f | f
    · exact ⟨(h.low k f).1, Nat.lt_of_lt_of_le (h.low k f).2 (by simpa [World.setCell] using hb.size)⟩
    · have := hown.lt k f
      exact ⟨Nat.le_trans hNw this.1, by simpa [World.setCell] using this.2⟩
  · exact f.elim Or.inl (fun f => Or.inr (hown.lt k f).1)

theorem rput_of {bs : List Nat} {ao : Option Addr} {cap len n : Nat} {W : World} (hs : SlAt bV 256 W ao cap bs) (hl : len = bs.length) (hn : n < 18446744073709551616) (hb : bs.length ≤ 1000000) :
    Calls Try.prog 32 #[.slice ao len cap, .int .u64 (n : Nat)] W (OwnPost W (bs ++ lebL n)) := by
  subst hl
  exact rput_own bs ao cap n W hs hn hb

set_option maxRecDepth 20000 in
set_option maxHeartbeats 2000000 in
theorem rwnum_any (W : World) (N p : Nat) (F : Nat → Prop) (bs : List Nat) (n : Nat) (hA : WrAt W N p F bs) (hn : n < 18446744073709551616) (hl : bs.length ≤ 1000000) :
    Calls Try.prog 24 #[.pointer (some ⟨p, 0, none⟩), .int .u64 (n : Nat)] W (WrPost W N p F (bs ++ lebL n)) := by
  obtain ⟨v, hV⟩ := hA
  have hp : p < W.heap.size := (hV.low p hV.inP).2
  have c0 := hV.cell
  have f0 := hV.fz
  obtain ⟨a, cap, rfl, hs⟩ := hV.slice
  have HS := Lib.hid hs
  have HV := Lib.hid hV
  clear hV hs
  go_enter Try.func24, Try.ntmps24
  go_wp2_with fail
  refine (rput_of HS.out rfl hn hl).mono ?_
  rintro e w2 ⟨v2, rfl, hown, hb⟩
  have hbp : w2.heap[p]? = W.heap[p]? := hb.block p hp
  have c2 := (World.cell?_of_block (w := W) (a := ⟨p, 0, none⟩) hbp).trans HV.out.cell
  have f2 := (World.frozen?_of_block (w := W) (a := ⟨p, 0, none⟩) hbp).trans HV.out.fz
  obtain ⟨a2, cap2, rfl⟩ := own_form hown
  have R := Lib.hid (HV.out.fresh hown hb (fun x hx => (List.mem_append.1 hx).elim (HV.out.lt x) (lebL_lt n x)))
  clear hown hb
  go_wp2_with fail
  go_end0
  simpa only [List.length_append] using R.out

set_option maxRecDepth 20000 in
set_option maxHeartbeats 2000000 in
theorem rwbytes_any (W : World) (N p : Nat) (F : Nat → Prop) (bs cs : List Nat) (ao : Option Addr) (cap : Nat) (hA : WrAt W N p F bs) (hs : SlAt bV 256 W ao cap cs) (hF : ∀ ad, ao = some ad → cs ≠ [] → ¬ F ad.block) (hl : bs.length ≤ 900000) (hc : cs.length ≤ 100000) :
    Calls Try.prog 25 #[.pointer (some ⟨p, 0, none⟩), .slice ao cs.length cap] W (WrPost W N p F (bs ++ lebL cs.length ++ cs)) := by
  obtain ⟨i0, hi0, hz0, hz1, hz2⟩ := info_parts Try.infoB
  have hn : cs.length < 18446744073709551616 := by omega
  obtain ⟨l1, l2⟩ := leb_len hn
  have HA := Lib.hid hA
  have HS := Lib.hid hs
  have HF := Lib.hid hF
  clear hA hs hF
  go_enter Try.func25, Try.ntmps25
  go_wp2_with fail
  refine (rwnum_any W N p F bs cs.length HA.out hn (by omega)).mono ?_
  rintro e w1 ⟨rfl, F1, ⟨v, hV⟩, hk, hF1⟩
  have hp : p < w1.heap.size := (hV.low p hV.inP).2
  have hNw : N ≤ w1.heap.size := by have := (hV.low p hV.inP).1; omega
  have c0 := hV.cell
  have f0 := hV.fz
  have HV := Lib.hid hV
  have HK := Lib.hid hk
  have HF1 := Lib.hid hF1
  have HS1 := Lib.hid (HS.out.keep hk HF.out)
  have hlen : (bs ++ lebL cs.length).length ≤ 900010 := by rw [List.length_append]; omega
  generalize (bs ++ lebL cs.length) = ds at *
  clear hV hk hF1
  go_wp2_with (at_builtin; refine wpList_append_at rfl (.tmp 13) (.tmp 14) 23 rfl N 5 i0 (.int .u8 0) 1 1 Try.underlying23 hi0 hz0 hz1 hz2 rfl (by decide) _ _ _ rfl HV.out.own _ _ _ (cs.map bV) rfl (by simp) HS1.out.empty HS1.out.news (ones_b _) (by unfold maxLen; omega) (by omega) hNw ?_
               intro v2 w2 hown2 hgr2 hat2
               obtain ⟨a2, cap2, rfl⟩ := own_form hown2
               have R := Lib.hid (HV.out.post (Keep.refl _ _) rfl hown2 hgr2 hat2 HS1.out.lt)
               obtain ⟨c2, f2⟩ := HV.out.at2 hgr2
               clear hown2 hgr2 hat2)
  go_end0
  exact WrPost.trans HK.out HF1.out R.out


end Go.Proofs.Ythnglifjijfplaa
