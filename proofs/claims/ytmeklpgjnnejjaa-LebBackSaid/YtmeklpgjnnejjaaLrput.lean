/-
  What the document's own writer writes.
-/
import Derived.Test.YtmeklpgjnnejjaaLput
namespace Go.Proofs.Ytmeklpgjnnejjaa
open Go.RowKit

theorem rem_more (m : Nat) : Value.int .u8 ((m : Int) % 128 + 128) = bV (m % 128 + 128) := by simp [bV]

set_option maxRecDepth 20000 in
set_option maxHeartbeats 2000000 in
theorem rput_any (bs : List Nat) (ao : Option Addr) (cap n : Nat) (W : World) (hs : SlAt bV 256 W ao cap bs) (hn : n < 18446744073709551616) (hb : bs.length ≤ 1000) :
    Calls Try.prog 13 #[.slice ao bs.length cap, .int .u64 (n : Nat)] W (MadePost bV 256 W (bs ++ lebL n)) := by
  obtain ⟨i0, hi0, hz0, hz1, hz2⟩ := info_parts Try.infoB
  have S := Lib.hid hs
  clear hs
  have hown0 := World.ownsRow_lit (base := W.heap.size) (e := 5) (size := 1) W #[] 0 (Nat.le_refl _) (by unfold maxLen; omega) rfl
  have O := Lib.hid hown0
  clear hown0
  go_enter Try.func13, Try.ntmps13
  go_wp2_with (at_builtin; refine wpList_append_opt rfl (.tmp 5) (.tmp 6) 23 rfl W.heap.size 5 i0 (.int .u8 0) 1 1 Try.underlying23 hi0 hz0 hz1 hz2 rfl (by decide) _ _ _ rfl O.out _ _ _ (bs.map bV) rfl (by simp) S.out.empty (S.out.below ((Below.refl _ _).alloc (Nat.le_refl _) _)).news (ones_b _) (by unfold maxLen; omega) (by omega) (by simp) ?_
               intro v2 w2 hown2 hgr2
               have hb2 : Below W.heap.size W w2 := ((Below.refl _ _).alloc (Nat.le_refl _) _).grown hgr2 (by simp) (fun k h => (O.out.lt k h).1)
               try rw [Nat.zero_add, List.nil_append] at hown2
               have HO2 := Lib.hid hown2
               have HB2 := Lib.hid hb2
               clear hown2 hgr2 hb2)
  obtain ⟨_, a2, c2, rfl, _⟩ := own_sl HO2.out S.out.lt
  go_loopw [0, 1] (fun l v wr => PutRel W bs n v l wr) (fun _ v _ => (intOf v).toNat)
  case atStart => exact ⟨n, bs, a2, c2, hn, rfl, rfl, HO2.out, HB2.out, rfl⟩
  case round =>
    obtain ⟨m, ms, a, c, hm, rfl, rfl, hO, hB, he⟩ := hrel
    have hl := put_len he hn hb
    have HO := Lib.hid hO
    have HB := Lib.hid hB
    have HE := Lib.hid he
    clear hO hB he
    by_cases h128 : m < 128
    · go_wp2_with (at_builtin; refine wpList_append_own _ rfl (.tmp 19) (.tmp 22) 23 rfl W.heap.size 5 i0 (.int .u8 0) 1 1 Try.underlying23 hi0 hz0 hz1 hz2 rfl (by decide) _ _ _ rfl (World.ownsRow.alloc HO.out _) ⟨wr.heap.size, 0, none⟩ 1 1 [bV m] rfl rfl (World.news_of_block (heap_alloc_new _ _)) (by simp [bV, Value.oneCell']) (by unfold maxLen; omega) (by omega) (by have := HB.out.size; simp; omega) ?_
                   intro v2 w2 hown2 hgr2 _
                   have R := Lib.hid (put_end h128 S.out.lt HB.out HO.out HE.out hown2 hgr2)
                   clear hown2 hgr2)
      go_ret
      exact R.out
    · have hor := Lib.hid (rem_more m)
      go_wp2_with (at_builtin; refine wpList_append_own _ rfl (.tmp 10) (.tmp 15) 23 rfl W.heap.size 5 i0 (.int .u8 0) 1 1 Try.underlying23 hi0 hz0 hz1 hz2 rfl (by decide) _ _ _ rfl (World.ownsRow.alloc HO.out _) ⟨wr.heap.size, 0, none⟩ 1 1 [.int .u8 ((m : Int) % 128 + 128)] rfl rfl (World.news_of_block (heap_alloc_new _ _)) (by simp [Value.oneCell']) (by unfold maxLen; omega) (by omega) (by have := HB.out.size; simp; omega) ?_
                   intro v2 w2 hown2 hgr2 _
                   rw [hor.out] at hown2
                   have R := Lib.hid (put_step h128 hm HB.out HO.out HE.out hown2 hgr2)
                   clear hown2 hgr2)
      go_roundw
      case rel => exact R.out
      case measure => simp only [intOf]; omega

end Go.Proofs.Ytmeklpgjnnejjaa
