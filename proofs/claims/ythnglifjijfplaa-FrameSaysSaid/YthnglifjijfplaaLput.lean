/-
  What is written: the program's own writer and the document's.
-/
import Derived.Test.YthnglifjijfplaaLmem
namespace Go.Proofs.Ythnglifjijfplaa
open Go.RowKit

/-- What a call has made: a slice of its own. -/
def MadePost (f : Nat → Value) (M : Nat) (W : World) (ys : List Nat) (e : Ending) (w' : World) : Prop :=
  ∃ a cap, e = .returned (.slice a ys.length cap) ∧ SlAt f M w' a cap ys ∧ Below W.heap.size W w'

theorem or_more (m : Nat) : bits .or .u8 ((m : Int) % 256) 128 = ((m % 128 + 128 : Nat) : Int) := by
  have e := u8_or_nat (m % 256) 128 (by omega) (by decide)
  rw [show ((m % 256 : Nat) : Int) = (m : Int) % 256 by simp, show ((128 : Nat) : Int) = 128 from rfl] at e
  rw [e]
  congr 1
  have h := nat_join 7 128 (m % 128) (by decide) (by omega)
  by_cases hb : m % 256 < 128
  · rw [show m % 256 = m % 128 by omega, Nat.or_comm, h, Nat.add_comm]
  · have h2 : m % 256 = 128 + m % 128 := by omega
    rw [h2, ← h, Nat.or_comm, ← Nat.or_assoc, Nat.or_self, h]; omega

def PutRel (W : World) (bs : List Nat) (n : Nat) (v l : Value) (wr : World) : Prop :=
  ∃ (m : Nat) (ms : List Nat) (a : Option Addr) (c : Nat), m < 18446744073709551616 ∧ v = .int .u64 (m : Nat) ∧ l = .slice a ms.length c ∧ wr.ownsRow W.heap.size 5 1 l ms.length (ms.map bV) ∧ Below W.heap.size W wr ∧ ms ++ lebL m = bs ++ lebL n

theorem put_len {bs ms : List Nat} {m n : Nat} (h : ms ++ lebL m = bs ++ lebL n) (hn : n < 18446744073709551616) (hb : bs.length ≤ 1000000) : ms.length ≤ 1000009 := by
  have := congrArg List.length h
  have h1 := szN_word hn
  have h2 := szN_pos m
  unfold szN at h1 h2
  simp at this
  omega

theorem put_step {W wr w2 : World} {bs ms : List Nat} {m n : Nat} {v2 : Value} {o : Obj} {a : Option Addr} {c : Nat} (hm : ¬ m < 128) (hm2 : m < 18446744073709551616) (hB : Below W.heap.size W wr) (hO : wr.ownsRow W.heap.size 5 1 (.slice a ms.length c) ms.length (ms.map bV)) (he : ms ++ lebL m = bs ++ lebL n)
    (hown : w2.ownsRow W.heap.size 5 1 v2 (ms.length + 1) (ms.map bV ++ [bV (m % 128 + 128)])) (hgr : (wr.alloc o).grownBy w2 (Value.slice a ms.length c).ownBlock) : PutRel W bs n (.int .u64 ((m / 128 : Nat) : Int)) v2 w2 := by
  obtain ⟨g, cap, rfl, _, _⟩ := hown.form (by omega)
  refine ⟨m / 128, ms ++ [m % 128 + 128], some ⟨g, 0, none⟩, cap, by omega, rfl, by simp, by simpa using hown, (hB.alloc hB.size o).grown hgr (by have := hB.size; simp; omega) (fun b h => (hO.lt b h).1), ?_⟩
  rw [← he, lebL_hi hm]
  simp

theorem put_end {W wr w2 : World} {bs ms : List Nat} {m n : Nat} {v2 : Value} {o : Obj} {a : Option Addr} {c : Nat} (hm : m < 128) (hbs : ∀ x ∈ bs, x < 256) (hB : Below W.heap.size W wr) (hO : wr.ownsRow W.heap.size 5 1 (.slice a ms.length c) ms.length (ms.map bV)) (he : ms ++ lebL m = bs ++ lebL n)
    (hown : w2.ownsRow W.heap.size 5 1 v2 (ms.length + 1) (ms.map bV ++ [bV m])) (hgr : (wr.alloc o).grownBy w2 (Value.slice a ms.length c).ownBlock) : MadePost bV 256 W (bs ++ lebL n) (.returned v2) w2 := by
  rw [lebL_lo hm] at he
  have e : ms.map bV ++ [bV m] = (bs ++ lebL n).map bV := by rw [← he]; simp
  rw [e] at hown
  have hl : ∀ x ∈ bs ++ lebL n, x < 256 := fun x hx => (List.mem_append.1 hx).elim (hbs x) (lebL_lt n x)
  obtain ⟨_, a2, cap, rfl, hs⟩ := own_sl hown hl
  exact ⟨a2, cap, rfl, hs, (hB.alloc hB.size o).grown hgr (by have := hB.size; simp; omega) (fun b h => (hO.lt b h).1)⟩

set_option maxRecDepth 20000 in
set_option maxHeartbeats 2000000 in
theorem put_any (bs : List Nat) (ao : Option Addr) (cap n : Nat) (W : World) (hs : SlAt bV 256 W ao cap bs) (hn : n < 18446744073709551616) (hb : bs.length ≤ 1000000) :
    Calls Try.prog 29 #[.slice ao bs.length cap, .int .u64 (n : Nat)] W (MadePost bV 256 W (bs ++ lebL n)) := by
  obtain ⟨i0, hi0, hz0, hz1, hz2⟩ := info_parts Try.infoB
  have h10 := szN_word hn
  have S := Lib.hid hs
  clear hs
  go_enter Try.func29, Try.ntmps29
  go_wp2_with (first
    | (go_at_call 34; refine (size_any n _ hn).mono ?_; rintro e w' ⟨rfl, rfl⟩)
    | (refine wpList_make_own _ rfl _ _ 23 rfl W.heap.size 5 i0 (.int .u8 0) 1 Try.underlying23 hi0 hz0 hz1 .i64 .i64 _ (bs.length + szN n) rfl rfl (by simp) (by rw [hz2]; omega) (by unfold maxLen; omega) (Nat.le_refl _) ?_
       intro w1 hown1 hgr1
       have hb1 : Below W.heap.size W w1 := (Below.refl _ _).grown hgr1 (Nat.le_refl _) (fun k h => by cases h)
       have HB1 := Lib.hid hb1
       have HO1 := Lib.hid hown1
       clear hb1 hown1 hgr1)
    | (at_builtin; refine wpList_append_opt rfl (.tmp 12) (.tmp 13) 23 rfl W.heap.size 5 i0 (.int .u8 0) 1 1 Try.underlying23 hi0 hz0 hz1 hz2 rfl (by decide) _ _ _ rfl HO1.out _ _ _ (bs.map bV) rfl (by simp) S.out.empty (S.out.below HB1.out).news (ones_b _) (by unfold maxLen; omega) (by omega) HB1.out.size ?_
       intro v2 w2 hown2 hgr2
       have hb2 : Below W.heap.size W w2 := HB1.out.grown hgr2 HB1.out.size (fun k h => (HO1.out.lt k h).1)
       rw [Nat.zero_add, List.nil_append] at hown2
       have HO2 := Lib.hid hown2
       have HB2 := Lib.hid hb2
       clear hown2 hgr2 hb2))
  obtain ⟨_, a2, c2, rfl, _⟩ := own_sl HO2.out S.out.lt
  go_loopw [1, 5] (fun v l wr => PutRel W bs n v l wr) (fun v _ _ => (intOf v).toNat)
  case atStart => exact ⟨n, bs, a2, c2, hn, rfl, rfl, HO2.out, HB2.out, rfl⟩
  case round =>
    obtain ⟨m, ms, a, c, hm, rfl, rfl, hO, hB, he⟩ := hrel
    have hl := put_len he hn hb
    have HO := Lib.hid hO
    have HB := Lib.hid hB
    have HE := Lib.hid he
    clear hO hB he
    by_cases h128 : m < 128
    · have NB : Hid (0 ≤ 1) := Lib.hid (by decide)
      go_wp2_with (at_builtin; refine wpList_append_own _ rfl (.tmp 25) (.tmp 28) 23 rfl W.heap.size 5 i0 (.int .u8 0) 1 1 Try.underlying23 hi0 hz0 hz1 hz2 rfl (by decide) _ _ _ rfl (World.ownsRow.alloc HO.out _) ⟨wr.heap.size, 0, none⟩ 1 1 [bV m] rfl rfl (World.news_of_block (heap_alloc_new _ _)) (by simp [bV, Value.oneCell']) (by unfold maxLen; omega) (by omega) (by have := HB.out.size; simp; omega) ?_
                   intro v2 w2 hown2 hgr2 _
                   have R := Lib.hid (put_end h128 S.out.lt HB.out HO.out HE.out hown2 hgr2)
                   clear hown2 hgr2)
      go_ret
      exact R.out
    · have hor := or_more m
      go_wp2_with (at_builtin; refine wpList_append_own _ rfl (.tmp 19) (.tmp 23) 23 rfl W.heap.size 5 i0 (.int .u8 0) 1 1 Try.underlying23 hi0 hz0 hz1 hz2 rfl (by decide) _ _ _ rfl (World.ownsRow.alloc HO.out _) ⟨wr.heap.size, 0, none⟩ 1 1 [bV (m % 128 + 128)] rfl rfl (World.news_of_block (heap_alloc_new _ _)) (by simp [bV, Value.oneCell']) (by unfold maxLen; omega) (by omega) (by have := HB.out.size; simp; omega) ?_
                   intro v2 w2 hown2 hgr2 _
                   have R := Lib.hid (put_step h128 hm HB.out HO.out HE.out hown2 hgr2)
                   clear hown2 hgr2)
      go_roundw
      case rel => exact R.out
      case measure => simp [intOf]; omega

end Go.Proofs.Ythnglifjijfplaa
