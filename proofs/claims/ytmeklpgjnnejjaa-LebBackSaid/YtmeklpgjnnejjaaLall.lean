/-
  All numbers, one behind the other; whether bytes are just numbers.
-/
import Derived.Test.YtmeklpgjnnejjaaLrput
import Derived.Test.YtmeklpgjnnejjaaLrget
namespace Go.Proofs.Ytmeklpgjnnejjaa
open Go.RowKit

def wordM : Nat := 18446744073709551616

theorem get_at {bs : List Nat} {ao : Option Addr} {cap : Nat} {W : World} {n k : Nat} (hs : SlAt bV 256 W ao cap bs) (hg : getN bs = (n, k)) :
    Calls Try.prog 10 #[.slice ao bs.length cap] W fun e w' => e = .returned (.tuple #[.int .u64 (n : Nat), .int .i64 (k : Nat)]) ∧ W = w' := by
  have h := get_any bs ao cap W hs
  rw [hg] at h
  exact h
theorem rget_at {bs : List Nat} {ao : Option Addr} {cap : Nat} {W : World} {n k : Nat} (hs : SlAt bV 256 W ao cap bs) (hg : getN bs = (n, k)) :
    Calls Try.prog 14 #[.slice ao bs.length cap] W fun e w' => e = .returned (.tuple #[.int .u64 (n : Nat), .int .i64 (k : Nat)]) ∧ W = w' := by
  have h := rget_any bs ao cap W hs
  rw [hg] at h
  exact h

def AllPost (W : World) (r : Option (List Nat)) (e : Ending) (w' : World) : Prop :=
  ∃ a cap, e = .returned (.tuple #[.slice a (r.getD []).length cap, .bool r.isSome]) ∧ SlAt qV wordM w' a cap (r.getD []) ∧ Below W.heap.size W w'

def AllRel (W : World) (bs : List Nat) (b l : Value) (wr : World) : Prop :=
  ∃ (rest ms : List Nat) (a la : Option Addr) (c lc : Nat), b = .slice a rest.length c ∧ SlAt bV 256 W a c rest ∧ l = .slice la ms.length lc ∧ wr.ownsRow W.heap.size 25 1 l ms.length (ms.map qV) ∧ Below W.heap.size W wr ∧
    allN bs = (allN rest).map (ms ++ ·) ∧ ms.length + rest.length ≤ bs.length ∧ ∀ x ∈ ms, x < wordM

theorem all_step {W wr w2 : World} {bs rest ms : List Nat} {a la : Option Addr} {c lc n k : Nat} {v2 : Value} {o : Obj} (hS : SlAt bV 256 W a c rest) (hO : wr.ownsRow W.heap.size 25 1 (.slice la ms.length lc) ms.length (ms.map qV)) (hB : Below W.heap.size W wr)
    (hE : allN bs = (allN rest).map (ms ++ ·)) (hL : ms.length + rest.length ≤ bs.length) (hM : ∀ x ∈ ms, x < wordM) (hg : getN rest = (n, k)) (hk : 0 < k) (h0 : 0 < rest.length)
    (hown : w2.ownsRow W.heap.size 25 1 v2 (ms.length + 1) (ms.map qV ++ [qV n])) (hgr : (wr.alloc o).grownBy w2 (Value.slice la ms.length lc).ownBlock) :
    AllRel W bs (.slice (if c = k then a else a.map (·.add k)) (rest.length - k) (c - k)) v2 w2 := by
  have hk2 : k ≤ rest.length := by have := getN_size rest; rw [hg] at this; exact this
  have hn : n < wordM := by have := getN_lt rest; rw [hg] at this; exact this
  obtain ⟨g, cap, rfl, _, _⟩ := hown.form (by omega)
  have hne : rest ≠ [] := by rintro rfl; simp at h0
  have hst := allN_step hne
  rw [hg, if_neg (show ¬ k = 0 by omega)] at hst
  refine ⟨rest.drop k, ms ++ [n], _, some ⟨g, 0, none⟩, _, cap, by simp, hS.drop k hk2, by simp, by simpa using hown, (hB.alloc hB.size o).grown hgr (by have := hB.size; simp; omega) (fun b h => (hO.lt b h).1), ?_, by simp; omega, ?_⟩
  · rw [hE, hst, Option.map_map]
    congr 1
    funext x
    simp
  · intro x hx
    rcases List.mem_append.1 hx with h | h
    · exact hM x h
    · rw [List.mem_singleton.1 h]; exact hn

theorem all_done {W wr : World} {bs rest ms : List Nat} {la : Option Addr} {lc : Nat} (hO : wr.ownsRow W.heap.size 25 1 (.slice la ms.length lc) ms.length (ms.map qV)) (hB : Below W.heap.size W wr)
    (hE : allN bs = (allN rest).map (ms ++ ·)) (hM : ∀ x ∈ ms, x < wordM) (h0 : rest.length = 0) : AllPost W (allN bs) (.returned (.tuple #[.slice la ms.length lc, .bool true])) wr := by
  obtain rfl := List.length_eq_zero_iff.1 h0
  rw [allN_nil] at hE
  have hE' : allN bs = some ms := by rw [hE]; simp
  obtain ⟨_, a2, c2, e, hs⟩ := own_sl hO hM
  cases e
  rw [hE']
  exact ⟨_, _, rfl, hs, hB⟩

theorem all_bad {W wr : World} {bs rest ms : List Nat} {n k : Nat} (hB : Below W.heap.size W wr) (hE : allN bs = (allN rest).map (ms ++ ·)) (hg : getN rest = (n, k)) (hk : ¬ 0 < k) (h0 : 0 < rest.length) : AllPost W (allN bs) (.returned (.tuple #[.slice none 0 0, .bool false])) wr := by
  have hne : rest ≠ [] := by rintro rfl; simp at h0
  have hst := allN_step hne
  rw [hg, if_pos (show k = 0 by omega)] at hst
  rw [hst] at hE
  have hE' : allN bs = none := by rw [hE]; rfl
  rw [hE']
  exact ⟨none, 0, rfl, SlAt.none _ _ _, hB⟩

set_option maxRecDepth 20000 in
set_option maxHeartbeats 2000000 in
theorem all_any (bs : List Nat) (ao : Option Addr) (cap : Nat) (W : World) (hs : SlAt bV 256 W ao cap bs) (hb : bs.length ≤ 1000) :
    Calls Try.prog 11 #[.slice ao bs.length cap] W (AllPost W (allN bs)) := by
  obtain ⟨i0, hi0, hz0, hz1, hz2⟩ := info_parts Try.infoQ
  have S := Lib.hid hs
  clear hs
  go_enter Try.func11, Try.ntmps11
  go_wp2_with fail
  go_loopw [0, 4] (fun b l wr => AllRel W bs b l wr) (fun b _ _ => match b with | .slice _ n _ => n | _ => 0)
  case atStart => exact ⟨bs, [], ao, none, cap, 0, rfl, S.out, rfl, World.ownsRow_nil .., Below.refl _ _, by cases allN bs <;> simp, by simp, by simp⟩
  case round =>
    obtain ⟨rest, ms, a, la, c, lc, rfl, hS, rfl, hO, hB, hE, hL, hM⟩ := hrel
    have HO := Lib.hid hO
    have HB := Lib.hid hB
    have HE := Lib.hid hE
    have HS := Lib.hid hS
    have HM := Lib.hid hM
    have hfit := hS.fit
    have hmax := hS.max
    unfold maxLen at hmax
    clear hO hB hE hS hM
    by_cases h0 : 0 < rest.length
    · obtain ⟨⟨n, k⟩, hg⟩ : ∃ x, x = getN rest := ⟨_, rfl⟩
      have hk2 : k ≤ rest.length := by have := getN_size rest; rw [← hg] at this; exact this
      have hn : n < 18446744073709551616 := by have := getN_lt rest; rw [← hg] at this; exact this
      have HG := Lib.hid hg.symm
      clear hg
      by_cases hk : 0 < k
      · go_wp2_with (first
          | (go_at_call 10; refine (get_at (HS.out.below HB.out) HG.out).mono ?_; rintro e w' ⟨rfl, rfl⟩)
          | (at_builtin; refine wpList_append_own _ rfl (.tmp 17) (.tmp 19) 28 rfl W.heap.size 25 i0 (.int .u64 0) 1 8 Try.underlying28 hi0 hz0 hz1 hz2 rfl (by decide) _ _ _ rfl (World.ownsRow.alloc HO.out _) ⟨wr.heap.size, 0, none⟩ 1 1 [qV n] rfl rfl (World.news_of_block (heap_alloc_new _ _)) (by simp [qV, Value.oneCell']) (by unfold maxLen; omega) (by omega) (by have := HB.out.size; simp; omega) ?_
             intro v2 w2 hown2 hgr2 _
             have R := Lib.hid (all_step HS.out HO.out HB.out HE.out hL HM.out HG.out hk h0 hown2 hgr2)
             clear hown2 hgr2))
        go_roundw
        case rel => exact R.out
        case measure => simp; omega
      · have R := Lib.hid (all_bad HB.out HE.out HG.out hk h0)
        go_wp2_with (go_at_call 10; refine (get_at (HS.out.below HB.out) HG.out).mono ?_; rintro e w' ⟨rfl, rfl⟩)
        go_ret2
        exact R.out
    · have R := Lib.hid (all_done HO.out HB.out HE.out HM.out (show rest.length = 0 by omega))
      go_wp2_with fail
      go_ret2
      exact R.out

end Go.Proofs.Ytmeklpgjnnejjaa
