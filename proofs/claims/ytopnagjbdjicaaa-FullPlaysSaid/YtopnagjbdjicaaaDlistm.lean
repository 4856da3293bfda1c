import Derived.Test.YtopnagjbdjicaaaDonesm
import Derived.Test.YtopnagjbdjicaaaDrefm
import Derived.Test.YtopnagjbdjicaaaMag

/-
  Those of a set, in a slice: the program's own and the document's.
-/
namespace Go.Proofs.Ytopnagjbdjicaaa
open Go.RowKit

def nV (x : Nat) : Value := .int .i64 (x : Nat)
theorem nV_map (l : List Nat) : l.map nV = (l.map fun (x : Nat) => (x : Int)).map iV := by rw [List.map_map]; rfl

/-- A slice of the call's own that holds l. -/
def ListPost (W : World) (l : List Nat) (e : Ending) (w' : World) : Prop :=
  ∃ a cap, e = .returned (.slice a l.length cap) ∧ SlV w' a cap (l.map nV) ∧ Below W.heap.size W w'

/-- The same, told as a row that the call owns. -/
def ListOwn (W : World) (l : List Nat) (e : Ending) (w' : World) : Prop :=
  ∃ a cap, e = .returned (.slice a l.length cap) ∧ w'.ownsRow W.heap.size 3 1 (.slice a l.length cap) l.length (l.map nV) ∧ Below W.heap.size W w'
theorem list_post {W : World} {l : List Nat} {e : Ending} {w' : World} (h : ListOwn W l e w') : ListPost W l e w' := by
  obtain ⟨a, c, rfl, hO, hB⟩ := h
  obtain ⟨_, a2, c2, e, hs⟩ := own_slv hO
  rw [List.length_map] at e
  cases e
  exact ⟨_, _, rfl, hs, hB⟩

def ListRel (W : World) (s : Nat) (l i : Value) (wr : World) : Prop :=
  ∃ (k : Nat) (a : Option Addr) (c : Nat), k ≤ 64 ∧ i = .int .i64 (k : Nat) ∧ l = .slice a (toN s k).length c ∧ wr.ownsRow W.heap.size 3 1 l (toN s k).length ((toN s k).map nV) ∧ Below W.heap.size W wr

theorem list_step {W wr w2 : World} {s k : Nat} {v2 : Value} {o : Obj} {a : Option Addr} {c : Nat} (hk : k < 64) (hb : s.testBit k = true) (hB : Below W.heap.size W wr) (hO : wr.ownsRow W.heap.size 3 1 (.slice a (toN s k).length c) (toN s k).length ((toN s k).map nV))
    (hown : w2.ownsRow W.heap.size 3 1 v2 ((toN s k).length + 1) ((toN s k).map nV ++ [nV k])) (hgr : (wr.alloc o).grownBy w2 (Value.slice a (toN s k).length c).ownBlock) : ListRel W s v2 (.int .i64 ((k + 1 : Nat) : Int)) w2 := by
  obtain ⟨g, cap, rfl, _, _⟩ := hown.form (by omega)
  have e : toN s (k + 1) = toN s k ++ [k] := by rw [toN_succ, if_pos hb]
  refine ⟨k + 1, some ⟨g, 0, none⟩, cap, by omega, rfl, by rw [e]; simp, by rw [e]; simpa using hown, (hB.alloc hB.size o).grown hgr (by have := hB.size; simp; omega) (fun b h => (hO.lt b h).1)⟩

theorem list_done {W wr : World} {s k : Nat} {a : Option Addr} {c : Nat} (h : toN s k = listN s) (hO : wr.ownsRow W.heap.size 3 1 (.slice a (toN s k).length c) (toN s k).length ((toN s k).map nV)) (hB : Below W.heap.size W wr) : ListOwn W (listN s) (.returned (.slice a (toN s k).length c)) wr := by
  rw [h] at hO ⊢
  exact ⟨_, _, rfl, hO, hB⟩

theorem has_at {s k : Nat} {W : World} {r : Bool} (hs : s < 18446744073709551616) (hk : k < 64) (h : s.testBit k = r) :
    Calls Try.prog 33 #[.int .u64 (s : Nat), .int .i64 (k : Nat)] W fun e w' => e = .returned (.bool r) ∧ Below W.heap.size W w' := by
  subst h
  rw [← hasN_nat hk]
  exact has_any s k W hs (by unfold IntOk; omega)
theorem in_at {s k : Nat} {W : World} {r : Bool} (hs : s < 18446744073709551616) (hk : k < 64) (h : s.testBit k = r) :
    Calls Try.prog 75 #[.int .u64 (s : Nat), .int .i64 (k : Nat)] W fun e w' => e = .returned (.bool r) ∧ W = w' := by
  subst h
  rw [← hasN_nat hk]
  exact in_any s k W hs (by unfold IntOk; omega)

theorem shr_zero {s k : Nat} (h : s >>> k = 0) : ((s : Int) / 2 ^ k != 0) = false := by
  rw [two_cast, ← Int.natCast_ediv, ← Nat.shiftRight_eq_div_pow, h]; rfl
theorem shr_some {s k : Nat} (h : ¬ s >>> k = 0) : ((s : Int) / 2 ^ k != 0) = true := by
  rw [two_cast, ← Int.natCast_ediv, ← Nat.shiftRight_eq_div_pow, ne_word]; exact decide_eq_true h

set_option maxRecDepth 20000 in
set_option maxHeartbeats 2000000 in
theorem list_own (s : Nat) (W : World) (hs : s < 18446744073709551616) : Calls Try.prog 66 #[.int .u64 (s : Nat)] W (ListOwn W (listN s)) := by
  obtain ⟨i0, hi0, hz0, hz1, hz2⟩ := info_parts Try.infoI
  have hc64 := cntN_le s
  go_enter Try.func66, Try.ntmps66
  go_wp2_with (first
    | (go_at_call 37; refine (count_any s _ hs).mono ?_; rintro e w' ⟨rfl, rfl⟩)
    | (refine wpList_make_own _ rfl _ _ 82 rfl W.heap.size 3 i0 (.int .i64 0) 1 Try.underlying82 hi0 hz0 hz1 .i64 .i64 _ (cntN s) rfl rfl (by simp) (by rw [hz2]; omega) (by unfold maxLen; omega) (Nat.le_refl _) ?_
       intro w1 hown1 hgr1
       have hb1 : Below W.heap.size W w1 := (Below.refl _ _).grown hgr1 (Nat.le_refl _) (fun k h => by cases h)
       have HB1 := Lib.hid hb1
       have HO1 := Lib.hid hown1
       clear hb1 hown1 hgr1))
  go_loopw [3, 4] (fun l i wr => ListRel W s l i wr) (fun _ i _ => 64 - (intOf i).toNat)
  case atStart => exact ⟨0, _, _, by decide, rfl, rfl, HO1.out, HB1.out⟩
  case round =>
    obtain ⟨k, a, c, hk, rfl, rfl, hO, hB⟩ := hrel
    have hl := toN_len s k
    have HO := Lib.hid hO
    have HB := Lib.hid hB
    clear hO hB
    by_cases h0 : s >>> k = 0
    · have hz := shr_zero h0
      have R := Lib.hid (list_done (toN_all hk h0) HO.out HB.out)
      clear h0
      go_wp2_with fail
      go_ret
      exact R.out
    · have hz := shr_some h0
      have hk64 : k < 64 := by
        rcases Nat.lt_or_ge k 64 with h | h
        · exact h
        · obtain rfl : k = 64 := by omega
          exact absurd (shift_end hs) h0
      clear h0
      cases hb : s.testBit k
      · go_wp2_with (go_at_call 33; refine (has_at hs hk64 hb).mono ?_
                     rintro e wh ⟨rfl, hb2⟩
                     have HB2 := Lib.hid (HB.out.trans (hb2.mono HB.out.size))
                     have HO2 := Lib.hid (own_below HO.out hb2)
                     clear hb2)
        go_roundw
        case rel =>
          have e : toN s (k + 1) = toN s k := by rw [toN_succ, if_neg (by rw [hb]; decide)]
          exact ⟨k + 1, a, c, by omega, by go_num, by rw [e], by rw [e]; exact HO2.out, HB2.out⟩
        case measure => simp only [intOf]; omega
      · go_wp2_with (first
          | (go_at_call 33; refine (has_at hs hk64 hb).mono ?_
             rintro e wh ⟨rfl, hb2⟩
             have HB2 := Lib.hid (HB.out.trans (hb2.mono HB.out.size))
             have HO2 := Lib.hid (own_below HO.out hb2)
             clear hb2)
          | (at_builtin; refine wpList_append_own _ rfl (.tmp 17) (.tmp 19) 82 rfl W.heap.size 3 i0 (.int .i64 0) 1 8 Try.underlying82 hi0 hz0 hz1 hz2 rfl (by decide) _ _ _ rfl (World.ownsRow.alloc HO2.out _) ⟨wh.heap.size, 0, none⟩ 1 1 [nV k] rfl rfl (World.news_of_block (heap_alloc_new _ _)) (by simp [nV, Value.oneCell']) (by unfold maxLen; omega) (by omega) (by have := HB2.out.size; simp; omega) ?_
             intro v2 w3 hown2 hgr2 _
             have R := Lib.hid (list_step hk64 hb HB2.out HO2.out hown2 hgr2)
             clear hown2 hgr2))
        go_roundw
        case rel => exact R.out
        case measure => simp only [intOf]; omega

set_option maxRecDepth 20000 in
set_option maxHeartbeats 2000000 in
theorem rlist_own (s : Nat) (W : World) (hs : s < 18446744073709551616) : Calls Try.prog 55 #[.int .u64 (s : Nat)] W (ListOwn W (listN s)) := by
  obtain ⟨i0, hi0, hz0, hz1, hz2⟩ := info_parts Try.infoI
  go_enter Try.func55, Try.ntmps55
  go_wp2_with fail
  go_loopw [3, 4] (fun l i wr => ListRel W s l i wr) (fun _ i _ => 64 - (intOf i).toNat)
  case atStart => exact ⟨0, _, _, by decide, rfl, rfl, World.ownsRow_nil .., Below.refl _ _⟩
  case round =>
    obtain ⟨k, a, c, hk, rfl, rfl, hO, hB⟩ := hrel
    have hl := toN_len s k
    have HO := Lib.hid hO
    have HB := Lib.hid hB
    clear hO hB
    by_cases hk64 : k < 64
    · cases hb : s.testBit k
      · go_wp2_with (go_at_call 75; refine (in_at hs hk64 hb).mono ?_; rintro e wh ⟨rfl, rfl⟩)
        go_roundw
        case rel =>
          have e : toN s (k + 1) = toN s k := by rw [toN_succ, if_neg (by rw [hb]; decide)]
          exact ⟨k + 1, a, c, by omega, by go_num, by rw [e], by rw [e]; exact HO.out, HB.out⟩
        case measure => simp only [intOf]; omega
      · go_wp2_with (first
          | (go_at_call 75; refine (in_at hs hk64 hb).mono ?_; rintro e wh ⟨rfl, rfl⟩)
          | (at_builtin; refine wpList_append_own _ rfl (.tmp 12) (.tmp 14) 82 rfl W.heap.size 3 i0 (.int .i64 0) 1 8 Try.underlying82 hi0 hz0 hz1 hz2 rfl (by decide) _ _ _ rfl (World.ownsRow.alloc HO.out _) ⟨wr.heap.size, 0, none⟩ 1 1 [nV k] rfl rfl (World.news_of_block (heap_alloc_new _ _)) (by simp [nV, Value.oneCell']) (by unfold maxLen; omega) (by omega) (by have := HB.out.size; simp; omega) ?_
             intro v2 w3 hown2 hgr2 _
             have R := Lib.hid (list_step hk64 hb HB.out HO.out hown2 hgr2)
             clear hown2 hgr2))
        go_roundw
        case rel => exact R.out
        case measure => simp only [intOf]; omega
    · obtain rfl : k = 64 := by omega
      have R := Lib.hid (list_done (s := s) (k := 64) rfl HO.out HB.out)
      go_wp2_with fail
      go_ret
      exact R.out

theorem list_any (s : Nat) (W : World) (hs : s < 18446744073709551616) : Calls Try.prog 66 #[.int .u64 (s : Nat)] W (ListPost W (listN s)) :=
  (list_own s W hs).mono fun _ _ h => list_post h
theorem rlist_any (s : Nat) (W : World) (hs : s < 18446744073709551616) : Calls Try.prog 55 #[.int .u64 (s : Nat)] W (ListPost W (listN s)) :=
  (rlist_own s W hs).mono fun _ _ h => list_post h

end Go.Proofs.Ytopnagjbdjicaaa
