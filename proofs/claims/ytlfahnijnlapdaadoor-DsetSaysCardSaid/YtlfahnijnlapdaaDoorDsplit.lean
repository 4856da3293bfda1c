/-
  Pieces between commas, one after the other: the library's own walk.
-/
import Derived.Test.YtlfahnijnlapdaaDoorDrange
import Derived.Shelf.Abstract
import Derived.Shelf.RegionOpen
import Derived.WalkKit
import Derived.OwnWalkIn
import Derived.TacticsInMore
import Derived.LoopNIn
import Derived.LoopIn
namespace Go.Proofs.YtlfahnijnlapdaaDoor
open Go.RowKit Go.Shelf

attribute [local go_sem] Oper.semAt_some

theorem index_ge : ∀ (r : List UInt8), -1 ≤ Lib.indexByte r 44
  | [] => by decide
  | c :: r => by
    have := index_ge r
    unfold Lib.indexByte
    split
    · omega
    · split
      · omega
      · omega
theorem cut_none : ∀ (r : List UInt8), Lib.indexByte r 44 = -1 → cutN r = [r]
  | [], _ => rfl
  | c :: r, h => by
    unfold Lib.indexByte at h
    by_cases hc : c = 44
    · rw [if_pos (by simp [hc])] at h; omega
    · rw [if_neg (by simpa using hc)] at h
      by_cases h1 : Lib.indexByte r 44 = -1
      · rw [cut_in hc, cut_none r h1]; rfl
      · rw [if_neg (by simpa using h1)] at h
        exact absurd h (by have := index_ge r; omega)
theorem cut_some : ∀ (r : List UInt8) (k : Nat), Lib.indexByte r 44 = (k : Int) → k < r.length ∧ cutN r = r.take k :: cutN (r.drop (k + 1))
  | [], k, h => by unfold Lib.indexByte at h; omega
  | c :: r, k, h => by
    unfold Lib.indexByte at h
    by_cases hc : c = 44
    · rw [if_pos (by simp [hc])] at h
      obtain rfl : k = 0 := by omega
      exact ⟨by simp, by rw [cut_at hc]; rfl⟩
    · rw [if_neg (by simpa using hc)] at h
      by_cases h1 : Lib.indexByte r 44 = -1
      · rw [if_pos (by simp [h1])] at h; omega
      · rw [if_neg (by simpa using h1)] at h
        have hge := index_ge r
        obtain ⟨j, rfl⟩ : ∃ j, k = j + 1 := ⟨k - 1, by omega⟩
        obtain ⟨hl, he⟩ := cut_some r j (by omega)
        refine ⟨by simp; omega, ?_⟩
        rw [cut_in hc, he]; rfl

def bytesOf (l : List UInt8) : ByteArray := ⟨l.toArray⟩
/-- All pieces, as the rounds are handed them. -/
def piecesB (s : ByteArray) : List ByteArray := (cutN s.data.toList).map bytesOf

theorem ext_take (s : ByteArray) (k : Nat) : s.extract 0 k = bytesOf (s.data.toList.take k) := by
  have h := Lib.extract_toList s 0 k
  rw [Lib.toList_data, List.drop_zero, Nat.sub_zero] at h
  unfold bytesOf
  rw [← h]
theorem ext_drop (s : ByteArray) (k : Nat) : s.extract k s.size = bytesOf (s.data.toList.drop k) := by
  have h := Lib.extract_toList s k s.size
  rw [Lib.toList_data, List.take_of_length_le (by rw [List.length_drop, ← Lib.size_eq]; exact Nat.le_refl _)] at h
  unfold bytesOf
  rw [← h]

theorem pieces_last {s : ByteArray} (h : Lib.indexByte s.data.toList 44 = -1) : piecesB s = [s] := by
  unfold piecesB
  rw [cut_none _ h]
  rfl
theorem pieces_more {s : ByteArray} {k : Nat} (h : Lib.indexByte s.data.toList 44 = (k : Int)) : k < s.size ∧ piecesB s = s.extract 0 k :: piecesB (s.extract (k + 1) s.size) := by
  obtain ⟨hl, he⟩ := cut_some _ k h
  refine ⟨by rw [Lib.size_eq]; exact hl, ?_⟩
  unfold piecesB
  rw [he, ext_take, ext_drop]
  rfl

set_option maxRecDepth 20000 in
theorem splitSeq_any (s sep : ByteArray) (W : World) : Calls Tryd.prog 25 #[.string s, .string sep] W fun e w' =>
    e = .returned (.func (.func 43) #[] #[.pointer (some ⟨W.heap.size + 1, 0, none⟩), .pointer (some ⟨W.heap.size, 0, none⟩), .pointer (some ⟨W.heap.size + 2, 0, none⟩)]) ∧
    w' = ((W.alloc (.cells #[.string s] 9)).alloc (.cells #[.string sep] 9)).alloc (.cells #[.int .i64 0] 3) := by
  go_enter Tryd.func25, Tryd.ntmps25
  go_wp2
  go_ret
  exact ⟨rfl, rfl⟩

theorem cell_heap {A B : World} {b o : Nat} (h : B.heap[b]? = A.heap[b]?) : B.cell? ⟨b, o, none⟩ = A.cell? ⟨b, o, none⟩ := by
  unfold World.cell?; rw [h]
theorem frozen_heap {A B : World} {b o : Nat} (h : B.heap[b]? = A.heap[b]?) : B.frozen? ⟨b, o, none⟩ = A.frozen? ⟨b, o, none⟩ := by
  unfold World.frozen?; rw [h]

theorem idx_at {s : ByteArray} {z : Int} (h : Lib.indexByte s.data.toList 44 = z) (W : World) : Calls Tryd.prog 45 #[.string s, .string ⟨#[44]⟩] W fun e w' => e = .returned (.int .i64 z) ∧ w' = W := by
  subst h
  exact Tryd.strings_Index_one s 44 W

/-- The three boxes of a walk. -/
structure Boxes (B : Nat) (r : ByteArray) (W : World) : Prop where
  c0 : W.cell? ⟨B, 0, none⟩ = some (.string r)
  f0 : W.frozen? ⟨B, 0, none⟩ = false
  c1 : W.cell? ⟨B + 1, 0, none⟩ = some (.string ⟨#[44]⟩)
  c2 : W.cell? ⟨B + 2, 0, none⟩ = some (.int .i64 0)
theorem Boxes.but {B N bb : Nat} {r : ByteArray} {A C : World} (h : Boxes B r A) (hb : But N bb A C) (hN : B + 3 ≤ N) (hbb : bb < B) : Boxes B r C where
  c0 := (cell_heap (hb.block B (by omega) (by omega))).trans h.c0
  f0 := (frozen_heap (hb.block B (by omega) (by omega))).trans h.f0
  c1 := (cell_heap (hb.block (B + 1) (by omega) (by omega))).trans h.c1
  c2 := (cell_heap (hb.block (B + 2) (by omega) (by omega))).trans h.c2

theorem Boxes.store {B : Nat} {r : ByteArray} {A : World} (h : Boxes B r A) (r2 : ByteArray) : Boxes B r2 (A.setCell ⟨B, 0, none⟩ (.string r2)) where
  c0 := World.cell?_setCell_same' _ _ _ (by rw [h.c0]; rfl)
  f0 := by rw [World.frozen?_setCell]; exact h.f0
  c1 := (cell_heap (Below.heap_setCell A ⟨B, 0, none⟩ _ (B + 1) (by show B + 1 ≠ B; omega))).trans h.c1
  c2 := (cell_heap (Below.heap_setCell A ⟨B, 0, none⟩ _ (B + 2) (by show B + 2 ≠ B; omega))).trans h.c2

def leftN (B : Nat) (W : World) : Nat := match W.cell? ⟨B, 0, none⟩ with
  | some (.string r) => r.size
  | _ => 0
theorem left_eq {B : Nat} {r : ByteArray} {W : World} (h : W.cell? ⟨B, 0, none⟩ = some (.string r)) : leftN B W = r.size := by unfold leftN; rw [h]

def SplitRel (s : ByteArray) (B : Nat) (J : List ByteArray → World → Prop) (wr : World) : Prop :=
  ∃ (pre : List ByteArray) (r : ByteArray), piecesB s = pre ++ piecesB r ∧ r.size ≤ 1000 ∧ J pre wr ∧ Boxes B r wr

set_option maxRecDepth 100000 in
set_option maxHeartbeats 4000000 in
theorem split1_in (n l B bb N : Nat) (s : ByteArray) (hs : s.size ≤ 1000) (hN : B + 3 ≤ N) (hbb : bb < B) (J : List ByteArray → World → Prop) (W : World)
    (hJs : ∀ q A v, J q A → J q (A.setCell ⟨B, 0, none⟩ v))
    (hY : ∀ pre x W1, J pre W1 → pre ++ [x] <+: piecesB s → YieldAt Fence.wide (n - 1) Tryd.prog l #[.string x] W1 fun e W' => e = .returned (.bool true) ∧ J (pre ++ [x]) W' ∧ But N bb W1 W')
    (hB : Boxes B s W) (h0 : J [] W) :
    CallsIn Fence.wide n Tryd.prog 43 #[.func (.yield l) #[] #[], .pointer (some ⟨B + 1, 0, none⟩), .pointer (some ⟨B, 0, none⟩), .pointer (some ⟨B + 2, 0, none⟩)] W fun e W' => (∃ v, e = .returned v) ∧ J (piecesB s) W' := by
  refine callsIn_of_wp Tryd.func43 rfl trivial ?_ rfl
  simp only [Tryd.ntmps43, List.size_toArray, List.length_cons, List.length_nil, Nat.reduceAdd, Nat.reduceSub, Array.replicate_succ, Array.replicate_zero, List.push_toArray, List.append_toArray, List.nil_append, List.cons_append]
  have HB := Lib.hid hB
  have k1 := hB.c1
  clear hB
  gi_wp2
  gi_loopw [7, 8] (fun _ _ wr => SplitRel s B J wr) (fun _ _ wr => leftN B wr)
  case atStart => exact ⟨[], s, rfl, hs, h0, HB.out⟩
  case round =>
    obtain ⟨pre, r, hp, hr, hj, hb⟩ := hrel
    have HB2 := Lib.hid hb
    have d0 := hb.c0
    have d1 := hb.c1
    have d2 := hb.c2
    have df := hb.f0
    clear hb
    by_cases hi : Lib.indexByte r.data.toList 44 = -1
    · obtain ⟨fn, tmps, assign, body, hy, hR⟩ := hY pre r wr hj (by rw [hp, pieces_last hi]; exact List.prefix_rfl)
      gi_wp2
      refine ⟨trivial, fun h => (by cases h), ?_⟩
      refine (callsIn_wide.2 (idx_at hi _)).mono ?_
      rintro e w' ⟨rfl, rfl⟩
      gi_wp2
      refine ⟨fun h => (by cases h), ?_⟩
      refine hR.mono ?_
      rintro e W3 ⟨rfl, hJ3, hk3⟩
      have R := Lib.hid (show J (piecesB s) W3 by rw [hp, pieces_last hi]; exact hJ3)
      clear hk3 hJ3 hy hR hp hi
      gi_wp2
      go_end0
      exact ⟨⟨_, rfl⟩, R.out⟩
    · obtain ⟨k, hk⟩ : ∃ k : Nat, Lib.indexByte r.data.toList 44 = (k : Int) := ⟨(Lib.indexByte r.data.toList 44).toNat, by have := index_ge r.data.toList; omega⟩
      obtain ⟨hkl, hpm⟩ := pieces_more hk
      obtain ⟨fn, tmps, assign, body, hy, hR⟩ := hY pre (r.extract 0 k) wr hj (by rw [hp, hpm]; exact List.prefix_append_right_inj pre |>.2 (List.cons_prefix_cons.2 ⟨rfl, List.nil_prefix⟩))
      gi_wp2
      refine ⟨trivial, fun h => (by cases h), ?_⟩
      refine (callsIn_wide.2 (idx_at hk _)).mono ?_
      rintro e w' ⟨rfl, rfl⟩
      gi_wp2
      refine ⟨fun h => (by cases h), ?_⟩
      refine hR.mono ?_
      rintro e W3 ⟨rfl, hJ3, hk3⟩
      have hB3 := HB2.out.but hk3 hN hbb
      have HW := Lib.hid (left_eq d0)
      have d0' := hB3.c0
      have d1' := hB3.c1
      have df' := hB3.f0
      have HB3 := Lib.hid hB3
      have HP := Lib.hid (show piecesB s = (pre ++ [r.extract 0 k]) ++ piecesB (r.extract (k + 1) r.size) by rw [hp, hpm]; simp)
      have HJ3 := Lib.hid hJ3
      have hkk : k + 1 ≤ r.size := hkl
      clear hB3 hJ3 hk3 hy hR hp hpm hj HB2 d0 d1 d2 df HB k1
      gi_wp2
      go_roundw
      case rel => exact ⟨_, _, HP.out, by rw [ByteArray.size_extract]; omega, hJs _ _ _ HJ3.out, HB3.out.store _⟩
      case measure =>
        rw [left_eq (HB3.out.store (r.extract (k + 1) r.size)).c0, HW.out, ByteArray.size_extract]
        omega

end Go.Proofs.YtlfahnijnlapdaaDoor
