/-
  New: post.Post[string].
-/
import Derived.Test.YtedfiejocajpkaaZput
import Derived.Deep.OwnRows
import Derived.Conc.SmallLaws
namespace Go.Proofs.Ytedfiejocajpkaa
open Go.RowKit

def psC (room : Nat) : Obj := .chan room #[] false 0 0 false
/-- i channels are made. -/
structure psNewInv (W : World) (n room i : Nat) (wr : World) : Prop where
  size : wr.heap.size = W.heap.size + 2 + i
  be : Below W.heap.size W wr
  c0 : wr.cell? ⟨W.heap.size + 1, 0, none⟩ = some (.slice (some ⟨W.heap.size, 0, none⟩) n n)
  done : ∀ k, k < i → wr.cell? ⟨W.heap.size, k, none⟩ = some (.chan (some (W.heap.size + 2 + k)))
  todo : ∀ k, i ≤ k → k < n → wr.cell? ⟨W.heap.size, k, none⟩ = some (.chan none)
  fz : ∀ k, wr.frozen? ⟨W.heap.size, k, none⟩ = false
  ch : ∀ k, k < i → wr.heap[W.heap.size + 2 + k]? = some (.chan room #[] false 0 0 false)

theorem ps_new_step {W wr : World} {n room i : Nat} (h : psNewInv W n room i wr) (hi : i < n) :
    psNewInv W n room (i + 1) (((wr.alloc (psC room)).setCell ⟨W.heap.size, i, none⟩ (.chan (some wr.heap.size))).drew) := by
  have hs := h.size
  have hb : ∀ k, k < wr.heap.size → (wr.alloc (psC room)).heap[k]? = wr.heap[k]? := fun k hk => Below.heap_alloc _ _ _ hk
  have hc : ∀ (p off : Nat), p < wr.heap.size → (wr.alloc (psC room)).cell? ⟨p, off, none⟩ = wr.cell? ⟨p, off, none⟩ := fun p off hp => World.cell?_of_block (w := wr) (a := ⟨p, off, none⟩) (hb p hp)
  have ho : ∀ k, k ≠ i → ((wr.alloc (psC room)).setCell ⟨W.heap.size, i, none⟩ (.chan (some wr.heap.size))).cell? ⟨W.heap.size, k, none⟩ = wr.cell? ⟨W.heap.size, k, none⟩ := fun k hk => (cell_other hk).trans (hc _ _ (by omega))
  have hset : ∀ p, p ≠ W.heap.size → ((wr.alloc (psC room)).setCell ⟨W.heap.size, i, none⟩ (.chan (some wr.heap.size))).heap[p]? = (wr.alloc (psC room)).heap[p]? := fun p hp => Below.heap_setCell _ _ _ _ hp
  refine ⟨by simp [World.setCell, hs]; omega, ?_, ?_, fun k hk => ?_, fun k hk hk2 => ?_, fun k => ?_, fun k hk => ?_⟩
  · have h1 : Below W.heap.size wr (((wr.alloc (psC room)).setCell ⟨W.heap.size, i, none⟩ (.chan (some wr.heap.size))).drew) :=
      ⟨rfl, rfl, rfl, by simp [World.setCell], fun k hk => (hset k (by omega)).trans (hb k (by omega))⟩
    exact h.be.trans h1
  · exact (World.cell?_of_block (w := wr.alloc (psC room)) (a := ⟨W.heap.size + 1, 0, none⟩) (hset (W.heap.size + 1) (by omega))).trans ((hc (W.heap.size + 1) 0 (by omega)).trans h.c0)
  · by_cases e : k = i
    · subst e
      have h2 := World.cell?_setCell_same (w := wr.alloc (psC room)) (a := ⟨W.heap.size, k, none⟩) (h := (hc W.heap.size k (by omega)).trans (h.todo k (Nat.le_refl _) hi)) (v := .chan (some wr.heap.size))
      rw [← hs]
      exact h2
    · exact (ho k e).trans (h.done k (by omega))
  · exact (ho k (by omega)).trans (h.todo k (by omega) hk2)
  · refine (World.frozen?_setCell ..).trans ((World.frozen?_of_block (w := wr) (a := ⟨W.heap.size, k, none⟩) (hb W.heap.size (by omega))).trans (h.fz k))
  · by_cases e : k = i
    · subst e
      refine (hset _ (by omega)).trans ?_
      rw [← hs]
      exact heap_alloc_new wr _
    · exact (hset _ (by omega)).trans ((hb _ (by omega)).trans (h.ch k (by omega)))

theorem ps_new_done {W wr : World} {N n room : Nat} (h : psNewInv W n room n wr) (hN : N ≤ W.heap.size) (hn : 0 < n ∧ n ≤ 16) (hr : 0 < room ∧ room ≤ 64) :
    PoAt sV wr N (W.heap.size + 1) (fun k => W.heap.size ≤ k ∧ k < wr.heap.size) n room (fun _ => []) := by
  have hs := h.size
  refine ⟨W.heap.size, fun k => W.heap.size + 2 + k, fun _ => [], ⟨h.c0, h.done, fun k hk => ⟨0, 0, h.ch k hk⟩, fun k hk e he => by simp at he, fun i j _ _ e => by omega, by omega, by omega, fun k hk => by omega, fun k hk e he => by simp at he, fun k f => ⟨by omega, f.2⟩, hn, hr⟩, fun _ _ => rfl⟩

theorem ps_new_start (W : World) (n room : Nat) (t t2 : TypeId) :
    psNewInv W n room 0 ((W.alloc (.cells (madeCells #[.chan none] n) t)).alloc (.cells #[.slice (some ⟨W.heap.size, 0, none⟩) n n] t2)) := by
  have hb : ((W.alloc (.cells (madeCells #[.chan none] n) t)).alloc (.cells #[.slice (some ⟨W.heap.size, 0, none⟩) n n] t2)).heap[W.heap.size]? = some (.cells (madeCells #[.chan none] n) t) :=
    (Below.heap_alloc _ _ _ (by simp)).trans (heap_alloc_new _ _)
  refine ⟨by simp, (((Below.refl _ _).alloc (Nat.le_refl _) _).alloc (by simp) _), ?_, fun k hk => by omega, fun k _ hk => ?_, fun k => ?_, fun k hk => by omega⟩
  · have h := World.news_of_block (cs := #[.slice (some ⟨W.heap.size, 0, none⟩) n n]) (fr := (0, 0)) (heap_alloc_new (W.alloc (.cells (madeCells #[.chan none] n) t)) (.cells #[.slice (some ⟨W.heap.size, 0, none⟩) n n] t2)) 0 (.slice (some ⟨W.heap.size, 0, none⟩) n n) rfl
    rw [World.size_alloc] at h
    exact h
  · have h := World.news_of_block (cs := madeCells #[.chan none] n) (fr := (0, 0)) hb k (.chan none) (by rw [toList_madeCells_one, List.getElem?_replicate, if_pos hk])
    rw [Addr.add_lit, Nat.zero_add] at h
    exact h
  · unfold World.frozen?
    rw [hb]
    simp

/-- A new one. -/
def psNewPost (W : World) (N n room : Nat) (E : Ending) (w' : World) : Prop :=
  ∃ p F, E = .returned (.tuple #[.pointer (some ⟨p, 0, none⟩), .int .i64 0]) ∧ PoAt sV w' N p F n room (fun _ => []) ∧ Below W.heap.size W w' ∧ ∀ k, F k → W.heap.size ≤ k

theorem ps_new_bad (a b : Int) (W : World) (h : ¬ (1 ≤ a ∧ a ≤ 16 ∧ 1 ≤ b ∧ b ≤ 64)) :
    Calls Try.prog 9 #[.int .i64 a, .int .i64 b] W fun e w' => e = .returned (.tuple #[.pointer none, .int .i64 1]) ∧ w' = W := by
  have fin : ∀ (e : Ending) (w' : World), e = .returned (.tuple #[.pointer none, .int .i64 1]) → w' = W → e = .returned (.tuple #[.pointer none, .int .i64 1]) ∧ w' = W := fun _ _ h1 h2 => ⟨h1, h2⟩
  go_enter Try.func9, Try.ntmps9
  by_cases h1 : a < 1
  · have d1 : decide (a < 1) = true := decide_eq_true h1
    clear h h1
    go_wp2_with fail
    go_ret2
    exact ⟨rfl, rfl⟩
  · have d1 : decide (a < 1) = false := decide_eq_false h1
    by_cases h2 : a > 16
    · have d2 : decide (a > 16) = true := decide_eq_true h2
      clear h h1 h2
      go_wp2_with fail
      go_ret2
      exact ⟨rfl, rfl⟩
    · have d2 : decide (a > 16) = false := decide_eq_false h2
      by_cases h3 : b < 1
      · have d3 : decide (b < 1) = true := decide_eq_true h3
        clear h h1 h2 h3
        go_wp2_with fail
        go_ret2
        exact ⟨rfl, rfl⟩
      · have d3 : decide (b < 1) = false := decide_eq_false h3
        have d4 : decide (b > 64) = true := decide_eq_true (by omega)
        clear h h1 h2 h3
        go_wp2_with fail
        go_ret2
        exact ⟨rfl, rfl⟩

theorem ps_infoC : (Try.prog.info? 61).map (fun i => (i.zero, i.size, i.bytes)) = some (some (.chan none), 1, 8) := by kernel_rfl
theorem ps_infoP : (Try.prog.info? 63).map (·.bytes) = some 8 := by kernel_rfl

set_option maxHeartbeats 2000000 in
theorem ps_new (n room : Nat) (W : World) (N : Nat) (hN : N ≤ W.heap.size) (hn : 0 < n ∧ n ≤ 16) (hr : 0 < room ∧ room ≤ 64) :
    Calls Try.prog 9 #[.int .i64 (n : Int), .int .i64 (room : Int)] W (psNewPost W N n room) := by
  have d1 : decide ((n : Int) < 1) = false := decide_eq_false (by omega)
  have d2 : decide ((n : Int) > 16) = false := decide_eq_false (by omega)
  have d3 : decide ((room : Int) < 1) = false := decide_eq_false (by omega)
  have d4 : decide ((room : Int) > 64) = false := decide_eq_false (by omega)
  have hm := run_make_row' (P := Try.prog) 58 61 (.chan none) 8 Try.underlying58 ps_infoC rfl .i64 .i64 n (by omega) (by omega) W
  obtain ⟨i0, hi0, hb0⟩ := Option.map_eq_some_iff.1 ps_infoP
  have hk : ∀ w : World, (Instr.makeChan 61 (.int .i64 (room : Int))).run Try.prog w = .ok (.chan (some w.heap.size)) (w.alloc (psC room)) := fun w => Go.Conc.run_makeChan (P := Try.prog) (w := w) Try.underlying61 hi0 .i64 room (by omega) (by rw [hb0]; omega)
  have HN := Lib.hid hN
  have HB := Lib.hid hn
  have HR := Lib.hid hr
  clear hi0 hb0 hN
  go_enter Try.func9, Try.ntmps9
  go_wp2_with fail
  have S0 := Lib.hid (ps_new_start W n room 61 60)
  generalize ((W.alloc (.cells (madeCells #[.chan none] n) 61)).alloc (.cells #[.slice (some ⟨W.heap.size, 0, none⟩) n n] 60)) = w0 at *
  clear hm
  go_loopw [31] (fun i wr => ∃ k : Nat, k ≤ n ∧ i = .int .i64 (k : Nat) ∧ Hid (psNewInv W n room k wr)) (fun i _ => n - (intOf i).toNat)
  case atStart => exact ⟨0, Nat.zero_le _, rfl, S0⟩
  case round =>
    obtain ⟨k, hkn, rfl, HI⟩ := hrel
    by_cases hlt : k < n
    · have HS := Lib.hid (ps_new_step HI.out hlt)
      have c0 := HI.out.c0
      have c1 := HI.out.todo k (Nat.le_refl _) hlt
      have f1 := HI.out.fz k
      have s1 : W.heap.size + 1 < wr.heap.size := by have := HI.out.size; omega
      have hb : ∀ j, j < wr.heap.size → (wr.alloc (psC room)).heap[j]? = wr.heap[j]? := fun j hj => Below.heap_alloc _ _ _ hj
      have c2 := (World.cell?_of_block (w := wr) (a := ⟨W.heap.size + 1, 0, none⟩) (hb (W.heap.size + 1) s1)).trans c0
      have c3 := (World.cell?_of_block (w := wr) (a := ⟨W.heap.size, k, none⟩) (hb W.heap.size (by omega))).trans c1
      have f3 := (World.frozen?_of_block (w := wr) (a := ⟨W.heap.size, k, none⟩) (hb W.heap.size (by omega))).trans f1
      have ib : (k : Int) < (n : Int) := by omega
      clear hb s1 hlt
      go_wp2_with fail
      go_region
      go_wp2_with fail
      go_roundw
      case rel => exact ⟨k + 1, by omega, by go_num, HS⟩
      case measure => simp only [intOf]; omega
    · obtain rfl : k = n := by omega
      have R := Lib.hid (ps_new_done HI.out HN.out HB.out HR.out)
      go_wp2_with fail
      go_ret2
      exact ⟨_, _, rfl, R.out, HI.out.be, fun _ f => f.1⟩

end Go.Proofs.Ytedfiejocajpkaa
