/-
  One lane, all else below N as it was: lane.Lane[int].
-/
import Derived.Test.YtkbenpfcnhijnaaVput
namespace Go.Proofs.Ytkbenpfcnhijnaa
open Go.RowKit

section
variable {W w : World} {N p : Nat} {S : St Int}

theorem li_on_new (hb : Below N W w) (hN : N ≤ W.heap.size) : Calls Try.prog 9 #[] w fun E w' => ∃ p, E = .returned (.pointer (some ⟨p, 0, none⟩)) ∧ LnOn iV 3 W N p ⟨[], 0, 0, 0, 0⟩ w' ∧ N ≤ p := by
  have hNw : N ≤ w.heap.size := Nat.le_trans hN hb.size
  refine (li_new hNw).mono ?_
  rintro E w' ⟨rfl, hA, hB⟩
  exact ⟨_, rfl, ⟨_, hA, hb.trans (hB.mono hNw)⟩, hNw⟩
theorem li_on_send {x : Int} {S1 : St Int} {b : Bool} (h : LnOn iV 3 W N p S w) (hn : S.s ≤ 5000) (hb : decide (S.l.length < 4096) = b) (hS : S.send x = S1) :
    Calls Try.prog 14 #[.pointer (some ⟨p, 0, none⟩), .int .i64 x] w fun E w' => E = .returned (.bool b) ∧ LnOn iV 3 W N p S1 w' := by
  subst hb hS
  obtain ⟨F, hA, hB⟩ := h
  exact (li_send hA hn).mono fun _ _ h => h.on hA hB
theorem li_on_take {k : Int} {x : Int} {S1 : St Int} {b : Bool} (h : LnOn iV 3 W N p S w) (hl : S.l.length ≤ 5000) (hn : S.t ≤ 5000) (hb : hasZ S.l.length k = b) (hx : S.got 0 k = x) (hS : S.take k = S1) :
    Calls Try.prog 10 #[.pointer (some ⟨p, 0, none⟩), .int .i64 k] w fun E w' => E = .returned (.tuple #[.int .i64 x, .bool b]) ∧ LnOn iV 3 W N p S1 w' := by
  subst hb hx hS
  obtain ⟨F, hA, hB⟩ := h
  exact (li_take hA hl hn).mono fun _ _ h => h.on hA hB
theorem li_on_drop {k : Int} {S1 : St Int} {b : Bool} (h : LnOn iV 3 W N p S w) (hl : S.l.length ≤ 5000) (hn : S.d ≤ 5000) (hb : hasZ S.l.length k = b) (hS : S.drop k = S1) :
    Calls Try.prog 11 #[.pointer (some ⟨p, 0, none⟩), .int .i64 k] w fun E w' => E = .returned (.bool b) ∧ LnOn iV 3 W N p S1 w' := by
  subst hb hS
  obtain ⟨F, hA, hB⟩ := h
  exact (li_drop hA hl hn).mono fun _ _ h => h.on hA hB
theorem li_on_hold {k : Int} {S1 : St Int} {b : Bool} (h : LnOn iV 3 W N p S w) (hl : S.l.length ≤ 5000) (hb : hasZ S.l.length k = b) (hS : S.hold 0 k = S1) :
    Calls Try.prog 13 #[.pointer (some ⟨p, 0, none⟩), .int .i64 k] w fun E w' => E = .returned (.bool b) ∧ LnOn iV 3 W N p S1 w' := by
  subst hb hS
  obtain ⟨F, hA, hB⟩ := h
  exact (li_hold hA hl).mono fun _ _ h => h.on hA hB
theorem li_on_double {k : Int} {S1 : St Int} {b : Bool} (h : LnOn iV 3 W N p S w) (hn : S.m ≤ 5000) (hb : S.can k = b) (hS : S.double 0 k = S1) :
    Calls Try.prog 12 #[.pointer (some ⟨p, 0, none⟩), .int .i64 k] w fun E w' => E = .returned (.bool b) ∧ LnOn iV 3 W N p S1 w' := by
  subst hb hS
  obtain ⟨F, hA, hB⟩ := h
  exact (li_double hA hn).mono fun _ _ h => h.on hA hB
theorem li_on_len {n : Nat} (h : LnOn iV 3 W N p S w) (hn : S.l.length = n) :
    Calls Try.prog 16 #[.pointer (some ⟨p, 0, none⟩)] w fun E w' => E = .returned (.int .i64 (n : Nat)) ∧ LnOn iV 3 W N p S w' := by
  subst hn
  have h0 := h
  obtain ⟨F, hA, hB⟩ := h
  exact (li_len hA).mono fun _ _ h => ⟨h.1, h.2 ▸ h0⟩
theorem li_on_counts (h : LnOn iV 3 W N p S w) :
    Calls Try.prog 15 #[.pointer (some ⟨p, 0, none⟩)] w fun E w' => E = .returned (.tuple #[.int .i64 (S.s : Nat), .int .i64 (S.t : Nat), .int .i64 (S.d : Nat), .int .i64 (S.m : Nat)]) ∧ LnOn iV 3 W N p S w' := by
  have h0 := h
  obtain ⟨F, hA, hB⟩ := h
  refine (li_counts hA).mono ?_
  rintro E w' ⟨rfl, q, rfl⟩
  exact ⟨rfl, h0.below ⟨rfl, rfl, rfl, Nat.le_refl _, fun _ _ => rfl⟩⟩
theorem li_on_all {l : List Int} {n : Nat} (h : LnOn iV 3 W N p S w) (hl : S.l = l) (hn : l.length = n) (hm : n ≤ 5000) :
    Calls Try.prog 23 #[.pointer (some ⟨p, 0, none⟩)] w fun E w' => ∃ a cap, E = .returned (.slice a n cap) ∧ SlV w' a cap (l.map iV) ∧ LnOn iV 3 W N p S w' ∧ Below w.heap.size w w' := by
  subst hl hn
  have h0 := h
  obtain ⟨F, hA, hB⟩ := h
  refine (li_all hA (by omega)).mono ?_
  rintro E w' ⟨a, cap, rfl, hs, hb⟩
  exact ⟨a, cap, rfl, hs, h0.below hb, hb⟩
end

end Go.Proofs.Ytkbenpfcnhijnaa
