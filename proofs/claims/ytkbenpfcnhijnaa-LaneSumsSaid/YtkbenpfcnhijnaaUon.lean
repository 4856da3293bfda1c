/-
  One lane, all else below N as it was: lane.Lane[string].
-/
import Derived.Test.YtkbenpfcnhijnaaUput
namespace Go.Proofs.Ytkbenpfcnhijnaa
open Go.RowKit

section
variable {W w : World} {N p : Nat} {S : St ByteArray}

theorem ls_on_new (hb : Below N W w) (hN : N ≤ W.heap.size) : Calls Try.prog 24 #[] w fun E w' => ∃ p, E = .returned (.pointer (some ⟨p, 0, none⟩)) ∧ LnOn sV 9 W N p ⟨[], 0, 0, 0, 0⟩ w' ∧ N ≤ p := by
  have hNw : N ≤ w.heap.size := Nat.le_trans hN hb.size
  refine (ls_new hNw).mono ?_
  rintro E w' ⟨rfl, hA, hB⟩
  exact ⟨_, rfl, ⟨_, hA, hb.trans (hB.mono hNw)⟩, hNw⟩
theorem ls_on_send {x : ByteArray} {S1 : St ByteArray} {b : Bool} (h : LnOn sV 9 W N p S w) (hn : S.s ≤ 5000) (hb : decide (S.l.length < 4096) = b) (hS : S.send x = S1) :
    Calls Try.prog 25 #[.pointer (some ⟨p, 0, none⟩), .string x] w fun E w' => E = .returned (.bool b) ∧ LnOn sV 9 W N p S1 w' := by
  subst hb hS
  obtain ⟨F, hA, hB⟩ := h
  exact (ls_send hA hn).mono fun _ _ h => h.on hA hB
theorem ls_on_take {k : Int} {x : ByteArray} {S1 : St ByteArray} {b : Bool} (h : LnOn sV 9 W N p S w) (hl : S.l.length ≤ 5000) (hn : S.t ≤ 5000) (hb : hasZ S.l.length k = b) (hx : S.got ⟨#[]⟩ k = x) (hS : S.take k = S1) :
    Calls Try.prog 26 #[.pointer (some ⟨p, 0, none⟩), .int .i64 k] w fun E w' => E = .returned (.tuple #[.string x, .bool b]) ∧ LnOn sV 9 W N p S1 w' := by
  subst hb hx hS
  obtain ⟨F, hA, hB⟩ := h
  exact (ls_take hA hl hn).mono fun _ _ h => h.on hA hB
theorem ls_on_drop {k : Int} {S1 : St ByteArray} {b : Bool} (h : LnOn sV 9 W N p S w) (hl : S.l.length ≤ 5000) (hn : S.d ≤ 5000) (hb : hasZ S.l.length k = b) (hS : S.drop k = S1) :
    Calls Try.prog 27 #[.pointer (some ⟨p, 0, none⟩), .int .i64 k] w fun E w' => E = .returned (.bool b) ∧ LnOn sV 9 W N p S1 w' := by
  subst hb hS
  obtain ⟨F, hA, hB⟩ := h
  exact (ls_drop hA hl hn).mono fun _ _ h => h.on hA hB
theorem ls_on_hold {k : Int} {S1 : St ByteArray} {b : Bool} (h : LnOn sV 9 W N p S w) (hl : S.l.length ≤ 5000) (hb : hasZ S.l.length k = b) (hS : S.hold ⟨#[]⟩ k = S1) :
    Calls Try.prog 29 #[.pointer (some ⟨p, 0, none⟩), .int .i64 k] w fun E w' => E = .returned (.bool b) ∧ LnOn sV 9 W N p S1 w' := by
  subst hb hS
  obtain ⟨F, hA, hB⟩ := h
  exact (ls_hold hA hl).mono fun _ _ h => h.on hA hB
theorem ls_on_double {k : Int} {S1 : St ByteArray} {b : Bool} (h : LnOn sV 9 W N p S w) (hn : S.m ≤ 5000) (hb : S.can k = b) (hS : S.double ⟨#[]⟩ k = S1) :
    Calls Try.prog 28 #[.pointer (some ⟨p, 0, none⟩), .int .i64 k] w fun E w' => E = .returned (.bool b) ∧ LnOn sV 9 W N p S1 w' := by
  subst hb hS
  obtain ⟨F, hA, hB⟩ := h
  exact (ls_double hA hn).mono fun _ _ h => h.on hA hB
theorem ls_on_len {n : Nat} (h : LnOn sV 9 W N p S w) (hn : S.l.length = n) :
    Calls Try.prog 31 #[.pointer (some ⟨p, 0, none⟩)] w fun E w' => E = .returned (.int .i64 (n : Nat)) ∧ LnOn sV 9 W N p S w' := by
  subst hn
  have h0 := h
  obtain ⟨F, hA, hB⟩ := h
  exact (ls_len hA).mono fun _ _ h => ⟨h.1, h.2 ▸ h0⟩
theorem ls_on_counts (h : LnOn sV 9 W N p S w) :
    Calls Try.prog 30 #[.pointer (some ⟨p, 0, none⟩)] w fun E w' => E = .returned (.tuple #[.int .i64 (S.s : Nat), .int .i64 (S.t : Nat), .int .i64 (S.d : Nat), .int .i64 (S.m : Nat)]) ∧ LnOn sV 9 W N p S w' := by
  have h0 := h
  obtain ⟨F, hA, hB⟩ := h
  refine (ls_counts hA).mono ?_
  rintro E w' ⟨rfl, q, rfl⟩
  exact ⟨rfl, h0.below ⟨rfl, rfl, rfl, Nat.le_refl _, fun _ _ => rfl⟩⟩
theorem ls_on_all {l : List ByteArray} {n : Nat} (h : LnOn sV 9 W N p S w) (hl : S.l = l) (hn : l.length = n) (hm : n ≤ 5000) :
    Calls Try.prog 32 #[.pointer (some ⟨p, 0, none⟩)] w fun E w' => ∃ a cap, E = .returned (.slice a n cap) ∧ SlV w' a cap (l.map sV) ∧ LnOn sV 9 W N p S w' ∧ Below w.heap.size w w' := by
  subst hl hn
  have h0 := h
  obtain ⟨F, hA, hB⟩ := h
  refine (ls_all hA (by omega)).mono ?_
  rintro E w' ⟨a, cap, rfl, hs, hb⟩
  exact ⟨a, cap, rfl, hs, h0.below hb, hb⟩
end

end Go.Proofs.Ytkbenpfcnhijnaa
