/-
  Acts that come in; what is kept of the counts.
-/
import Derived.Test.YtkbenpfcnhijnaaVaw
namespace Go.Proofs.Ytkbenpfcnhijnaa
open Go.RowKit

/-- One act. -/
structure Ac where
  op : Int
  k : Int
  v : Int

/-- A slice of acts. -/
structure AcAt (w : World) (a : Option Addr) (cap : Nat) (l : List Ac) : Prop where
  fit : l.length ≤ cap
  max : cap ≤ maxLen
  nil : a = none → cap = 0
  cell : ∀ i (h : i < l.length), ∃ b off, a = some ⟨b, off, none⟩ ∧ b < w.heap.size ∧ w.cell? ⟨b, off + i * 3, none⟩ = some (.int .i64 l[i].op) ∧ w.cell? ⟨b, off + i * 3 + 1, none⟩ = some (.int .i64 l[i].k) ∧ w.cell? ⟨b, off + i * 3 + 2, none⟩ = some (.int .i64 l[i].v)

/-- What was sent, and doubled, is what was taken, dropped, and is there still. -/
structure Inv {α : Type} (S : St α) (i : Nat) : Prop where
  sum : S.s + S.m = S.t + S.d + S.l.length
  s : S.s ≤ i
  t : S.t ≤ i
  d : S.d ≤ i
  m : S.m ≤ i

section
variable {α : Type} {S : St α} {i : Nat} {z x : α} {k : Int}
theorem Inv.len (h : Inv S i) : S.l.length ≤ 2 * i := by have := h.sum; have := h.s; have := h.m; omega
theorem Inv.up (h : Inv S i) : Inv S (i + 1) := ⟨h.sum, by have := h.s; omega, by have := h.t; omega, by have := h.d; omega, by have := h.m; omega⟩
theorem Inv.send (h : Inv S i) : Inv (S.send x) (i + 1) := by
  unfold St.send
  split
  · exact ⟨by have := h.sum; simp only [List.length_append, List.length_singleton]; omega, by have := h.s; simp only; omega, h.up.t, h.up.d, h.up.m⟩
  · exact h.up
theorem cut_len (hk : hasZ S.l.length k = true) : (cutL S.l k.toNat).length + 1 = S.l.length := by
  obtain ⟨j, rfl, hj⟩ := hasZ_nat hk
  rw [Int.toNat_natCast, cutL_len hj]
  omega
theorem Inv.take (h : Inv S i) : Inv (S.take k) (i + 1) := by
  unfold St.take
  split
  · rename_i hk
    have := cut_len hk
    exact ⟨by have := h.sum; simp only; omega, h.up.s, by have := h.t; simp only; omega, h.up.d, h.up.m⟩
  · exact h.up
theorem Inv.drop (h : Inv S i) : Inv (S.drop k) (i + 1) := by
  unfold St.drop
  split
  · rename_i hk
    have := cut_len hk
    exact ⟨by have := h.sum; simp only; omega, h.up.s, h.up.t, by have := h.d; simp only; omega, h.up.m⟩
  · exact h.up
theorem Inv.hold (h : Inv S i) : Inv (S.hold z k) (i + 1) := by
  unfold St.hold
  split
  · rename_i hk
    have := cut_len hk
    exact ⟨by have := h.sum; simp only [List.length_append, List.length_singleton]; omega, h.up.s, h.up.t, h.up.d, h.up.m⟩
  · exact h.up
theorem Inv.double (h : Inv S i) : Inv (S.double z k) (i + 1) := by
  unfold St.double
  split
  · exact ⟨by have := h.sum; simp only [List.length_append, List.length_singleton]; omega, h.up.s, h.up.t, h.up.d, by have := h.m; simp only; omega⟩
  · exact h.up
theorem Inv.none : Inv (⟨[], 0, 0, 0, 0⟩ : St α) 0 := ⟨rfl, Nat.le_refl _, Nat.le_refl _, Nat.le_refl _, Nat.le_refl _⟩
end

end Go.Proofs.Ytkbenpfcnhijnaa
