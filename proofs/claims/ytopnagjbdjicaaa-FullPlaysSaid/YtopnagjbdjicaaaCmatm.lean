import Derived.Test.YtopnagjbdjicaaaBmemm
import Derived.Test.YtopnagjbdjicaaaMac
import Derived.Test.YtopnagjbdjicaaaMad

/-
  Squares of counts; how they lie in memory.
-/
namespace Go.Proofs.Ytopnagjbdjicaaa
open Go.RowKit

/-- May a square be? -/
def goodM (z : Int) (m : List (List Nat)) : Bool := decide (1 ≤ z ∧ z ≤ 16 ∧ (m.length : Int) = z ∧ ∀ r ∈ m, (r.length : Int) = z)
theorem goodM_is {z : Int} {m : List (List Nat)} (h : goodM z m = true) : ∃ n : Nat, z = n ∧ 1 ≤ n ∧ n ≤ 16 ∧ m.length = n ∧ ∀ r ∈ m, r.length = n := by
  unfold goodM at h
  obtain ⟨h1, h2, h3, h4⟩ := of_decide_eq_true h
  exact ⟨z.toNat, by omega, by omega, by omega, by omega, fun r hr => by have := h4 r hr; omega⟩
theorem goodM_of {n : Nat} {m : List (List Nat)} (h1 : 1 ≤ n) (h2 : n ≤ 16) (h3 : m.length = n) (h4 : ∀ r ∈ m, r.length = n) : goodM (n : Int) m = true := by
  unfold goodM
  exact decide_eq_true ⟨by omega, by omega, by omega, fun r hr => by rw [h4 r hr]⟩
theorem goodM_low {z : Int} {m : List (List Nat)} (h : z < 1) : goodM z m = false := decide_eq_false fun h' => by omega
theorem goodM_high {z : Int} {m : List (List Nat)} (h : z > 16) : goodM z m = false := decide_eq_false fun h' => by omega
theorem goodM_len {z : Int} {m : List (List Nat)} (h : (m.length : Int) ≠ z) : goodM z m = false := decide_eq_false fun h' => h h'.2.2.1
theorem goodM_row {z : Int} {m : List (List Nat)} {r : List Nat} (hr : r ∈ m) (h : (r.length : Int) ≠ z) : goodM z m = false := decide_eq_false fun h' => h (h'.2.2.2 r hr)
/-- More than is asked of? -/
def heavyM (m : List (List Nat)) : Bool := decide (20 < m.length ∨ ∃ r ∈ m, 20 < r.length)
theorem heavyM_no {m : List (List Nat)} (h : heavyM m = false) : m.length ≤ 20 ∧ ∀ r ∈ m, r.length ≤ 20 := by
  have := of_decide_eq_false h
  exact ⟨by omega, fun r hr => by
    rcases Nat.lt_or_ge 20 r.length with h0 | h0
    · exact absurd (Or.inr ⟨r, hr, h0⟩) this
    · exact h0⟩
theorem heavyM_of {m : List (List Nat)} (h1 : m.length ≤ 20) (h2 : ∀ r ∈ m, r.length ≤ 20) : heavyM m = false := decide_eq_false fun h => by
  rcases h with h | ⟨r, hr, h⟩
  · omega
  · have := h2 r hr; omega
theorem heavyM_len {m : List (List Nat)} (h : 20 < m.length) : heavyM m = true := decide_eq_true (Or.inl h)
theorem heavyM_row {m : List (List Nat)} {r : List Nat} (hr : r ∈ m) (h : 20 < r.length) : heavyM m = true := decide_eq_true (Or.inr ⟨r, hr, h⟩)

/-- One more at each of a set, up to k. -/
def incL (xs : List Nat) (to k : Nat) : List Nat := mkL xs.length fun j => atN xs j + if j < k ∧ hasN to (j : Int) = true ∧ atN xs j < 18446744073709551615 then 1 else 0
theorem incL_length (xs : List Nat) (to k : Nat) : (incL xs to k).length = xs.length := mkL_length ..
theorem incL_at (xs : List Nat) (to k j : Nat) : atN (incL xs to k) j = if j < xs.length then atN xs j + if j < k ∧ hasN to (j : Int) = true ∧ atN xs j < 18446744073709551615 then 1 else 0 else 0 := mkL_at j
theorem incL_zero (xs : List Nat) (to : Nat) : incL xs to 0 = xs := row_ext (incL_length ..) fun j hj => by
  rw [incL_length] at hj
  rw [incL_at, if_pos hj, if_neg (by omega)]; rfl
theorem set_atN {xs : List Nat} {i v k : Nat} (h : i < xs.length) : atN (xs.set i v) k = if k = i then v else atN xs k := by
  by_cases hk : k < xs.length
  · rw [atN_of (by simpa using hk), List.getElem_set, atN_of hk]
    by_cases e : k = i
    · subst e; simp
    · rw [if_neg (fun h => e h.symm), if_neg e]
  · rw [atN_out (by simp; omega), atN_out (xs := xs) (by omega), if_neg (by omega)]
theorem incL_yes {xs : List Nat} {to k : Nat} (hk : k < xs.length) (h1 : hasN to (k : Int) = true) (h2 : atN xs k < 18446744073709551615) : (incL xs to k).set k (atN xs k + 1) = incL xs to (k + 1) :=
  row_ext (by rw [List.length_set, incL_length, incL_length]) fun j hj => by
    rw [List.length_set, incL_length] at hj
    rw [set_atN (by rw [incL_length]; exact hk), incL_at, incL_at, if_pos hj, if_pos hj]
    by_cases e : j = k
    · subst e
      rw [if_pos rfl, if_pos ⟨by omega, h1, h2⟩]
    · rw [if_neg e]
      congr 1
      by_cases h : j < k ∧ hasN to (j : Int) = true ∧ atN xs j < 18446744073709551615
      · rw [if_pos h, if_pos ⟨by omega, h.2⟩]
      · rw [if_neg h, if_neg (fun h' => h ⟨by omega, h'.2⟩)]
theorem incL_no {xs : List Nat} {to k : Nat} (h : ¬ (hasN to (k : Int) = true ∧ atN xs k < 18446744073709551615)) : incL xs to k = incL xs to (k + 1) :=
  row_ext (by rw [incL_length, incL_length]) fun j hj => by
    rw [incL_length] at hj
    rw [incL_at, incL_at, if_pos hj, if_pos hj]
    congr 1
    by_cases e : j = k
    · subst e
      rw [if_neg (by omega), if_neg (fun h' => h h'.2)]
    · by_cases h : j < k ∧ hasN to (j : Int) = true ∧ atN xs j < 18446744073709551615
      · rw [if_pos h, if_pos ⟨by omega, h.2⟩]
      · rw [if_neg h, if_neg (fun h' => h ⟨by omega, h'.2⟩)]
theorem incL_same (xs : List Nat) (to k : Nat) : atN (incL xs to k) k = atN xs k := by
  rw [incL_at]
  by_cases h : k < xs.length
  · rw [if_pos h, if_neg (by omega)]; rfl
  · rw [if_neg h, atN_out (by omega)]
theorem incL_lt {xs : List Nat} {to k : Nat} (h : ∀ x ∈ xs, x < QM) : ∀ x ∈ incL xs to k, x < QM := mkL_mem fun j _ => by
  have : atN xs j < 18446744073709551616 := atN_lt (by decide) h j
  show _ < 18446744073709551616
  split <;> omega
/-- .. of a square's row. -/
def upM (z : Int) (m : List (List Nat)) (i : Int) (to : Nat) : List (List Nat) := if goodM z m = true ∧ 0 ≤ i ∧ i < z then m.set i.toNat (incL (m.getD i.toNat []) to z.toNat) else m
theorem upM_no {z : Int} {m : List (List Nat)} {i : Int} {to : Nat} (h : ¬ (goodM z m = true ∧ 0 ≤ i ∧ i < z)) : upM z m i to = m := if_neg h
theorem upM_yes {n i : Nat} {m : List (List Nat)} {to : Nat} (h : goodM (n : Int) m = true) (hi : i < n) : upM (n : Int) m (i : Int) to = m.set i (incL (m.getD i []) to n) := by
  unfold upM
  rw [if_pos ⟨h, by omega, by omega⟩, Int.toNat_natCast, Int.toNat_natCast]
theorem upM_len (z : Int) (m : List (List Nat)) (i : Int) (to : Nat) : (upM z m i to).length = m.length := by
  unfold upM
  split
  · simp
  · rfl
/-- Put together, row by row. -/
def joinM (a b : List (List Nat)) : List (List Nat) := (List.range a.length).map fun i => joinL (a.getD i []) (b.getD i [])
theorem joinM_len (a b : List (List Nat)) : (joinM a b).length = a.length := by simp [joinM]
theorem joinM_at {a b : List (List Nat)} {i : Nat} (ha : i < a.length) (hb : i < b.length) : (joinM a b)[i]'(by rw [joinM_len]; exact ha) = joinL a[i] b[i] := by
  simp [joinM, List.getD, ha, hb]

/-- Where a row lies, its capacity, what it has. -/
structure Rd where
  a : Option Addr
  c : Nat
  l : List Nat
def rdV (r : Rd) : Value := .slice r.a r.l.length r.c
/-- A slice of rows. -/
structure SqV (w : World) (a : Option Addr) (cap : Nat) (L : List Rd) : Prop where
  out : SlV w a cap (L.map rdV)
  each : ∀ r ∈ L, SlAt qV QM w r.a r.c r.l

section
variable {w w' : World} {a : Option Addr} {cap : Nat} {L : List Rd}
theorem SqV.below (h : SqV w a cap L) (hb : Below w.heap.size w w') : SqV w' a cap L := ⟨h.out.below hb, fun r hr => (h.each r hr).below hb⟩
theorem SqV.drewN (h : SqV w a cap L) (q : Nat) : SqV (w.drewN q) a cap L := h.below ⟨rfl, rfl, rfl, Nat.le_refl _, fun _ _ => rfl⟩
theorem SqV.drew (h : SqV w a cap L) : SqV w.drew a cap L := h.below (drew_below w)
theorem SqV.at (h : SqV w a cap L) {i : Nat} (hi : i < L.length) : ∃ b off, a = some ⟨b, off, none⟩ ∧ b < w.heap.size ∧ w.cell? ⟨b, off + i, none⟩ = some (.slice L[i].a L[i].l.length L[i].c) := h.out.at i hi
theorem SqV.fit (h : SqV w a cap L) : L.length ≤ cap := by simpa using h.out.fit
theorem SqV.row (h : SqV w a cap L) {i : Nat} (hi : i < L.length) : SlAt qV QM w L[i].a L[i].c L[i].l := h.each _ (List.getElem_mem _)
theorem SqV.take (h : SqV w a cap L) (k : Nat) : SqV w a cap (L.take k) := ⟨by rw [List.map_take]; exact h.out.take k, fun r hr => h.each r (List.mem_of_mem_take hr)⟩
end
def mOf (L : List Rd) : List (List Nat) := L.map Rd.l
theorem mOf_len (L : List Rd) : (mOf L).length = L.length := List.length_map _
theorem mOf_at {L : List Rd} {i : Nat} (h : i < L.length) : (mOf L)[i]'(by rw [mOf_len]; exact h) = L[i].l := by simp [mOf]
theorem mOf_take (L : List Rd) (k : Nat) : mOf (L.take k) = (mOf L).take k := by simp [mOf, List.map_take]

end Go.Proofs.Ytopnagjbdjicaaa
