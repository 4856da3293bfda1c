/-
  MatSays: squares told row by row.
-/
import Derived.Test.YtfiamomadicbpaaCjo
import Derived.Test.YtfiamomadicbpaaCjb
import Derived.Test.YtfiamomadicbpaaCups
import Derived.Deep.Cut
import Derived.Deep.CutBlock
import Derived.Deep.CutRange
namespace Go.Proofs.Ytfiamomadicbpaa
open Go.RowKit

theorem heavy_rows {m : List (List Nat)} (h : heavyM m = false) : ∀ r ∈ m, r.length ≤ 10000 := fun r hr => by have := (heavyM_no h).2 r hr; omega
theorem colM_lt {z : Int} {m : List (List Nat)} (h : ∀ r ∈ m, ∀ x ∈ r, x < QM) (j : Int) : ∀ x ∈ colM z m j, x < QM := by
  intro x hx
  unfold colM at hx
  split at hx
  · obtain ⟨r, hr, rfl⟩ := List.mem_map.1 hx
    exact atN_lt (by decide) (h r hr) _
  · cases hx
theorem good_lens {z : Int} {ma mb : List (List Nat)} (h1 : goodM z ma = true) (h2 : goodM z mb = true) : ma.length = mb.length := by
  obtain ⟨k, e, -, -, h3, -⟩ := goodM_is h1
  obtain ⟨k2, e2, -, -, h4, -⟩ := goodM_is h2
  omega
theorem atM_out {n : Nat} {m : List (List Nat)} {i j : Int} (g : goodM (n : Int) m = true) (h : 0 ≤ i → i < n → 0 ≤ j → ¬ j < n) : atM m i j = 0 := by
  obtain ⟨h1, h2, h3, h4⟩ := good_len g
  unfold atM
  by_cases hi : 0 ≤ i
  · rw [if_pos hi]
    by_cases hi2 : i < n
    · by_cases hj : 0 ≤ j
      · obtain ⟨q, rfl⟩ : ∃ q : Nat, j = q := ⟨j.toNat, by omega⟩
        rw [atZ_nat, atN_out (by rw [h4 _ (by omega)]; have := h hi hi2 hj; omega)]
      · exact atZ_neg (by omega)
    · rw [List.getD, List.getElem?_eq_none (by omega)]
      unfold atZ
      split
      · rfl
      · simp [atN]
  · rw [if_neg hi]
theorem both_no {z : Int} {ma mb : List (List Nat)} {ga gb : Bool} (h1 : goodM z ma = ga) (h2 : goodM z mb = gb) (h : (ga && gb) = false) : bothM z ma z mb = false := by
  unfold bothM
  rw [h1, h2, h]; rfl
/-- The first k of a column. -/
def colK (m : List (List Nat)) (j k : Nat) : List Nat := (m.take k).map fun r => atN r j
theorem colK_all {n j : Nat} {m : List (List Nat)} (g : goodM (n : Int) m = true) (hj : j < n) : colK m j n = colM (n : Int) m (j : Int) := by
  unfold colK colM
  rw [if_pos ⟨g, by omega, by omega⟩, Int.toNat_natCast, List.take_of_length_le (by rw [(good_len g).1]; exact Nat.le_refl _)]
theorem colK_more {m : List (List Nat)} {j k : Nat} (h : k < m.length) : (colK m j k).map qV ++ [qV (atN (m.getD k []) j)] = (colK m j (k + 1)).map qV := by
  unfold colK
  rw [List.take_succ_eq_append_getElem h, List.map_append, List.map_append, List.getD, List.getElem?_eq_getElem h]; rfl
/-- Row by row, up to k. -/
def wiK (f : Bool) (ma mb : List (List Nat)) (k : Nat) : Bool := f && (List.range k).all fun i => wiB (ma.getD i []) (mb.getD i [])
theorem wiK_more (f : Bool) (ma mb : List (List Nat)) (k : Nat) : wiK f ma mb (k + 1) = (wiK f ma mb k && wiB (ma.getD k []) (mb.getD k [])) := by
  unfold wiK
  rw [List.range_succ, List.all_append, Bool.and_assoc]
  simp
theorem wiK_all {n : Nat} {ma mb : List (List Nat)} {f : Bool} (ga : goodM (n : Int) ma = true) (gb : goodM (n : Int) mb = f) : wiM (n : Int) ma (n : Int) mb = wiK f ma mb n := by
  unfold wiM bothM wiK
  rw [ga, gb, decide_eq_true rfl, (good_len ga).1, Bool.true_and, Bool.and_true]
theorem wi_cmp {a b : List Nat} : (cmpZ a b = 0 ∧ wiB a b = true) ∨ (cmpZ a b = -1 ∧ wiB a b = true) ∨ (cmpZ a b ≠ 0 ∧ cmpZ a b ≠ -1 ∧ wiB a b = false) := by
  unfold cmpZ
  cases wiB a b <;> cases wiB b a
  · exact Or.inr (Or.inr ⟨by decide, by decide, rfl⟩)
  · exact Or.inr (Or.inr ⟨by decide, by decide, rfl⟩)
  · exact Or.inr (Or.inl ⟨rfl, rfl⟩)
  · exact Or.inl ⟨rfl, rfl⟩

/-- What stands while the columns are gone through. -/
structure StS (W : World) (px py : Nat) (z : Int) (a2 : Option Addr) (c2 : Nat) (a3 : Option Addr) (c3 : Nat) (ao0 : Option Addr) (c0 : Nat) (ao1 : Option Addr) (c1 n m : Nat) (ma mb : List (List Nat)) (wo : World) : Prop where
  x : ∃ A, MtV A wo px z a2 c2 n ma
  y : ∃ A, MtV A wo py z a3 c3 m mb
  p : SqAt (fun _ => True) wo ao0 c0 n ma
  q : SqAt (fun _ => True) wo ao1 c1 m mb
  b : Below W.heap.size W wo
theorem StS.below {W : World} {px py : Nat} {z : Int} {a2 : Option Addr} {c2 : Nat} {a3 : Option Addr} {c3 : Nat} {ao0 : Option Addr} {c0 : Nat} {ao1 : Option Addr} {c1 n m : Nat} {ma mb : List (List Nat)} {wo w' : World} (h : StS W px py z a2 c2 a3 c3 ao0 c0 ao1 c1 n m ma mb wo) (hb : Below wo.heap.size wo w') : StS W px py z a2 c2 a3 c3 ao0 c0 ao1 c1 n m ma mb w' :=
  ⟨h.x.elim fun A h => ⟨A, h.below hb⟩, h.y.elim fun A h => ⟨A, h.below hb⟩, h.p.below hb, h.q.below hb, h.b.trans (hb.mono h.b.size)⟩

end Go.Proofs.Ytfiamomadicbpaa
