import Derived.Test.YtbmpeadoicjpnaaWstrm
import Derived.Test.YtbmpeadoicjpnaaMac
import Derived.Lib.ConvBytes
import Derived.Lib.SmallJoins

/-
  Bodies, and rows of elements of so many cells, in memory.
-/
namespace Go.Proofs.Ytbmpeadoicjpnaa
open Go.RowKit

/-- The bytes of a string. -/
def bsN (s : ByteArray) : List Nat := s.data.toList.map UInt8.toNat
theorem bsN_len (s : ByteArray) : (bsN s).length = s.size := by rw [bsN, List.length_map, Array.length_toList]; rfl
theorem bsN_lt (s : ByteArray) : ∀ x ∈ bsN s, x < 256 := by
  intro x hx
  obtain ⟨b, _, rfl⟩ := List.mem_map.1 hx
  exact b.toNat_lt
theorem strB_bsN (s : ByteArray) : strB (bsN s) = s := by
  have e : (strB (bsN s)).data.toList = s.data.toList := by
    unfold strB
    rw [strOfNums_data, List.map_map]
    unfold bsN
    rw [List.map_map]
    have : ∀ l : List UInt8, l.map (((fun n : Int => UInt8.ofNat n.toNat) ∘ fun (x : Nat) => (x : Int)) ∘ UInt8.toNat) = l := by
      intro l
      induction l with
      | nil => rfl
      | cons x t ih => rw [List.map_cons, ih]; simp
    exact this _
  have e2 : (strB (bsN s)).data = s.data := Array.toList_inj.1 e
  cases h : strB (bsN s)
  rw [h] at e2
  cases s
  simp_all

/-- A body: where it lies, its capacity, its bytes. -/
structure Bd where
  a : Option Addr
  c : Nat
  s : ByteArray
instance : Inhabited Bd := ⟨⟨none, 0, ⟨#[]⟩⟩⟩
def bdV (b : Bd) : Value := .slice b.a b.s.size b.c

/-- It lies so, in blocks that A lets. -/
def BodyV (A : Nat → Prop) (w : World) (b : Bd) : Prop := SlAt bV 256 w b.a b.c (bsN b.s) ∧ ∀ ad, b.a = some ad → bsN b.s ≠ [] → A ad.block

theorem BodyV.carry {A : Nat → Prop} {w w' : World} {b : Bd} (h : BodyV A w b) (hs : w.heap.size ≤ w'.heap.size) (hb : ∀ k, k < w.heap.size → A k → w'.heap[k]? = w.heap[k]?) : BodyV A w' b :=
  ⟨h.1.carry hs (fun ad e h0 l => hb _ l (h.2 ad e h0)), h.2⟩
theorem BodyV.mono {A A' : Nat → Prop} {w : World} {b : Bd} (h : BodyV A w b) (hA : ∀ k, k < w.heap.size → A k → A' k) : BodyV A' w b := by
  refine ⟨h.1, fun ad e h0 => hA _ ?_ (h.2 ad e h0)⟩
  obtain ⟨g, off, e2, hl, _⟩ := h.1.cell 0 (List.length_pos_iff.2 h0)
  rw [e] at e2
  cases e2
  exact hl
theorem BodyV.below {A : Nat → Prop} {w w' : World} {b : Bd} (h : BodyV A w b) (hb : Below w.heap.size w w') : BodyV A w' b := h.carry hb.size (fun k hk _ => hb.block k hk)

/-- A slice of elements of sz cells each: its cells, in blocks that A lets. -/
structure RowV (A : Nat → Prop) (w : World) (a : Option Addr) (cap n sz : Nat) (cs : List Value) : Prop where
  len : cs.length = n * sz
  fit : n ≤ cap
  max : cap ≤ maxLen
  nil : a = none → cap = 0
  cell : ∀ j u, cs[j]? = some u → ∃ b off, a = some ⟨b, off, none⟩ ∧ b < w.heap.size ∧ A b ∧ w.cell? ⟨b, off + j, none⟩ = some u

section
variable {A A' : Nat → Prop} {w w' : World} {a : Option Addr} {cap n sz : Nat} {cs : List Value}
theorem RowV.carry (h : RowV A w a cap n sz cs) (hs : w.heap.size ≤ w'.heap.size) (hb : ∀ k, k < w.heap.size → A k → w'.heap[k]? = w.heap[k]?) : RowV A w' a cap n sz cs :=
  ⟨h.len, h.fit, h.max, h.nil, fun j u hj => by
    obtain ⟨b, off, e, hl, hA, hc⟩ := h.cell j u hj
    exact ⟨b, off, e, Nat.lt_of_lt_of_le hl hs, hA, (World.cell?_of_block (w := w) (a := ⟨b, off + j, none⟩) (hb b hl hA)).trans hc⟩⟩
theorem RowV.below (h : RowV A w a cap n sz cs) (hb : Below w.heap.size w w') : RowV A w' a cap n sz cs := h.carry hb.size (fun k hk _ => hb.block k hk)
theorem RowV.mono (h : RowV A w a cap n sz cs) (hA : ∀ k, k < w.heap.size → A k → A' k) : RowV A' w a cap n sz cs :=
  ⟨h.len, h.fit, h.max, h.nil, fun j u hj => by
    obtain ⟨b, off, e, hl, h1, hc⟩ := h.cell j u hj
    exact ⟨b, off, e, hl, hA b hl h1, hc⟩⟩
theorem RowV.none (A : Nat → Prop) (w : World) (sz : Nat) : RowV A w none 0 0 sz [] := ⟨by simp, Nat.le_refl _, by unfold maxLen; omega, fun _ => rfl, fun j u h => by simp at h⟩
theorem RowV.news (h : RowV A w a cap n sz cs) : ∀ ad, a = some ad → ∀ j u, cs[j]? = some u → w.cell? (ad.add j) = some u := by
  intro ad hd j u hu
  obtain ⟨b, off, e, hl, _, hc⟩ := h.cell j u hu
  rw [hd] at e
  cases e
  rw [Addr.add_lit]
  exact hc
theorem RowV.empty (h : RowV A w a cap n sz cs) : a = Option.none → n = 0 ∧ cap = 0 := by
  intro e
  have := h.nil e
  have := h.fit
  omega
theorem RowV.take (h : RowV A w a cap n sz cs) (k : Nat) (hk : k ≤ n) : RowV A w a cap k sz (cs.take (k * sz)) :=
  ⟨by rw [List.length_take, h.len]; exact Nat.min_eq_left (Nat.mul_le_mul_right _ hk), Nat.le_trans hk h.fit, h.max, h.nil, fun j u hj => by
    rw [List.getElem?_take] at hj
    split at hj
    · exact h.cell j u hj
    · cases hj⟩
theorem RowV.drop (h : RowV A w a cap n sz cs) (k : Nat) (hk : k ≤ n) : RowV A w (if cap = k then a else a.map (·.add (k * sz))) (cap - k) (n - k) sz (cs.drop (k * sz)) := by
  have hf := h.fit
  have hm := h.max
  refine ⟨by rw [List.length_drop, h.len, Nat.sub_mul], by omega, by omega, fun e => ?_, fun j u hj => ?_⟩
  · by_cases h0 : cap = k
    · omega
    · rw [if_neg h0] at e
      have := h.nil (Option.map_eq_none_iff.1 e)
      omega
  · rw [List.getElem?_drop] at hj
    obtain ⟨b, off, e, hl, h1, hc⟩ := h.cell _ u hj
    refine ⟨b, off + k * sz, ?_, hl, h1, ?_⟩
    · have hlt : k * sz + j < n * sz := by have := (List.getElem?_eq_some_iff.1 hj).1; rw [h.len] at this; exact this
      have : cap ≠ k := fun e => by
        have : n = k := by omega
        subst this
        omega
      rw [if_neg this, e]
      simp [Addr.add_lit]
    · rw [Nat.add_assoc]; exact hc
end

/-- What the call itself has made. -/
theorem own_row {w : World} {base sz : Nat} {e : TypeId} {v : Value} {n : Nat} {cs : List Value} (h : w.ownsRow base e sz v n cs) : ∃ a cap, v = .slice a n cap ∧ RowV (fun k => v.ownBlock = some k) w a cap n sz cs := by
  have h2 := h
  rcases h.2 with ⟨rfl, rfl⟩ | ⟨g, cap, cur, rfl, _, hg, h1, h3, _⟩
  · obtain rfl : cs = [] := List.length_eq_zero_iff.1 (by have := h.1; omega)
    exact ⟨Option.none, 0, rfl, RowV.none _ _ _⟩
  · refine ⟨some ⟨g, 0, Option.none⟩, cap, rfl, h.1, h1, h3, fun e => by simp at e, fun j u hj => ⟨g, 0, rfl, (Array.getElem?_eq_some_iff.1 hg).1, rfl, ?_⟩⟩
    have hlt := (List.getElem?_eq_some_iff.1 hj).1
    rw [h.1] at hlt
    rw [Nat.zero_add, h2.cellAt j hlt, hj]

/-- The cells of items: a number, a body. -/
def itC : Nat → List Bd → List Value
  | _, [] => []
  | g, b :: t => .int .u64 ((g + 1 : Nat) : Int) :: bdV b :: itC (g + 1) t
/-- The document's: a number, a string. -/
def itS : Nat → List ByteArray → List Value
  | _, [] => []
  | g, s :: t => .int .u64 ((g + 1 : Nat) : Int) :: .string s :: itS (g + 1) t

theorem itC_len : ∀ (g : Nat) (L : List Bd), (itC g L).length = L.length * 2
  | _, [] => rfl
  | g, b :: t => by rw [itC, List.length_cons, List.length_cons, itC_len, List.length_cons]; omega
theorem itS_len : ∀ (g : Nat) (L : List ByteArray), (itS g L).length = L.length * 2
  | _, [] => rfl
  | g, b :: t => by rw [itS, List.length_cons, List.length_cons, itS_len, List.length_cons]; omega
theorem itC_append : ∀ (g : Nat) (L M : List Bd), itC g (L ++ M) = itC g L ++ itC (g + L.length) M
  | _, [], _ => rfl
  | g, b :: t, M => by
    rw [List.cons_append, itC, itC, itC_append (g + 1) t M, List.length_cons, show g + 1 + t.length = g + (t.length + 1) by omega]
    rfl
theorem itS_append : ∀ (g : Nat) (L M : List ByteArray), itS g (L ++ M) = itS g L ++ itS (g + L.length) M
  | _, [], _ => rfl
  | g, b :: t, M => by
    rw [List.cons_append, itS, itS, itS_append (g + 1) t M, List.length_cons, show g + 1 + t.length = g + (t.length + 1) by omega]
    rfl
theorem itC_drop (k g : Nat) (L : List Bd) (hk : k ≤ L.length) : (itC g L).drop (k * 2) = itC (g + k) (L.drop k) := by
  have h : itC g L = itC g (L.take k) ++ itC (g + k) (L.drop k) := by
    rw [← List.take_append_drop k L, itC_append, List.length_take, Nat.min_eq_left hk, List.take_append_drop]
  rw [h, List.drop_left' (by rw [itC_len, List.length_take, Nat.min_eq_left hk])]
theorem itS_drop (k g : Nat) (L : List ByteArray) (hk : k ≤ L.length) : (itS g L).drop (k * 2) = itS (g + k) (L.drop k) := by
  have h : itS g L = itS g (L.take k) ++ itS (g + k) (L.drop k) := by
    rw [← List.take_append_drop k L, itS_append, List.length_take, Nat.min_eq_left hk, List.take_append_drop]
  rw [h, List.drop_left' (by rw [itS_len, List.length_take, Nat.min_eq_left hk])]
theorem itC_at : ∀ (i g : Nat) (L : List Bd) (hi : i < L.length), (itC g L)[i * 2]? = some (.int .u64 ((g + i + 1 : Nat) : Int)) ∧ (itC g L)[i * 2 + 1]? = some (bdV L[i])
  | 0, g, b :: t, _ => ⟨rfl, rfl⟩
  | i + 1, g, b :: t, hi => by
    have := itC_at i (g + 1) t (by simpa using hi)
    rw [show (i + 1) * 2 = i * 2 + 1 + 1 by omega, itC, List.getElem?_cons_succ, List.getElem?_cons_succ, List.getElem?_cons_succ, List.getElem?_cons_succ, this.1, this.2, show g + 1 + i + 1 = g + (i + 1) + 1 by omega]
    exact ⟨rfl, rfl⟩
theorem itS_at : ∀ (i g : Nat) (L : List ByteArray) (hi : i < L.length), (itS g L)[i * 2]? = some (.int .u64 ((g + i + 1 : Nat) : Int)) ∧ (itS g L)[i * 2 + 1]? = some (.string L[i])
  | 0, g, b :: t, _ => ⟨rfl, rfl⟩
  | i + 1, g, b :: t, hi => by
    have := itS_at i (g + 1) t (by simpa using hi)
    rw [show (i + 1) * 2 = i * 2 + 1 + 1 by omega, itS, List.getElem?_cons_succ, List.getElem?_cons_succ, List.getElem?_cons_succ, List.getElem?_cons_succ, this.1, this.2, show g + 1 + i + 1 = g + (i + 1) + 1 by omega]
    exact ⟨rfl, rfl⟩
theorem itC_one : ∀ (g : Nat) (L : List Bd), ∀ u ∈ itC g L, u.oneCell' = true
  | _, [], _, h => by cases h
  | g, b :: t, u, h => by
    rcases List.mem_cons.1 h with rfl | h
    · rfl
    · rcases List.mem_cons.1 h with rfl | h
      · rfl
      · exact itC_one (g + 1) t u h
theorem itS_one : ∀ (g : Nat) (L : List ByteArray), ∀ u ∈ itS g L, u.oneCell' = true
  | _, [], _, h => by cases h
  | g, b :: t, u, h => by
    rcases List.mem_cons.1 h with rfl | h
    · rfl
    · rcases List.mem_cons.1 h with rfl | h
      · rfl
      · exact itS_one (g + 1) t u h

/-- Items of the program's: a number and a body each. -/
def ItR (A : Nat → Prop) (w : World) (v : Value) (g : Nat) (ss : List ByteArray) : Prop :=
  ∃ a cap L, v = .slice a L.length cap ∧ L.map Bd.s = ss ∧ RowV A w a cap L.length 2 (itC g L) ∧ ∀ b ∈ L, BodyV A w b
/-- Items of the document's. -/
def RtR (A : Nat → Prop) (w : World) (v : Value) (g : Nat) (ss : List ByteArray) : Prop :=
  ∃ a cap, v = .slice a ss.length cap ∧ RowV A w a cap ss.length 2 (itS g ss)

section
variable {A A' : Nat → Prop} {w w' : World} {v : Value} {g : Nat} {ss : List ByteArray}
theorem ItR.carry (h : ItR A w v g ss) (hs : w.heap.size ≤ w'.heap.size) (hb : ∀ k, k < w.heap.size → A k → w'.heap[k]? = w.heap[k]?) : ItR A w' v g ss := by
  obtain ⟨a, cap, L, e, e2, hr, hB⟩ := h
  exact ⟨a, cap, L, e, e2, hr.carry hs hb, fun b hb' => (hB b hb').carry hs hb⟩
theorem ItR.below (h : ItR A w v g ss) (hb : Below w.heap.size w w') : ItR A w' v g ss := h.carry hb.size (fun k hk _ => hb.block k hk)
theorem ItR.mono (h : ItR A w v g ss) (hA : ∀ k, k < w.heap.size → A k → A' k) : ItR A' w v g ss := by
  obtain ⟨a, cap, L, e, e2, hr, hB⟩ := h
  exact ⟨a, cap, L, e, e2, hr.mono hA, fun b hb' => (hB b hb').mono hA⟩
theorem RtR.carry (h : RtR A w v g ss) (hs : w.heap.size ≤ w'.heap.size) (hb : ∀ k, k < w.heap.size → A k → w'.heap[k]? = w.heap[k]?) : RtR A w' v g ss := by
  obtain ⟨a, cap, e, hr⟩ := h
  exact ⟨a, cap, e, hr.carry hs hb⟩
theorem RtR.below (h : RtR A w v g ss) (hb : Below w.heap.size w w') : RtR A w' v g ss := h.carry hb.size (fun k hk _ => hb.block k hk)
theorem RtR.mono (h : RtR A w v g ss) (hA : ∀ k, k < w.heap.size → A k → A' k) : RtR A' w v g ss := by
  obtain ⟨a, cap, e, hr⟩ := h
  exact ⟨a, cap, e, hr.mono hA⟩
end

/-- A string as a body of its own. -/
theorem body_of_string (w : World) (e : TypeId) (s : ByteArray) (hs : grownCap w s.size 0 e ≤ maxLen) : BodyV (fun k => k = w.heap.size) (Lib.bytesWorld w e s) ⟨some ⟨w.heap.size, 0, none⟩, grownCap w s.size 0 e, s⟩ := by
  refine ⟨⟨bsN_lt s, by rw [bsN_len]; exact grownCap_ge _ _ _ _, hs, (fun e => by cases e), fun i hi => ⟨w.heap.size, 0, rfl, by rw [Lib.bytesWorld_size]; omega, ?_⟩⟩, fun ad e _ => by cases e; rfl⟩
  rw [bsN_len] at hi
  rw [Nat.zero_add, Lib.bytesWorld_cell w e s i hi]
  have hi2 : i < s.data.toList.length := by rw [Array.length_toList]; exact hi
  have hi3 : i < s.data.size := hi
  simp only [bV, bsN, List.getElem_map, List.getD_eq_getElem?_getD, List.getElem?_eq_getElem hi2, Option.getD_some]

end Go.Proofs.Ytbmpeadoicjpnaa
