/-
  Squares of counts, told by what they have; what the calls of mat tell.
-/
import Derived.Test.YtfiamomadicbpaaCmt
import Derived.Test.YtfiamomadicbpaaCru
import Derived.Test.YtfiamomadicbpaaCrj
namespace Go.Proofs.Ytfiamomadicbpaa
open Go.RowKit

/-- A slice of rows that has m; what it has lies in blocks that A lets. -/
def SqAt (A : Nat → Prop) (w : World) (a : Option Addr) (cap n : Nat) (m : List (List Nat)) : Prop :=
  ∃ L, mOf L = m ∧ L.length = n ∧ SqV w a cap L ∧ (∀ ad, a = some ad → n ≠ 0 → A ad.block) ∧ ∀ r ∈ L, ∀ ad, r.a = some ad → r.l ≠ [] → A ad.block
section
variable {A A' : Nat → Prop} {w w' : World} {a : Option Addr} {cap n : Nat} {m : List (List Nat)}
theorem SqAt.below (h : SqAt A w a cap n m) (hb : Below w.heap.size w w') : SqAt A w' a cap n m := by
  obtain ⟨L, e, l, s, x, y⟩ := h
  exact ⟨L, e, l, s.below hb, x, y⟩
theorem SqAt.mono (h : SqAt A w a cap n m) (hA : ∀ k, k < w.heap.size → A k → A' k) : SqAt A' w a cap n m := by
  obtain ⟨L, e, l, s, x, y⟩ := h
  refine ⟨L, e, l, s, fun ad ea hn => ?_, fun r hr ad ea hne => ?_⟩
  · obtain ⟨b, off, e2, hb, -⟩ := s.at (i := 0) (by omega)
    rw [ea] at e2
    cases e2
    exact hA _ hb (x _ ea hn)
  · have hl : 0 < r.l.length := List.length_pos_iff.2 hne
    obtain ⟨b, off, e2, hb, -⟩ := (s.each r hr).cell 0 hl
    rw [ea] at e2
    cases e2
    exact hA _ hb (y r hr _ ea hne)
theorem SqAt.drewN (h : SqAt A w a cap n m) (q : Nat) : SqAt A (w.drewN q) a cap n m := h.below ⟨rfl, rfl, rfl, Nat.le_refl _, fun _ _ => rfl⟩
theorem SqAt.put (h : SqAt A w a cap n m) {q : Nat} (hq : ¬ A q) (o : Nat) (v : Value) : SqAt A (w.setCell ⟨q, o, none⟩ v) a cap n m := by
  obtain ⟨L, e, l, s, x, y⟩ := h
  have hs : w.heap.size ≤ (w.setCell ⟨q, o, none⟩ v).heap.size := by simp [World.setCell]
  refine ⟨L, e, l, ⟨s.out.carry hs fun ad ea hne _ => Below.heap_setCell _ _ _ _ (fun e2 => hq (by have := x ad ea (fun h0 => hne (by rw [List.length_eq_zero_iff.1 (l.trans h0)]; rfl)); rw [e2] at this; exact this)), fun r hr => (s.each r hr).carry hs fun ad ea hne _ => Below.heap_setCell _ _ _ _ (fun e2 => hq (by have := y r hr ad ea hne; rw [e2] at this; exact this))⟩, x, y⟩
theorem SqAt.len (h : SqAt A w a cap n m) : m.length = n := by
  obtain ⟨L, e, l, s, -⟩ := h
  rw [← e, mOf_len, l]
theorem SqAt.fit (h : SqAt A w a cap n m) : n ≤ cap ∧ cap ≤ maxLen := by
  obtain ⟨L, e, l, s, -⟩ := h
  exact ⟨by rw [← l]; exact s.fit, s.out.max⟩
theorem SqAt.lt (h : SqAt A w a cap n m) : ∀ r ∈ m, ∀ x ∈ r, x < QM := by
  obtain ⟨L, e, l, s, -⟩ := h
  subst e
  intro r hr
  obtain ⟨x, hx, rfl⟩ := List.mem_map.1 hr
  exact (s.each x hx).lt
/-- A row of it. -/
theorem SqAt.row (h : SqAt A w a cap n m) {i : Nat} (hi : i < n) : ∃ b off ra rc, a = some ⟨b, off, none⟩ ∧ w.cell? ⟨b, off + i, none⟩ = some (.slice ra (m.getD i []).length rc) ∧ SlAt qV QM w ra rc (m.getD i []) := by
  obtain ⟨L, e, l, s, -⟩ := h
  subst e
  have hL : i < L.length := by omega
  obtain ⟨b, off, ea, -, hc⟩ := s.at hL
  have em : (mOf L).getD i [] = L[i].l := by rw [List.getD, List.getElem?_eq_getElem (by rw [mOf_len]; exact hL), mOf_at hL]; rfl
  rw [em]
  exact ⟨b, off, L[i].a, L[i].c, ea, hc, s.row hL⟩
theorem SqAt.of {L : List Rd} (s : SqV w a cap L) (l : L.length = n) : SqAt (fun _ => True) w a cap n (mOf L) := ⟨L, rfl, l, s, fun _ _ _ => trivial, fun _ _ _ _ _ => trivial⟩
theorem SqAt.nil (w : World) : SqAt A w none 0 0 [] := ⟨[], rfl, rfl, ⟨SlV.none _, by simp⟩, (fun _ e => by cases e), by simp⟩

/-- A square in a variable: its block. -/
structure MtV (A : Nat → Prop) (w : World) (p : Nat) (z : Int) (a : Option Addr) (cap n : Nat) (m : List (List Nat)) : Prop where
  c : Cel 2 w p (mkC z (.slice a n cap))
  s : SqAt A w a cap n m
variable {p : Nat} {z : Int}
theorem MtV.below (h : MtV A w p z a cap n m) (hb : Below w.heap.size w w') : MtV A w' p z a cap n m := ⟨h.c.below hb, h.s.below hb⟩
theorem MtV.c0 (h : MtV A w p z a cap n m) : w.cell? ⟨p, 0, none⟩ = some (.int .i64 z) := h.c.c 0 (by decide)
theorem MtV.c1 (h : MtV A w p z a cap n m) : w.cell? ⟨p, 1, none⟩ = some (.slice a n cap) := h.c.c 1 (by decide)
theorem MtV.new (h : SqAt A w a cap n m) (t : TypeId) : MtV A (w.alloc (.cells #[.int .i64 z, .slice a n cap] t)) w.heap.size z a cap n m :=
  ⟨(Cel.new w [.int .i64 z, .slice a n cap] t).conv (fun o ho => by rcases (show o = 0 ∨ o = 1 by simp at ho; omega) with rfl | rfl <;> rfl), h.below (below_alloc (Below.refl _ _) _)⟩
/-- Another square is stored there. -/
theorem MtV.store {z2 : Int} {V : Nat → Value} {q : Nat} (hc : Cel 2 w q V) (h : SqAt A w a cap n m) (hq : ¬ A q) : MtV A ((w.setCell ⟨q, 0, none⟩ (.int .i64 z2)).setCell ⟨q, 1, none⟩ (.slice a n cap)) q z2 a cap n m :=
  ⟨((hc.put 0 _).put 1 _).conv (fun o ho => by
    unfold updc mkC
    rcases (show o = 0 ∨ o = 1 by omega) with rfl | rfl <;> rfl), (h.put hq 0 _).put hq 1 _⟩
end

/-- What is made by a call lies in new memory or in what A lets. -/
def NewA (W : World) (A : Nat → Prop) : Nat → Prop := fun k => A k ∨ W.heap.size ≤ k
/-- A slice of rows that a call gives. -/
def SqR (A : Nat → Prop) (W : World) (n : Nat) (m : List (List Nat)) (a : Option Addr) (cap : Nat) (w' : World) : Prop := SqAt (NewA W A) w' a cap n m ∧ Below W.heap.size W w'

/-! The calls of the laws and the document's own, so told. -/
section
variable {A B : Nat → Prop} {W : World} {a a1 a2 : Option Addr} {cap c1 c2 n n1 n2 : Nat} {m m1 m2 : List (List Nat)} {z : Int}
theorem heavy_at (h : SqAt A W a cap n m) {r : Bool} (hr : heavyM m = r) :
    Calls Try.prog 19 #[.slice a n cap] W fun e w' => e = .returned (.bool r) ∧ W = w' := by
  obtain ⟨L, rfl, l, s, -⟩ := h
  exact heavy_any s l hr
theorem rgood_at (h : SqAt A W a cap n m) {r : Bool} (hr : goodM z m = r) :
    Calls Try.prog 21 #[.int .i64 z, .slice a n cap] W fun e w' => e = .returned (.bool r) ∧ W = w' := by
  obtain ⟨L, rfl, l, s, -⟩ := h
  exact rgood_any s l hr
theorem squares_at (h1 : SqAt A W a1 c1 n1 m1) (h2 : SqAt B W a2 c2 n2 m2) {r : Bool} (hr : decide (m1 = m2) = r) :
    Calls Try.prog 12 #[.slice a1 n1 c1, .slice a2 n2 c2] W fun e w' => e = .returned (.bool r) ∧ ∃ q, w' = W.drewN q := by
  obtain ⟨L, rfl, l, s, -⟩ := h1
  obtain ⟨M, rfl, l2, s2, -⟩ := h2
  exact squares_any s s2 l l2 hr
theorem SameR.sq {W w' : World} {L : List Rd} {a a' : Option Addr} {cap cap' n : Nat} (h : SameR W L a cap w') (s : SqV W a' cap' L) (l : L.length = n) (y : ∀ r ∈ L, ∀ ad, r.a = some ad → r.l ≠ [] → A ad.block) : SqR A W n (mOf L) a cap w' :=
  ⟨⟨L, rfl, l, ⟨h.1, fun r hr => (s.each r hr).below h.2.1⟩, fun ad e _ => Or.inr (h.2.2 ad e), fun r hr ad e hne => Or.inl (y r hr ad e hne)⟩, h.2.1⟩
theorem rows_at (z : Int) (h : SqAt A W a cap n m) (hl : n ≤ 100000) :
    Calls Try.prog 13 #[.agg #[.int .i64 z, .slice a n cap]] W fun e w' => ∃ a' cap', e = .returned (.slice a' n cap') ∧ SqR A W n m a' cap' w' := by
  obtain ⟨L, rfl, l, s, -, y⟩ := h
  exact (rows_any z s.out l hl).mono fun e w ⟨a', c', e1, e2⟩ => ⟨a', c', e1, e2.sq s l y⟩
theorem mat1_at (z : Int) (h : SqAt A W a cap n m) (hl : n ≤ 100000) :
    Calls Try.prog 20 #[.int .i64 z, .slice a n cap] W fun e w' => ∃ a' cap', e = .returned (.agg #[.int .i64 z, .slice a' n cap']) ∧ SqR A W n m a' cap' w' := by
  obtain ⟨L, rfl, l, s, -, y⟩ := h
  exact (mat1_any z s.out l hl).mono fun e w ⟨a', c', e1, e2⟩ => ⟨a', c', e1, e2.sq s l y⟩
theorem NewSq.sq {T : TypeId} {w' : World} {e : Ending} (h : NewSq T W m n e w') : ∃ a' cap', e = .returned (.slice a' n cap') ∧ SqR (fun _ => False) W n m a' cap' w' := by
  obtain ⟨s, L, rfl, hm, hl, hO, hb⟩ := h
  obtain ⟨a, cap, rfl, hs, hl2⟩ := hO.sq
  rw [hl]
  refine ⟨a, cap, rfl, ⟨L, hm, hl, hs, fun ad e _ => Or.inr (hl2 ad e), fun r hr ad e hne => Or.inr ?_⟩, hb⟩
  exact ((hO.row r hr).lt ad.block (by unfold rdV; rw [e]; rfl)).1
theorem small_of {L : List Rd} (h : heavyM (mOf L) = false) : L.length ≤ 10000 ∧ ∀ r ∈ L, r.l.length ≤ 10000 := by
  obtain ⟨h1, h2⟩ := heavyM_no h
  rw [mOf_len] at h1
  exact ⟨by omega, fun r hr => by have := h2 r.l (List.mem_map.2 ⟨r, hr, rfl⟩); omega⟩
theorem rupm_at {to : Nat} {i : Int} (h : SqAt A W a cap n m) (hh : heavyM m = false) (hto : to < 18446744073709551616) :
    Calls Try.prog 22 #[.int .i64 z, .slice a n cap, .int .i64 i, .int .u64 (to : Int)] W fun e w' => ∃ a' cap', e = .returned (.slice a' n cap') ∧ SqR (fun _ => False) W n (upM z m i to) a' cap' w' := by
  obtain ⟨L, rfl, l, s, -⟩ := h
  obtain ⟨h1, h2⟩ := small_of hh
  exact (rupm_any s l (by omega) h2 hto).mono fun e w h => h.sq
theorem rjoinm_at (h1 : SqAt A W a1 c1 n1 m1) (h2 : SqAt B W a2 c2 n2 m2) (hnk : n1 ≤ n2) (hh1 : heavyM m1 = false) (hh2 : heavyM m2 = false) :
    Calls Try.prog 23 #[.slice a1 n1 c1, .slice a2 n2 c2] W fun e w' => ∃ a' cap', e = .returned (.slice a' n1 cap') ∧ SqR (fun _ => False) W n1 (joinM m1 m2) a' cap' w' := by
  obtain ⟨L, rfl, l, s, -⟩ := h1
  obtain ⟨M, rfl, l2, s2, -⟩ := h2
  obtain ⟨g1, g2⟩ := small_of hh1
  obtain ⟨g3, g4⟩ := small_of hh2
  exact (rjoinm_any s s2 l l2 hnk (by omega) g2 g4).mono fun e w h => h.sq
end

/-! What the calls of mat tell. -/
def atM (m : List (List Nat)) (i j : Int) : Nat := if 0 ≤ i then atZ (m.getD i.toNat []) j else 0
def colM (z : Int) (m : List (List Nat)) (j : Int) : List Nat := if goodM z m = true ∧ 0 ≤ j ∧ j < z then m.map fun r => atN r j.toNat else []
def bothM (z1 : Int) (m1 : List (List Nat)) (z2 : Int) (m2 : List (List Nat)) : Bool := goodM z1 m1 && goodM z2 m2 && decide (z1 = z2)
def wiM (z1 : Int) (m1 : List (List Nat)) (z2 : Int) (m2 : List (List Nat)) : Bool := bothM z1 m1 z2 m2 && (List.range m1.length).all fun i => wiB (m1.getD i []) (m2.getD i [])
def zerosM (n : Nat) : List (List Nat) := List.replicate n (List.replicate n 0)

end Go.Proofs.Ytfiamomadicbpaa
