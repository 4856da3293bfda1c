/-
  Texts of this claim, put together.
-/
import Derived.Test.YtbmpeadoicjpnaaIfdm
import Derived.Test.YtbmpeadoicjpnaaMad

/-
  The document's JoinLog, as plain data: what one round puts in.
-/
namespace Go.Proofs.Ytbmpeadoicjpnaa
open Go.RowKit

theorem findK_is {l : List Le} {x : Le} : ∀ m, (∃ j, j < m ∧ findK l x m = (j : Int) ∧ Same x (l.getD j default)) ∨ (findK l x m = -1 ∧ ∀ j, j < m → ¬ Same x (l.getD j default))
  | 0 => Or.inr ⟨rfl, fun j hj => by omega⟩
  | m + 1 => by
    unfold findK
    by_cases h : (l.getD m default).f = x.f ∧ (l.getD m default).n = x.n
    · rw [if_pos h]
      exact Or.inl ⟨m, by omega, rfl, h⟩
    · rw [if_neg h]
      rcases findK_is (l := l) (x := x) m with ⟨j, hj, e, hs⟩ | ⟨e, hs⟩
      · exact Or.inl ⟨j, by omega, e, hs⟩
      · refine Or.inr ⟨e, fun j hj hs2 => ?_⟩
        rcases Nat.lt_or_ge j m with h1 | h1
        · exact hs j h1 hs2
        · obtain rfl : j = m := by omega
          exact h hs2
/-- What find answers, and what stands there. -/
theorem findK_some {l : List Le} {x : Le} (hr : Rise l) (n : Nat) (hn : l.length = n) : (∃ j, j < n ∧ findK l x n = (j : Int) ∧ findX l x = some (l.getD j default)) ∨ (findK l x n = -1 ∧ findX l x = none) := by
  subst hn
  rcases findK_is (l := l) (x := x) l.length with ⟨j, hj, e, hs⟩ | ⟨e, hs⟩
  · exact Or.inl ⟨j, hj, e, find_is hr (by rw [List.getD, List.getElem?_eq_getElem hj]; exact List.getElem_mem _) hs⟩
  · refine Or.inr ⟨e, ?_⟩
    cases h : findX l x with
    | none => rfl
    | some y =>
      obtain ⟨h1, h2⟩ := find_some h
      obtain ⟨j, hj, rfl⟩ := List.mem_iff_getElem.1 h1
      exact absurd (by rw [List.getD, List.getElem?_eq_getElem hj]; exact h2) (hs j hj)
theorem foldL_next (f : Le → Option Le) (r : List Le) {l : List Le} {k : Nat} (hk : k < l.length) : foldL r ((l.take (k + 1)).map f) = match f (l.getD k default) with | some x => addL (foldL r ((l.take k).map f)) x | none => foldL r ((l.take k).map f) := by
  have e : l.getD k default = l[k] := by rw [List.getD, List.getElem?_eq_getElem hk]; rfl
  unfold foldL
  rw [List.take_succ_eq_append_getElem hk, List.map_append, List.foldl_append, e]
  rfl
theorem addL_len (l : List Le) (x : Le) : (addL l x).length ≤ l.length + 1 := by
  by_cases h : goodL l = true ∧ goodX x = true
  · rw [addL_yes h.1 h.2]
    have h3 : ∀ m : List Le, (m.filter (aheadX · x)).length + (m.filter (aheadX x ·)).length ≤ m.length := by
      intro m
      induction m with
      | nil => simp
      | cons y m ih =>
        rw [List.filter_cons, List.filter_cons]
        by_cases h1 : aheadX y x = true
        · rw [if_pos h1, if_neg (by rw [ahead_asym h1]; decide), List.length_cons, List.length_cons]
          omega
        · rw [if_neg h1]
          split <;> simp only [List.length_cons] <;> omega
    have := h3 l
    simp only [List.length_append, List.length_cons]
    omega
  · rw [addL_no h]
    omega
theorem fold_len : ∀ (r : List Le) (l : List (Option Le)), (foldL r l).length ≤ r.length + l.length
  | r, [] => by simp [foldL]
  | r, none :: l => by
    have := fold_len r l
    show (foldL r l).length ≤ _
    rw [List.length_cons]; omega
  | r, some x :: l => by
    have := fold_len (addL r x) l
    have h2 := addL_len r x
    show (foldL (addL r x) l).length ≤ _
    rw [List.length_cons]; omega
theorem ownX_none {heard : List Le} {x : Le} (h : findX heard x = none) : ownX heard x = if moreX heard x = true then none else some x := by unfold ownX; rw [h]
theorem ownX_some {heard : List Le} {x y : Le} (h : findX heard x = some y) : ownX heard x = some ⟨x.f, x.n, x.t &&& y.t⟩ := by unfold ownX; rw [h]
theorem heardX_some {own : List Le} {x y : Le} (h : findX own x = some y) : heardX own x = none := by unfold heardX; rw [h]; rfl
theorem heardX_none {own : List Le} {x : Le} (h : findX own x = none) : heardX own x = if moreX own x = true then none else some x := by unfold heardX; rw [h]; rfl
/-- What stands while both are gone through. -/
def RjS (W wr : World) (R : List Le) (s : Value) : Prop := ∃ a n c, s = .slice a n c ∧ LgAt (fun _ => True) wr a c n R ∧ Below W.heap.size W wr
theorem RjS.below {W w w' : World} {R : List Le} {s : Value} (h : RjS W w R s) (hb : Below w.heap.size w w') : RjS W w' R s := by
  obtain ⟨a, n, c, e, hL, hB⟩ := h
  exact ⟨a, n, c, e, hL.below hb, hB.trans (hb.mono hB.size)⟩
def RjPost (W : World) (m : List Le) (e : Ending) (w' : World) : Prop := ∃ a c, e = .returned (.slice a m.length c) ∧ LgAt (fun _ => True) w' a c m.length m ∧ Below W.heap.size W w'

end Go.Proofs.Ytbmpeadoicjpnaa

/-
  shoalref15.AddLog: what lies in memory while it goes on.
-/
namespace Go.Proofs.Ytbmpeadoicjpnaa
open Go.RowKit

/-- U: the world with the boxed entry. -/
structure AdS (A : Nat → Prop) (W U w : World) (x : Le) (a : Option Addr) (cap n : Nat) (l : List Le) (ra : Option Addr) (rc rn : Nat) (R : List Le) : Prop where
  x : Cel 3 w W.heap.size (xcE x)
  l : LgAt (fun k => A k ∧ k < U.heap.size) w a cap n l
  r : LgAt (fun k => A k ∧ k < U.heap.size) w ra rc rn R
  b : Below W.heap.size W w
  u : U.heap.size ≤ w.heap.size
  hU : W.heap.size < U.heap.size
section
variable {A : Nat → Prop} {W U w w' : World} {x : Le} {a ra : Option Addr} {cap n rc rn : Nat} {l R : List Le}
theorem AdS.keep {G : Nat → Prop} (h : AdS A W U w x a cap n l ra rc rn R) (hk : Keep G w w') (hG : ∀ k, G k → U.heap.size ≤ k) : AdS A W U w' x a cap n l ra rc rn R := by
  have h1 := h.hU
  have hA : ∀ k, A k ∧ k < U.heap.size → ¬ G k := fun k hk2 g => by have := hG k g; omega
  exact ⟨h.x.keep hk (fun g => by have := hG _ g; omega), h.l.keep hk hA, h.r.keep hk hA, h.b.trans (hk.below h.b.size (fun k g => by have := hG k g; omega)), Nat.le_trans h.u hk.size, h.hU⟩
theorem AdS.below (h : AdS A W U w x a cap n l ra rc rn R) (hb : Below w.heap.size w w') : AdS A W U w' x a cap n l ra rc rn R := h.keep (Keep.ofBelow (F := fun _ => False) hb) (fun _ h => h.elim)
theorem AdS.rest {ra' : Option Addr} {rc' rn' : Nat} {R' : List Le} (h : AdS A W U w x a cap n l ra rc rn R) (hr : LgAt (fun k => A k ∧ k < U.heap.size) w ra' rc' rn' R') : AdS A W U w x a cap n l ra' rc' rn' R' := ⟨h.x, h.l, hr, h.b, h.u, h.hU⟩
end
theorem keep_own {w w' : World} {v : Value} (h : w.grownBy w' v.ownBlock) : Keep (fun j => v.ownBlock = some j) w w' := (Keep.refl (fun j => v.ownBlock = some j) w).grown h (fun _ h => Or.inl h)
theorem empty_row (w : World) {B : Nat} (T : TypeId) (hB : B ≤ w.heap.size) : (w.alloc (.cells #[] T)).ownsRow B T 3 (.slice (some ⟨w.heap.size, 0, none⟩) 0 0) 0 [] :=
  World.ownsRow_lit (base := B) (e := T) (size := 3) w #[] 0 hB (by unfold maxLen; omega) rfl
theorem lit_ent (w : World) (x : Le) (T : TypeId) (hx : OkX x) : LgAt (fun k => k = w.heap.size) (w.alloc (.cells #[.int .i64 x.f, .int .u64 (x.n : Int), .int .u64 (x.t : Int)] T)) (some ⟨w.heap.size, 0, none⟩) 1 1 [x] := by
  refine ⟨⟨rfl, Nat.le_refl _, by unfold maxLen; omega, (fun e => by cases e), fun j u hj => ⟨w.heap.size, 0, rfl, by simp, rfl, ?_⟩⟩, rfl, by simpa using hx⟩
  have := ent_cells w x T ⟨w.heap.size, 0, none⟩ rfl j u (by simpa [lgC] using hj)
  rw [Addr.add_lit] at this
  exact this

end Go.Proofs.Ytbmpeadoicjpnaa
