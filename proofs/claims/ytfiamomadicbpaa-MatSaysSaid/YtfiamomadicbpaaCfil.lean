/-
  A square under way in a variable.
-/
import Derived.Test.YtfiamomadicbpaaCpar
import Derived.Test.YtfiamomadicbpaaCgp
namespace Go.Proofs.Ytfiamomadicbpaa
open Go.RowKit

/-- U: the world ahead; p: the variable's block. -/
structure FillV (U wr : World) (p : Nat) (z : Int) (s : Value) (K M : List Rd) : Prop where
  sq : ParSq 39 U.heap.size wr s K M
  c : Cel 2 wr p (mkC z s)
  off : OffP p s K
  hp : U.heap.size ≤ p
  b : Below U.heap.size U wr

theorem FillV.drew {U wr : World} {p : Nat} {z : Int} {s : Value} {K M : List Rd} (h : FillV U wr p z s K M) : FillV U wr.drew p z s K M :=
  ⟨h.sq.below (drew_below _), h.c.drew, h.off, h.hp, h.b.trans ((drew_below wr).mono h.b.size)⟩
theorem FillV.next {U wr w1 : World} {p : Nat} {z : Int} {s : Value} {K M : List Rd} {x : Rd} {a : Option Addr} {c : Nat} {xs : List Nat} (h : FillV U wr p z s K (x :: M)) (h1 : Below wr.heap.size wr w1) (hr : w1.ownsRow wr.heap.size 30 1 (.slice a xs.length c) xs.length (xs.map qV)) (hx : ∀ x ∈ xs, x < QM) :
    ∃ g cap, s = .slice (some ⟨g, 0, none⟩) (K.length + (M.length + 1)) cap ∧ w1.cell? ⟨g, K.length, none⟩ = some (rdV x) ∧ w1.frozen? ⟨g, K.length, none⟩ = false ∧ w1.cell? ⟨p, 1, none⟩ = some s ∧
      FillV U (w1.setCell ⟨g, K.length, none⟩ (.slice a xs.length c)) p z s (K ++ [⟨a, c, xs⟩]) M := by
  obtain ⟨g, cap, e, hB, hg, hc, hf, hP⟩ := h.sq.next h1 hr h.b.size hx
  have hpg : p ≠ g := fun e2 => h.off.1 (by rw [e, e2]; rfl)
  refine ⟨g, cap, e, hc, hf, (h.c.below h1).c 1 (by decide), hP, ?_, h.off.more hr h.c.lt, h.hp, ?_⟩
  · exact (h.c.below h1).keep (F := fun j => j = g) ((Keep.refl _ _).put _ _) hpg
  · exact (h.b.trans (h1.mono h.b.size)).setCell hB _
theorem own_sqR {T : TypeId} {W w' : World} {a : Option Addr} {cap n : Nat} {L : List Rd} {m : List (List Nat)} (h : OwnSq T W.heap.size w' (.slice a n cap) L) (hl : L.length = n) (hm : mOf L = m) (hb : Below W.heap.size W w') : SqR (fun _ => False) W n m a cap w' := by
  have h1 : NewSq T W m n (.returned (.slice a n cap)) w' := ⟨_, L, rfl, hm, hl, h, hb⟩
  obtain ⟨a2, c2, e, h2⟩ := h1.sq
  cases e
  exact h2
/-- It is returned: laid into the result's block t. -/
theorem FillV.fin {W U wr : World} {p t n : Nat} {z : Int} {a : Option Addr} {cap : Nat} {K : List Rd} {V : Nat → Value} {m : List (List Nat)} (h : FillV U wr p z (.slice a n cap) K []) (hl : K.length = n) (hm : mOf K = m) (ht : Cel 2 U t V) (hW : Below W.heap.size W U) (hWt : W.heap.size ≤ t) :
    (wr.cell? ⟨t, 0, none⟩ = some (V 0) ∧ wr.cell? ⟨t, 1, none⟩ = some (V 1) ∧ wr.frozen? ⟨t, 0, none⟩ = false ∧ wr.frozen? ⟨t, 1, none⟩ = false ∧ wr.cell? ⟨p, 0, none⟩ = some (.int .i64 z) ∧ wr.cell? ⟨p, 1, none⟩ = some (.slice a n cap)) ∧
    ((wr.setCell ⟨t, 0, none⟩ (.int .i64 z)).setCell ⟨t, 1, none⟩ (.slice a n cap)).cell? ⟨t, 0, none⟩ = some (.int .i64 z) ∧
    ((wr.setCell ⟨t, 0, none⟩ (.int .i64 z)).setCell ⟨t, 1, none⟩ (.slice a n cap)).cell? ⟨t, 1, none⟩ = some (.slice a n cap) ∧
    SqR (fun _ => False) W n m a cap ((wr.setCell ⟨t, 0, none⟩ (.int .i64 z)).setCell ⟨t, 1, none⟩ (.slice a n cap)) := by
  have T1 : Cel 2 wr t V := ht.below h.b
  have T2 := (T1.put 0 (.int .i64 z)).put 1 (.slice a n cap)
  have o := h.sq.done
  have f1 : OffP t (.slice a n cap) K := o.off (Or.inl ht.lt)
  have o2 := (o.put_off f1 0 (.int .i64 z)).put_off f1 1 (.slice a n cap)
  exact ⟨⟨T1.c 0 (by decide), T1.c 1 (by decide), T1.fz 0, T1.fz 1, h.c.c 0 (by decide), h.c.c 1 (by decide)⟩, T2.c 0 (by decide), T2.c 1 (by decide), own_sqR (o2.mono hW.size) hl hm (((hW.trans (h.b.mono hW.size)).setCell hWt _).setCell hWt _)⟩

end Go.Proofs.Ytfiamomadicbpaa
