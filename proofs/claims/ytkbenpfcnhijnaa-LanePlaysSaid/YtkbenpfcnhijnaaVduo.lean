/-
  The program's lane and the document's, apart; an act beside them.
-/
import Derived.Test.YtkbenpfcnhijnaaVact
import Derived.Test.YtkbenpfcnhijnaaVrmov
import Derived.Test.YtkbenpfcnhijnaaVrdbl
namespace Go.Proofs.Ytkbenpfcnhijnaa
open Go.RowKit

/-- Two lanes of one state, apart; all below N as it was. -/
def Two2 (W : World) (N p r : Nat) (S : St Int) (w : World) : Prop :=
  ∃ F G, LnAt iV 3 w N p F S ∧ LnAt iV 3 w N r G S ∧ (∀ k, F k → ¬ G k) ∧ Below N W w

/-- Two lanes apart, and an act in a block of its own. -/
def Duo (W : World) (N p r b : Nat) (x : Ac) (S T : St Int) (w : World) : Prop :=
  ∃ F G, LnAt iV 3 w N p F S ∧ LnAt iV 3 w N r G T ∧ (∀ k, F k → ¬ G k) ∧ Below N W w ∧ (¬ F b ∧ ¬ G b ∧ b < w.heap.size) ∧
    w.cell? ⟨b, 0, none⟩ = some (.int .i64 x.op) ∧ w.cell? ⟨b, 1, none⟩ = some (.int .i64 x.k) ∧ w.cell? ⟨b, 2, none⟩ = some (.int .i64 x.v)

section
variable {W : World} {N p : Nat} {F : Nat → Prop} {S : St Int}
theorem lr_send {x : Int} (hA : LnAt iV 3 W N p F S) (hn : S.s ≤ 5000) :
    Calls Try.prog 17 #[.pointer (some ⟨p, 0, none⟩), .int .i64 x] W
      (LnPost iV 3 W N p F (S.send x) (.bool (decide (S.l.length < 4096)))) := by
  by_cases h : S.l.length < 4096
  · have e1 : S.send x = ⟨S.l ++ [x], S.s + 1, S.t, S.d, S.m⟩ := if_pos h
    rw [e1, decide_eq_true h]
    exact lr_send_ok hA (decide_eq_true h) hn
  · have e1 : S.send x = S := if_neg h
    rw [e1, decide_eq_false h]
    refine (lr_send_no hA (decide_eq_false h)).mono ?_
    rintro e w' ⟨rfl, rfl⟩
    exact ⟨rfl, F, hA, Keep.refl _ _, fun _ f => Or.inl f⟩
end

section
variable {W w w' : World} {N p r b : Nat} {x : Ac} {S T S1 T1 : St Int}

theorem Two2.be (h : Two2 W N p r S w) : Below N W w := h.elim fun _ h => h.elim fun _ h => h.2.2.2
theorem Two2.below (h : Two2 W N p r S w) (hb : Below w.heap.size w w') : Two2 W N p r S w' := by
  obtain ⟨F, G, hA, hB, hap, hbe⟩ := h
  exact ⟨F, G, hA.below hb, hB.below hb, hap, hbe.trans (hb.mono hA.size.1)⟩
theorem Two2.act (h : Two2 W N p r S w) (x : Ac) (t : TypeId) : Duo W N p r w.heap.size x S S (w.alloc (.cells #[.int .i64 x.op, .int .i64 x.k, .int .i64 x.v] t)) := by
  obtain ⟨F, G, hA, hB, hap, hbe⟩ := h
  have hb : Below w.heap.size w (w.alloc (.cells #[.int .i64 x.op, .int .i64 x.k, .int .i64 x.v] t)) := (Below.refl _ _).alloc (Nat.le_refl _) _
  exact ⟨F, G, hA.below hb, hB.below hb, hap, hbe.trans (hb.mono hA.size.1), ⟨fun f => by have := (hA.size.2.2 _ f).2; omega, fun f => by have := (hB.size.2.2 _ f).2; omega, by simp⟩, by simp, by simp, by simp⟩
theorem Duo.two (h : Duo W N p r b x S S w) : Two2 W N p r S w := by
  obtain ⟨F, G, hA, hB, hap, hbe, _⟩ := h
  exact ⟨F, G, hA, hB, hap, hbe⟩
theorem Duo.cells (h : Duo W N p r b x S T w) : w.cell? ⟨b, 0, none⟩ = some (.int .i64 x.op) ∧ w.cell? ⟨b, 1, none⟩ = some (.int .i64 x.k) ∧ w.cell? ⟨b, 2, none⟩ = some (.int .i64 x.v) := by
  obtain ⟨F, G, _, _, _, _, _, h⟩ := h
  exact h
theorem Duo.below (h : Duo W N p r b x S T w) (hb : Below w.heap.size w w') : Duo W N p r b x S T w' := by
  obtain ⟨F, G, hA, hB, hap, hbe, ⟨hf, hg, hl⟩, c0, c1, c2⟩ := h
  exact ⟨F, G, hA.below hb, hB.below hb, hap, hbe.trans (hb.mono hA.size.1), ⟨hf, hg, Nat.lt_of_lt_of_le hl hb.size⟩, (hb.cell hl).trans c0, (hb.cell hl).trans c1, (hb.cell hl).trans c2⟩
theorem Duo.drew (h : Duo W N p r b x S T w) : Duo W N p r b x S T w.drew := h.below (drew_below w)
theorem Duo.swap (h : Duo W N p r b x S T w) : Duo W N r p b x T S w := by
  obtain ⟨F, G, hA, hB, hap, hbe, ⟨hf, hg, hl⟩, hc⟩ := h
  exact ⟨G, F, hB, hA, fun k g f => hap k f g, hbe, ⟨hg, hf, hl⟩, hc⟩

/-- A call on the one. -/
theorem duo_left {f : FuncId} {args : Array Value} {R : Value} (h : Duo W N p r b x S T w) (hc : ∀ F, LnAt iV 3 w N p F S → Calls Try.prog f args w (LnPost iV 3 w N p F S1 R)) :
    Calls Try.prog f args w fun E w' => E = .returned R ∧ Duo W N p r b x S1 T w' := by
  obtain ⟨F, G, hA, hB, hap, hbe, ⟨hf, hg, hl⟩, c0, c1, c2⟩ := h
  refine (hc F hA).mono ?_
  rintro E w' ⟨he, F', hA', hK, hF⟩
  have hcell : ∀ i, w'.cell? ⟨b, i, none⟩ = w.cell? ⟨b, i, none⟩ := fun i => hK.cell (p := ⟨b, i, none⟩) hl hf
  refine ⟨he, F', G, hA', hB.keep hK (fun k g f => hap k f g), fun k f g => ?_, hbe.trans (hK.below hA.size.1 (fun k f => (hA.size.2.2 k f).1)), ⟨fun f => ?_, hg, Nat.lt_of_lt_of_le hl hK.size⟩, (hcell 0).trans c0, (hcell 1).trans c1, (hcell 2).trans c2⟩
  · rcases hF k f with f | f
    · exact hap k f g
    · have := (hB.size.2.2 k g).2; omega
  · rcases hF b f with f | f
    · exact hf f
    · omega
/-- A call on the other. -/
theorem duo_right {f : FuncId} {args : Array Value} {R : Value} (h : Duo W N p r b x S T w) (hc : ∀ F, LnAt iV 3 w N r F T → Calls Try.prog f args w (LnPost iV 3 w N r F T1 R)) :
    Calls Try.prog f args w fun E w' => E = .returned R ∧ Duo W N p r b x S T1 w' :=
  (duo_left h.swap hc).mono fun _ _ h => ⟨h.1, h.2.swap⟩
theorem two_counts (h : Two2 W N p r S w) : Calls Try.prog 15 #[.pointer (some ⟨p, 0, none⟩)] w fun E w' => E = .returned (.tuple #[.int .i64 (S.s : Nat), .int .i64 (S.t : Nat), .int .i64 (S.d : Nat), .int .i64 (S.m : Nat)]) ∧ Two2 W N p r S w' := by
  have h0 := h
  obtain ⟨F, G, hA, _⟩ := h
  refine (li_counts hA).mono ?_
  rintro E w' ⟨rfl, q, rfl⟩
  exact ⟨rfl, h0.below ⟨rfl, rfl, rfl, Nat.le_refl _, fun _ _ => rfl⟩⟩

/-- What the comparison reads of the document's lane. -/
theorem five {F : Nat → Prop} {a : Option Addr} {n cap : Nat} (h : LnV iV 3 w N r F S (.slice a n cap)) (hb : Below w.heap.size w w') :
    w'.cell? ⟨r, 0, none⟩ = some (.slice a n cap) ∧ w'.cell? ⟨r, 1, none⟩ = some (.int .i64 (S.s : Int)) ∧ w'.cell? ⟨r, 2, none⟩ = some (.int .i64 (S.t : Int)) ∧ w'.cell? ⟨r, 3, none⟩ = some (.int .i64 (S.d : Int)) ∧ w'.cell? ⟨r, 4, none⟩ = some (.int .i64 (S.m : Int)) ∧ Hid (Below w.heap.size w w') :=
  ⟨cell_go h.c0 hb, cell_go h.c1 hb, cell_go h.c2 hb, cell_go h.c3 hb, cell_go h.c4 hb, hb⟩
end

end Go.Proofs.Ytkbenpfcnhijnaa
