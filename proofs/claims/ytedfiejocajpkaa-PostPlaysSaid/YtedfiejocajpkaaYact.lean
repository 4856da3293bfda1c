/-
  Acts that come in; the program's boxes and the document's, apart, an act beside them.
-/
import Derived.Test.YtedfiejocajpkaaYaw
import Derived.Test.YtedfiejocajpkaaYrany
namespace Go.Proofs.Ytedfiejocajpkaa
open Go.RowKit

/-- One act. -/
structure Ad where
  op : Int
  bx : Int
  to : Int
  v : Int
def adC (x : Ad) : Array Value := #[.int .i64 x.op, .int .i64 x.bx, .int .i64 x.to, .int .i64 x.v]

/-- A slice of acts. -/
structure AdAt (w : World) (a : Option Addr) (cap : Nat) (l : List Ad) : Prop where
  fit : l.length ≤ cap
  max : cap ≤ maxLen
  nil : a = none → cap = 0
  cell : ∀ i (h : i < l.length), ∃ b off, a = some ⟨b, off, none⟩ ∧ b < w.heap.size ∧ w.cell? ⟨b, off + i * 4, none⟩ = some (.int .i64 l[i].op) ∧ w.cell? ⟨b, off + i * 4 + 1, none⟩ = some (.int .i64 l[i].bx) ∧
    w.cell? ⟨b, off + i * 4 + 2, none⟩ = some (.int .i64 l[i].to) ∧ w.cell? ⟨b, off + i * 4 + 3, none⟩ = some (.int .i64 l[i].v)

/-- Both, of one content, apart; all below N as it was. -/
def Two3 (W : World) (N p r n room : Nat) (B : Nat → List Int) (w : World) : Prop :=
  ∃ F G, PoAt iV w N p F n room B ∧ RpAt w N r G n room B ∧ (∀ k, F k → ¬ G k) ∧ Below N W w

/-- Both, and an act in a block of its own. -/
def Duo3 (W : World) (N p r n room b : Nat) (x : Ad) (B C : Nat → List Int) (w : World) : Prop :=
  ∃ F G, PoAt iV w N p F n room B ∧ RpAt w N r G n room C ∧ (∀ k, F k → ¬ G k) ∧ Below N W w ∧ (¬ F b ∧ ¬ G b ∧ b < w.heap.size) ∧
    w.cell? ⟨b, 0, none⟩ = some (.int .i64 x.op) ∧ w.cell? ⟨b, 1, none⟩ = some (.int .i64 x.bx) ∧ w.cell? ⟨b, 2, none⟩ = some (.int .i64 x.to) ∧ w.cell? ⟨b, 3, none⟩ = some (.int .i64 x.v)

section
variable {W w w' : World} {N p r n room b : Nat} {x : Ad} {B C B1 C1 : Nat → List Int}

theorem Two3.be (h : Two3 W N p r n room B w) : Below N W w := h.elim fun _ h => h.elim fun _ h => h.2.2.2
theorem Two3.nn (h : Two3 W N p r n room B w) : 0 < n ∧ n ≤ 16 ∧ 0 < room ∧ room ≤ 64 := h.elim fun _ h => h.elim fun _ h => h.1.nn
theorem Two3.below (h : Two3 W N p r n room B w) (hb : Below w.heap.size w w') : Two3 W N p r n room B w' := by
  obtain ⟨F, G, hA, hB, hap, hbe⟩ := h
  exact ⟨F, G, hA.below hb, hB.below hb, hap, hbe.trans (hb.mono hA.size.1)⟩
theorem Two3.drewN (h : Two3 W N p r n room B w) (q : Nat) : Two3 W N p r n room B (w.drewN q) := h.below ⟨rfl, rfl, rfl, Nat.le_refl _, fun _ _ => rfl⟩
theorem Two3.act (h : Two3 W N p r n room B w) (x : Ad) (t : TypeId) : Duo3 W N p r n room w.heap.size x B B (w.alloc (.cells (adC x) t)) := by
  obtain ⟨F, G, hA, hB, hap, hbe⟩ := h
  have hb : Below w.heap.size w (w.alloc (.cells (adC x) t)) := (Below.refl _ _).alloc (Nat.le_refl _) _
  exact ⟨F, G, hA.below hb, hB.below hb, hap, hbe.trans (hb.mono hA.size.1), ⟨fun f => by have := (hA.size.2.2 _ f).2; omega, fun f => by have := (hB.size.2.2 _ f).2; omega, by simp⟩, by simp [adC], by simp [adC], by simp [adC], by simp [adC]⟩
theorem Duo3.two (h : Duo3 W N p r n room b x B B w) : Two3 W N p r n room B w := by
  obtain ⟨F, G, hA, hB, hap, hbe, _⟩ := h
  exact ⟨F, G, hA, hB, hap, hbe⟩
theorem Duo3.cells (h : Duo3 W N p r n room b x B C w) : w.cell? ⟨b, 0, none⟩ = some (.int .i64 x.op) ∧ w.cell? ⟨b, 1, none⟩ = some (.int .i64 x.bx) ∧ w.cell? ⟨b, 2, none⟩ = some (.int .i64 x.to) ∧ w.cell? ⟨b, 3, none⟩ = some (.int .i64 x.v) := by
  obtain ⟨F, G, _, _, _, _, _, h⟩ := h
  exact h
theorem Duo3.drew (h : Duo3 W N p r n room b x B C w) : Duo3 W N p r n room b x B C w.drew := by
  obtain ⟨F, G, hA, hB, hap, hbe, hf, hc⟩ := h
  exact ⟨F, G, hA.drewN 1, hB.drewN 1, hap, ⟨hbe.os, hbe.tape, hbe.output, hbe.size, hbe.block⟩, hf, hc⟩

/-- A call on the one. -/
theorem duo_left {f : FuncId} {args : Array Value} {R : Value} (h : Duo3 W N p r n room b x B C w) (hc : ∀ F, PoAt iV w N p F n room B → Calls Try.prog f args w (OPost (fun w F => PoAt iV w N p F n room B1) w F R)) :
    Calls Try.prog f args w fun E w' => E = .returned R ∧ Duo3 W N p r n room b x B1 C w' := by
  obtain ⟨F, G, hA, hB, hap, hbe, ⟨hf, hg, hl⟩, c0, c1, c2, c3⟩ := h
  refine (hc F hA).mono ?_
  rintro E w' ⟨he, F', hA', hK, hF⟩
  have hcell : ∀ i, w'.cell? ⟨b, i, none⟩ = w.cell? ⟨b, i, none⟩ := fun i => hK.cell (p := ⟨b, i, none⟩) hl hf
  refine ⟨he, F', G, hA', hB.keep hK (fun k g f => hap k f g), fun k f g => ?_, hbe.trans (hK.below hA.size.1 (fun k f => (hA.size.2.2 k f).1)), ⟨fun f => ?_, hg, Nat.lt_of_lt_of_le hl hK.size⟩, (hcell 0).trans c0, (hcell 1).trans c1, (hcell 2).trans c2, (hcell 3).trans c3⟩
  · rcases hF k f with f | f
    · exact hap k f g
    · have := (hB.size.2.2 k g).2
      omega
  · rcases hF b f with f | f
    · exact hf f
    · omega
/-- A call on the other. -/
theorem duo_right {f : FuncId} {args : Array Value} {R : Value} (h : Duo3 W N p r n room b x B C w) (hc : ∀ F, RpAt w N r F n room C → Calls Try.prog f args w (OPost (fun w F => RpAt w N r F n room C1) w F R)) :
    Calls Try.prog f args w fun E w' => E = .returned R ∧ Duo3 W N p r n room b x B C1 w' := by
  obtain ⟨F, G, hA, hB, hap, hbe, ⟨hf, hg, hl⟩, c0, c1, c2, c3⟩ := h
  refine (hc G hB).mono ?_
  rintro E w' ⟨he, G', hB', hK, hG⟩
  have hcell : ∀ i, w'.cell? ⟨b, i, none⟩ = w.cell? ⟨b, i, none⟩ := fun i => hK.cell (p := ⟨b, i, none⟩) hl hg
  refine ⟨he, F, G', hA.keep hK hap, hB', fun k f g => ?_, hbe.trans (hK.below hA.size.1 (fun k f => (hB.size.2.2 k f).1)), ⟨hf, fun g => ?_, Nat.lt_of_lt_of_le hl hK.size⟩, (hcell 0).trans c0, (hcell 1).trans c1, (hcell 2).trans c2, (hcell 3).trans c3⟩
  · rcases hG k g with g | g
    · exact hap k f g
    · have := (hA.size.2.2 k f).2
      omega
  · rcases hG b g with g | g
    · exact hg g
    · omega
end

/-- The document's, made anew. -/
theorem rp_new (w : World) (N n room : Nat) (t t2 : TypeId) (hN : N ≤ w.heap.size) (hn : 0 < n ∧ n ≤ 16) (hr : 0 < room ∧ room ≤ 64) :
    RpV ((w.alloc (.cells (madeCells #[.slice none 0 0] n) t)).alloc (.cells #[.int .i64 (room : Int), .slice (some ⟨w.heap.size, 0, none⟩) n n] t2)) N (w.heap.size + 1) (fun k => k = w.heap.size ∨ k = w.heap.size + 1) n room (fun _ => []) w.heap.size := by
  have hb : ((w.alloc (.cells (madeCells #[.slice none 0 0] n) t)).alloc (.cells #[.int .i64 (room : Int), .slice (some ⟨w.heap.size, 0, none⟩) n n] t2)).heap[w.heap.size]? = some (.cells (madeCells #[.slice none 0 0] n) t) :=
    (Below.heap_alloc _ _ _ (by simp)).trans (heap_alloc_new _ _)
  have hnews := World.news_of_block (cs := #[.int .i64 (room : Int), .slice (some ⟨w.heap.size, 0, none⟩) n n]) (fr := (0, 0)) (heap_alloc_new (w.alloc (.cells (madeCells #[.slice none 0 0] n) t)) (.cells #[.int .i64 (room : Int), .slice (some ⟨w.heap.size, 0, none⟩) n n] t2))
  rw [World.size_alloc] at hnews
  refine ⟨hnews 0 _ rfl, hnews 1 _ rfl, fun k hk => ⟨none, 0, ?_, SlV.none _, fun ad e => by cases e⟩, fun k => ?_, Or.inr rfl, Or.inl rfl, by omega, fun k f => by simp; omega, hn, hr⟩
  · have h := World.news_of_block (cs := madeCells #[.slice none 0 0] n) (fr := (0, 0)) hb k (.slice none 0 0) (by rw [toList_madeCells_one, List.getElem?_replicate, if_pos hk])
    rw [Addr.add_lit, Nat.zero_add] at h
    exact h
  · unfold World.frozen?
    rw [hb]
    simp

end Go.Proofs.Ytedfiejocajpkaa
