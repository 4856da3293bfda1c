/-
  A range over a function whose own state lies in a cell, and whose rounds never leave ahead of time.
-/
import Derived.Test.YtlfahnijnlapdaaDoorDshow
import Derived.RangeFuncNested
import Derived.RangeFuncBound
import Derived.RangeFuncCalls
import Derived.RangeFuncLeaves
namespace Go.Proofs.YtlfahnijnlapdaaDoor
open Go.RowKit

/-- What turns neither below N, but for block b, nor outside the heap. -/
structure But (N b : Nat) (A B : World) : Prop where
  os : B.os = A.os
  tape : B.tape = A.tape
  output : B.output = A.output
  size : A.heap.size ≤ B.heap.size
  block : ∀ k, k < N → k ≠ b → B.heap[k]? = A.heap[k]?

theorem But.refl (N b : Nat) (A : World) : But N b A A := ⟨rfl, rfl, rfl, Nat.le_refl _, fun _ _ _ => rfl⟩
theorem But.trans {N b : Nat} {A B C : World} (h : But N b A B) (k : But N b B C) : But N b A C :=
  ⟨k.os.trans h.os, k.tape.trans h.tape, k.output.trans h.output, Nat.le_trans h.size k.size, fun i hi hb => (k.block i hi hb).trans (h.block i hi hb)⟩
theorem But.alloc {N b : Nat} (A : World) (o : Obj) (h : N ≤ A.heap.size) : But N b A (A.alloc o) :=
  ⟨rfl, rfl, rfl, by simp, fun k hk _ => Below.heap_alloc A o k (by omega)⟩
theorem But.put {N b : Nat} (A : World) {r : Nat} (o : Obj) (h : N ≤ r) : But N b A (A.putObj r o) :=
  ⟨rfl, rfl, rfl, by simp, fun _ hk _ => World.putObj_heap_other (by omega)⟩
theorem But.store {N b : Nat} (A : World) (v : Value) : But N b A (A.setCell ⟨b, 0, none⟩ v) :=
  ⟨rfl, rfl, rfl, by show A.heap.size ≤ (A.heap.modify _ _).size; rw [Array.size_modify]; exact Nat.le_refl _, fun k _ hb => Below.heap_setCell A ⟨b, 0, none⟩ v k hb⟩
theorem But.below {N b : Nat} {A B : World} (h : Below A.heap.size A B) (hN : N ≤ A.heap.size) : But N b A B :=
  ⟨h.os, h.tape, h.output, h.size, fun k hk _ => h.block k (by omega)⟩
theorem But.more {N M b : Nat} {A B : World} (h : But M b A B) (hN : N ≤ M) : But N b A B :=
  ⟨h.os, h.tape, h.output, h.size, fun k hk hb => h.block k (by omega) hb⟩

def stays (R : World → Prop) : Exit → Act → World → Prop
  | .normal, _, W => R W
  | _, _, _ => False

/-- THE LAW. bs: the block in which the iterator keeps its state; bb: the one that the rounds write. -/
theorem range_own {F : Fence} {n : Nat} {P : Program} {α : Type} {g : Operand} {ps : Array Tmp} {assign body : Code} {Q : Exit → Act → World → Prop} {a : Act} {w : World}
    (hro : F.round = none) (hn : 1 ≤ n) {gf : Nat} {lb : Array Value} (hg : a.eval g = .func (.func gf) #[] lb) (hFg : F.fn gf) (eg : ∀ args w, (callFunc gf args).run P w = .ok (.enter gf args) w)
    (encs : α → Array Value) (hps : ∀ x, (encs x).size = ps.size) (bs bb : Nat) (hbs : bs < w.heap.size) (hbb : bb < w.heap.size) (xs : List α) (I : List α → World → Prop)
    (hI : ∀ s A B, I s A → But w.heap.size bs A B → I s B) (h0 : I [] w)
    (hseq : ∀ (J : List α → World → Prop) (W : World), (∀ s A v, J s A → J s (A.setCell ⟨bs, 0, none⟩ v)) →
      (∀ pre x W1, J pre W1 → pre ++ [x] <+: xs → YieldAt F (n - 1 - 1) P (w.heap.size + 1) (encs x) W1 fun e W' => e = .returned (.bool true) ∧ J (pre ++ [x]) W' ∧ But w.heap.size bb W1 W') →
      J [] W → But w.heap.size bb w W →
      CallsIn F (n - 1) P gf (#[.func (.yield (w.heap.size + 1)) #[] #[]] ++ lb) W fun e W' => (∃ v, e = .returned v) ∧ J xs W')
    (a₁ : α → Act)
    (hassign : ∀ (x : α) (W : World) (K : Act → World → Prop), K (a₁ x) W →
      assign.wpIn (F.inRound (w.heap.size + 1)) (n - 1 - 1) P (Exit.then K (fun _ _ _ => False)) { tmps := (ps.zip (encs x)).foldl (fun t (p, v) => t.setIfInBounds p v) a.tmps, defers := [] } W)
    (hbody : ∀ (pre : List α) (x : α) (W : World), I pre W → pre ++ [x] <+: xs → w.heap.size + 2 ≤ W.heap.size → body.wpIn (F.inRound (w.heap.size + 1)) (n - 1 - 1) P (stays fun W' => But W.heap.size bb W W' ∧ I (pre ++ [x]) W') (a₁ x) W)
    (hdone : ∀ (W : World), I xs W → W.heap[w.heap.size]? = some (.deferred (some [])) → Q .normal { a with defers := { target := .collected w.heap.size, args := #[] } :: a.defers } W) :
    (Code.rangeFunc g ps assign body).wpIn F n P Q a w := by
  refine wpIn_rangeFunc ?_
  intro fn hfn
  rw [hro]
  obtain ⟨rec, hrec⟩ : ∃ rec : LoopState → Loop, rec = fun st => { state := st, pending := none, fn, tmps := a.tmps, params := ps, assign, body, defers := w.heap.size } := ⟨_, rfl⟩
  obtain ⟨V, hV⟩ : ∃ V, (w.alloc (.deferred (some []))).alloc (.loop (rec .ready)) = V := ⟨_, rfl⟩
  have hwV : But w.heap.size bb w V := by rw [← hV]; exact (But.alloc w _ (Nat.le_refl _)).trans (But.alloc _ _ (by simp))
  have hwS : But w.heap.size bs w V := by rw [← hV]; exact (But.alloc w _ (Nat.le_refl _)).trans (But.alloc _ _ (by simp))
  have hLoop : V.heap[w.heap.size + 1]? = some (.loop (rec .ready)) := by
    have := World.alloc_heap_new (w.alloc (.deferred (some []))) (.loop (rec .ready))
    rw [World.size_alloc] at this
    rw [← hV]; exact this
  have hDef : V.heap[w.heap.size]? = some (.deferred (some [])) := by
    rw [← hV, Below.heap_alloc _ _ _ (by simp)]; exact World.alloc_heap_new w _
  refine ⟨w.heap.size + 1, [{ target := .collected w.heap.size, args := #[] }], V, { target := .fn (.func gf) lb, args := #[.func (.yield (w.heap.size + 1)) #[] #[]] }, V, gf, #[.func (.yield (w.heap.size + 1)) #[] #[]] ++ lb, V, ?_, ?_, ?_, ?_, fun _ => hn, ?_⟩
  · rw [← hV, hrec]; exact run_enterLoop_outer _ _ _ _ _
  · simp only [resolve, hg]; simp [go_sem]
  · intro f hf
    simp [Target.leads] at hf
    rw [← hf]; exact hFg
  · simp [invoke, go_sem, eg]
  · refine (hseq (fun s W => I s W ∧ W.heap[w.heap.size + 1]? = some (.loop (rec .ready)) ∧ W.heap[w.heap.size]? = some (.deferred (some []))) V ?_ ?_ ⟨hI _ _ _ h0 hwS, hLoop, hDef⟩ hwV).mono ?_
    · rintro s A v ⟨h1, h2, h3⟩
      exact ⟨hI _ _ _ h1 (But.store A v), (Below.heap_setCell A _ v _ (by show _ ≠ bs; omega)).trans h2, (Below.heap_setCell A _ v _ (by show _ ≠ bs; omega)).trans h3⟩
    · rintro pre x W ⟨hi, hl, hd⟩ hpx
      have hlt : w.heap.size + 1 < W.heap.size := (Array.getElem?_eq_some_iff.1 hl).1
      have hy := run_yield (P := P) (args := encs x) hl (by rw [hrec]; exact hps x)
      rw [hrec] at hy
      refine ⟨fn, _, assign, body, hy, roundIn_of_wpIn hfn (hassign x W _ ⟨_, run_beginRound hl (by rw [hrec]), ?_⟩)⟩
      have hl2 : (W.putObj (w.heap.size + 1) (.loop { rec .ready with state := .busy })).heap[w.heap.size + 1]? = some (.loop { rec .ready with state := .busy }) := World.putObj_heap_same hlt
      have hd2 : (W.putObj (w.heap.size + 1) (.loop { rec .ready with state := .busy })).heap[w.heap.size]? = some (.deferred (some [])) := (World.putObj_heap_other (by omega)).trans hd
      refine wpIn_mono (hbody pre x _ (hI _ _ _ hi (But.put W _ (by omega))) hpx (by rw [World.putObj_size]; omega)) ?_
      intro e a3 W3 hp
      cases e with
      | normal =>
        obtain ⟨hk, hi3⟩ := hp
        have hl3 := (hk.block _ (by rw [World.putObj_size]; omega) (by omega)).trans hl2
        have hd3 := (hk.block _ (by rw [World.putObj_size]; omega) (by omega)).trans hd2
        have hr := run_endRound (P := P) none hl3
        have hlt3 := (Array.getElem?_eq_some_iff.1 hl3).1
        refine ⟨_, _, hr, rfl, ⟨hI _ _ _ hi3 (But.put W3 _ (by omega)), ?_, ?_⟩, ?_⟩
        · rw [World.putObj_heap_same hlt3, hrec]; simp
        · exact (World.putObj_heap_other (by omega)).trans hd3
        · exact (But.put W _ (by omega)).trans ((hk.more (by rw [World.putObj_size]; omega)).trans (But.put W3 _ (by omega)))
      | ret => exact hp.elim
      | exit id => exact hp.elim
      | goto t => exact hp.elim
      | panic ch => exact hp.elim
      | outgrown => exact hp.elim
    · rintro e W ⟨⟨v, rfl⟩, hi, hl, hd⟩
      have hr := run_endLoop (P := P) hl (by rw [hrec]; simp)
      refine ⟨_, _, hr, ?_⟩
      rw [hrec]
      exact hdone _ (hI _ _ _ hi (But.put W _ (by omega))) ((World.putObj_heap_other (by omega)).trans hd)

end Go.Proofs.YtlfahnijnlapdaaDoor
