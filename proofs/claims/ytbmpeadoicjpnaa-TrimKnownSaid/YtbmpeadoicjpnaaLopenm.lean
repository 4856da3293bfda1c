import Derived.Test.YtbmpeadoicjpnaaLliftm
import Derived.Test.YtbmpeadoicjpnaaMab
import Derived.Deep.Slices

/-
  Slices of bytes and of whole numbers that come in, as the walks ask for them.
-/
namespace Go.Proofs.Ytbmpeadoicjpnaa
open Go.ChangeShapes Go.WideShapes Go.ChangeAt Go.RowKit Go.Deep

def natOf : Value → Nat
  | .int _ z => z.toNat
  | .float _ b => b
  | _ => 0

theorem trod_u8 {H : Type} {enc : TypeId × Value → H} {P : Program} {w : World} {base : Nat} {spare : Nat → Bool} {held : Bool} {fuel : Nat} {t : TypeId} {v : Value} {x : DataW H × List MemPlace}
    (ht : P.underlying t = some (.int .u8)) (h : DataW.trod enc P w base spare held fuel t [v] = some x) : v = bV (natOf v) ∧ natOf v < 256 := by
  cases fuel with
  | zero => simp [DataW.trod] at h
  | succ n =>
    cases v <;> simp [DataW.trod, ht] at h
    rename_i k b
    obtain ⟨⟨rfl, hw⟩, _⟩ := h
    have : 0 ≤ b ∧ b ≤ 255 := by simpa [Lit.wf, IntKind.min, IntKind.max, IntKind.signed, IntKind.bits] using hw
    refine ⟨?_, by simp only [natOf]; omega⟩
    show Value.int .u8 b = .int .u8 ((b.toNat : Nat) : Int)
    rw [Int.toNat_of_nonneg this.1]

theorem trod_u64 {H : Type} {enc : TypeId × Value → H} {P : Program} {w : World} {base : Nat} {spare : Nat → Bool} {held : Bool} {fuel : Nat} {t : TypeId} {v : Value} {x : DataW H × List MemPlace}
    (ht : P.underlying t = some (.int .u64)) (h : DataW.trod enc P w base spare held fuel t [v] = some x) : v = qV (natOf v) ∧ natOf v < 18446744073709551616 := by
  cases fuel with
  | zero => simp [DataW.trod] at h
  | succ n =>
    cases v <;> simp [DataW.trod, ht] at h
    rename_i k b
    obtain ⟨⟨rfl, hw⟩, _⟩ := h
    have : 0 ≤ b ∧ b ≤ 18446744073709551615 := by simpa [Lit.wf, IntKind.min, IntKind.max, IntKind.signed, IntKind.bits] using hw
    refine ⟨?_, by simp only [natOf]; omega⟩
    show Value.int .u64 b = .int .u64 ((b.toNat : Nat) : Int)
    rw [Int.toNat_of_nonneg this.1]

theorem is_nums {H : Type} {enc : TypeId × Value → H} {P : Program} {W : World} {t e : TypeId} {v : Value} {d : DataW H} {ps : List MemPlace} {base : Nat} {spare : Nat → Bool} {b0 : Nat} {held : Bool} (f : Nat → Value) (M : Nat)
    (ht : P.underlying t = some (.slice e)) (hc : P.cellsOf e = 1) (hE : ∀ (n : Nat) (u : Value) (x : DataW H × List MemPlace), DataW.trod enc P W b0 spare held n e [u] = some x → u = f (natOf u) ∧ natOf u < M)
    (hval : Value.okWide P W .any base t v) (h : DataW.Trod enc P W b0 spare held t v d ps)
    (hlt : ∀ x ∈ ps, x.block < W.heap.size) : ∃ (xs : List Nat) (a : Option Addr) (cap : Nat), v = .slice a xs.length cap ∧ SlAt f M W a cap xs := by
  obtain ⟨a0, len, cap, rfl⟩ := okWide_slice ht hval
  obtain ⟨fuel, hf⟩ := h
  rcases open_slice1 ht hc hf with ⟨hcs, hx⟩ | ⟨a, len', cap', m, n, V, D, Pl, hcs, hb, hl, hm, hmm, hx, hcell⟩
  · simp [Value.cells] at hcs
    obtain ⟨rfl, rfl, rfl⟩ := hcs
    exact ⟨[], none, 0, rfl, SlAt.none _ _ _⟩
  · simp [Value.cells] at hcs
    obtain ⟨rfl, rfl, rfl⟩ := hcs
    by_cases h0 : len = 0
    · subst h0
      exact ⟨[], some a, cap, rfl, by simp, by simp, hm, (fun e => by cases e), fun i hi => by simp at hi⟩
    · have hml : len ≤ m := by rw [hmm]; split <;> omega
      have hw : ∀ i, i < len → V i = f (natOf (V i)) ∧ natOf (V i) < M := fun i hi => hE _ _ _ (hcell i (by omega)).2
      obtain ⟨b, off, spot⟩ := a
      have hspot : spot = none := by simpa [Addr.add] using World.cell?_spot (hcell 0 (by omega)).1
      subst hspot
      have hbW : b < W.heap.size := hlt (.cell b off) (by
        rw [(Prod.mk.inj hx).2]
        exact List.mem_append_left _ (MemPlace.mem_row.2 ⟨0, by omega, by simp⟩))
      refine ⟨(List.range len).map fun i => natOf (V i), some ⟨b, off, none⟩, cap, by simp, ?_, by simpa using hl, hm, (fun e => by cases e), ?_⟩
      · intro x hx
        obtain ⟨i, hi, rfl⟩ := List.mem_map.1 hx
        exact (hw i (List.mem_range.1 hi)).2
      · intro i hi
        have hi' : i < len := by simpa using hi
        have := (hcell i (by omega)).1
        rw [add_spot, (hw i hi').1] at this
        exact ⟨b, off, rfl, hbW, by simpa using this⟩

end Go.Proofs.Ytbmpeadoicjpnaa
