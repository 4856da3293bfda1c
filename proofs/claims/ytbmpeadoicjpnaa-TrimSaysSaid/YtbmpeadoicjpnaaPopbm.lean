import Derived.Test.YtbmpeadoicjpnaaLopenm
import Derived.Lib.SmallJoins

/-
  Numbers, truths, slices of bytes within what comes in.
-/
namespace Go.Proofs.Ytbmpeadoicjpnaa
open Go.ChangeShapes Go.WideShapes Go.ChangeAt Go.RowKit Go.Deep

def intV : Value → Int
  | .int _ z => z
  | _ => 0

theorem trod_i64 {H : Type} {enc : TypeId × Value → H} {P : Program} {w : World} {base : Nat} {spare : Nat → Bool} {held : Bool} {fuel : Nat} {t : TypeId} {v : Value} {x : DataW H × List MemPlace}
    (ht : P.underlying t = some (.int .i64)) (h : DataW.trod enc P w base spare held fuel t [v] = some x) : v = .int .i64 (intV v) ∧ (-9223372036854775808 ≤ intV v ∧ intV v ≤ 9223372036854775807) := by
  cases fuel with
  | zero => simp [DataW.trod] at h
  | succ n =>
    cases v <;> simp [DataW.trod, ht] at h
    rename_i k b
    obtain ⟨⟨rfl, hw⟩, _⟩ := h
    exact ⟨rfl, wf_i64 hw⟩

def boolOf : Value → Bool
  | .bool b => b
  | _ => false
theorem trod_bool {H : Type} {enc : TypeId × Value → H} {P : Program} {w : World} {base : Nat} {spare : Nat → Bool} {held : Bool} {fuel : Nat} {t : TypeId} {v : Value} {x : DataW H × List MemPlace}
    (ht : P.underlying t = some .bool) (h : DataW.trod enc P w base spare held fuel t [v] = some x) : v = .bool (boolOf v) := by
  cases fuel with
  | zero => simp [DataW.trod] at h
  | succ n =>
    cases v <;> simp [DataW.trod, ht] at h
    rfl
theorem wf_u8 {n : Int} (h : (Lit.int .u8 n).wf = true) : ∃ k : Nat, n = k ∧ k < 256 := by
  have : 0 ≤ n ∧ n ≤ 255 := by simpa [Lit.wf, IntKind.min, IntKind.max, IntKind.signed, IntKind.bits] using h
  exact ⟨n.toNat, by omega, by omega⟩

/-- A slice of bytes within other data. -/
theorem trod_u8s {H : Type} {enc : TypeId × Value → H} {P : Program} {W : World} {t e : TypeId} {v : Value} {x : DataW H × List MemPlace} {b0 : Nat} {spare : Nat → Bool} {held : Bool} {fuel : Nat}
    (ht : P.underlying t = some (.slice e)) (hc : P.cellsOf e = 1) (he : P.underlying e = some (.int .u8))
    (h : DataW.trod enc P W b0 spare held fuel t [v] = some x) (hlt : ∀ q ∈ x.2, q.block < W.heap.size) : ∃ (xs : List Nat) (a : Option Addr) (cap : Nat), v = .slice a xs.length cap ∧ SlAt bV 256 W a cap xs := by
  rcases open_slice1 ht hc h with ⟨hcs, hx⟩ | ⟨a, len, cap, m, n, V, D, Pl, hcs, hb, hl, hm, hmm, hx, hcell⟩
  · cases hcs
    exact ⟨[], none, 0, rfl, SlAt.none _ _ _⟩
  · cases hcs
    by_cases h0 : len = 0
    · subst h0
      exact ⟨[], some a, cap, rfl, by simp, by simp, hm, (fun e => by cases e), fun i hi => by simp at hi⟩
    · have hml : len ≤ m := by rw [hmm]; split <;> omega
      have hw : ∀ i, i < len → V i = bV (natOf (V i)) ∧ natOf (V i) < 256 := fun i hi => trod_u8 he (hcell i (by omega)).2
      obtain ⟨b, off, spot⟩ := a
      have hspot : spot = none := by simpa [Addr.add] using World.cell?_spot (hcell 0 (by omega)).1
      subst hspot
      have hbW : b < W.heap.size := hlt (.cell b off) (by
        rw [hx]
        exact List.mem_append_left _ (MemPlace.mem_row.2 ⟨0, by omega, by simp⟩))
      refine ⟨(List.range len).map fun i => natOf (V i), some ⟨b, off, none⟩, cap, by simp, ?_, by simpa using hl, hm, (fun e => by cases e), ?_⟩
      · intro x hx
        obtain ⟨i, hi, rfl⟩ := List.mem_map.1 hx
        exact (hw i (List.mem_range.1 hi)).2
      · intro i hi
        have hi' : i < len := by simpa using hi
        have := (hcell i (by omega)).1
        rw [add_spot, (hw i hi').1] at this
        exact ⟨b, off, rfl, hbW, by simpa using this⟩

theorem Try.cells_int : Try.prog.cellsOf 3 = 1 := by kernel_rfl
theorem Try.cells_u64 : Try.prog.cellsOf 23 = 1 := by kernel_rfl
theorem Try.cells_u8s : Try.prog.cellsOf 37 = 1 := by kernel_rfl
theorem Try.cells_u8 : Try.prog.cellsOf 5 = 1 := by kernel_rfl

end Go.Proofs.Ytbmpeadoicjpnaa
