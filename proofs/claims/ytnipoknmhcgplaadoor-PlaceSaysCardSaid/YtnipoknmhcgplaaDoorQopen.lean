/-
  Configs that come in, as the walks ask for them.
-/
import Derived.Test.YtnipoknmhcgplaaDoorQcfg
import Derived.ProofKit
import Derived.OpenShut
import Derived.Handy
import Derived.Deep.Slices
import Derived.ChangeSame
namespace Go.Proofs.YtnipoknmhcgplaaDoor
open Go.ChangeShapes Go.WideShapes Go.ChangeAt Go.RowKit Go.Deep

theorem wfU {n : Int} (h : (Lit.int .u64 n).wf = true) : ∃ k : Nat, n = k ∧ k < 18446744073709551616 := by
  have : 0 ≤ n ∧ n ≤ 18446744073709551615 := by simpa [Lit.wf, IntKind.min, IntKind.max, IntKind.signed, IntKind.bits] using h
  exact ⟨n.toNat, by omega, by omega⟩
theorem wfI {n : Int} (h : (Lit.int .i64 n).wf = true) : IntOk n := by
  simpa [IntOk, Lit.wf, IntKind.min, IntKind.max, IntKind.signed, IntKind.bits] using h
def natOf : Value → Nat
  | .int _ z => z.toNat
  | _ => 0
def intV : Value → Int
  | .int _ z => z
  | _ => 0

theorem trod_i64 {H : Type} {enc : TypeId × Value → H} {P : Program} {w : World} {base : Nat} {spare : Nat → Bool} {held : Bool} {fuel : Nat} {t : TypeId} {v : Value} {x : DataW H × List MemPlace}
    (ht : P.underlying t = some (.int .i64)) (h : DataW.trod enc P w base spare held fuel t [v] = some x) : v = .int .i64 (intV v) ∧ IntOk (intV v) := by
  cases fuel with
  | zero => simp [DataW.trod] at h
  | succ n =>
    cases v <;> simp [DataW.trod, ht] at h
    rename_i k b
    obtain ⟨⟨rfl, hw⟩, _⟩ := h
    exact ⟨rfl, wfI hw⟩
theorem trod_u64 {H : Type} {enc : TypeId × Value → H} {P : Program} {w : World} {base : Nat} {spare : Nat → Bool} {held : Bool} {fuel : Nat} {t : TypeId} {v : Value} {x : DataW H × List MemPlace}
    (ht : P.underlying t = some (.int .u64)) (h : DataW.trod enc P w base spare held fuel t [v] = some x) : v = uV (natOf v) ∧ natOf v < 18446744073709551616 := by
  cases fuel with
  | zero => simp [DataW.trod] at h
  | succ n =>
    cases v <;> simp [DataW.trod, ht] at h
    rename_i k b
    obtain ⟨⟨rfl, hw⟩, _⟩ := h
    obtain ⟨j, rfl, hj⟩ := wfU hw
    exact ⟨rfl, hj⟩

/-- A slice of sets within other data. -/
theorem trod_sets {H : Type} {enc : TypeId × Value → H} {P : Program} {W : World} {t e : TypeId} {v : Value} {x : DataW H × List MemPlace} {b0 : Nat} {spare : Nat → Bool} {held : Bool} {fuel : Nat}
    (ht : P.underlying t = some (.slice e)) (hc : P.cellsOf e = 1) (he : P.underlying e = some (.int .u64))
    (h : DataW.trod enc P W b0 spare held fuel t [v] = some x) (hlt : ∀ q ∈ x.2, q.block < W.heap.size) :
    ∃ (xs : List Nat) (a : Option Addr) (cap : Nat), v = .slice a xs.length cap ∧ SlV W a cap (xs.map uV) ∧ ∀ s ∈ xs, s < 18446744073709551616 := by
  rcases open_slice1 ht hc h with ⟨hcs, hx⟩ | ⟨a, len, cap, m, n, V, D, Pl, hcs, hb, hl, hm, hmm, hx, hcell⟩
  · cases hcs
    exact ⟨[], none, 0, rfl, SlV.none _, by simp⟩
  · cases hcs
    by_cases h0 : len = 0
    · subst h0
      exact ⟨[], some a, cap, rfl, ⟨by simp, hm, (fun e => by cases e), fun i hi => by simp at hi⟩, by simp⟩
    · have hml : len ≤ m := by rw [hmm]; split <;> omega
      have hw : ∀ i, i < len → V i = uV (natOf (V i)) ∧ natOf (V i) < 18446744073709551616 := fun i hi => trod_u64 he (hcell i (by omega)).2
      obtain ⟨b, off, spot⟩ := a
      have hspot : spot = none := by simpa [Addr.add] using World.cell?_spot (hcell 0 (by omega)).1
      subst hspot
      have hbW : b < W.heap.size := hlt (.cell b off) (by
        rw [hx]
        exact List.mem_append_left _ (MemPlace.mem_row.2 ⟨0, by omega, by simp⟩))
      refine ⟨(List.range len).map fun i => natOf (V i), some ⟨b, off, none⟩, cap, by simp, ⟨by simpa using hl, hm, (fun e => by cases e), ?_⟩, ?_⟩
      · intro i hi
        have hi' : i < len := by simpa using hi
        have := (hcell i (by omega)).1
        rw [add_spot, (hw i hi').1] at this
        exact ⟨b, off, rfl, hbW, by simpa using this⟩
      · intro x hx
        obtain ⟨i, hi, rfl⟩ := List.mem_map.1 hx
        exact (hw i (List.mem_range.1 hi)).2

theorem Tryd.cells_int : Tryd.prog.cellsOf 3 = 1 := by kernel_rfl
theorem Tryd.cells_set : Tryd.prog.cellsOf 29 = 1 := by kernel_rfl
theorem Tryd.cells_sets : Tryd.prog.cellsOf 24 = 1 := by kernel_rfl
theorem Tryd.cells_cfg : Tryd.prog.cellsOf 26 = 8 := by kernel_rfl

theorem array8 {α : Type} {cs : Array α} (h : cs.size = 8) : ∃ c0 c1 c2 c3 c4 c5 c6 c7, cs = #[c0, c1, c2, c3, c4, c5, c6, c7] := by
  obtain ⟨l⟩ := cs
  match l, h with
  | [c0, c1, c2, c3, c4, c5, c6, c7], _ => exact ⟨c0, c1, c2, c3, c4, c5, c6, c7, rfl⟩

/-- A struct of eight fields. -/
theorem trod_struct8 {H : Type} {enc : TypeId × Value → H} {P : Program} {w : World} {base : Nat} {spare : Nat → Bool} {held : Bool} {t : TypeId} {f0 f1 f2 f3 f4 f5 f6 f7 : Field} {fuel : Nat} {cs : List Value} {x : DataW H × List MemPlace}
    (ht : P.underlying t = some (.struct #[f0, f1, f2, f3, f4, f5, f6, f7])) (h : DataW.trod enc P w base spare held fuel t cs = some x) :
    ∃ y0 y1 y2 y3 y4 y5 y6 y7 n, x.2 = y0.2 ++ (y1.2 ++ (y2.2 ++ (y3.2 ++ (y4.2 ++ (y5.2 ++ (y6.2 ++ y7.2)))))) ∧
      DataW.trod enc P w base spare held n f0.type ((cs.drop f0.offset).take (P.cellsOf f0.type)) = some y0 ∧ DataW.trod enc P w base spare held n f1.type ((cs.drop f1.offset).take (P.cellsOf f1.type)) = some y1 ∧
      DataW.trod enc P w base spare held n f2.type ((cs.drop f2.offset).take (P.cellsOf f2.type)) = some y2 ∧ DataW.trod enc P w base spare held n f3.type ((cs.drop f3.offset).take (P.cellsOf f3.type)) = some y3 ∧
      DataW.trod enc P w base spare held n f4.type ((cs.drop f4.offset).take (P.cellsOf f4.type)) = some y4 ∧ DataW.trod enc P w base spare held n f5.type ((cs.drop f5.offset).take (P.cellsOf f5.type)) = some y5 ∧
      DataW.trod enc P w base spare held n f6.type ((cs.drop f6.offset).take (P.cellsOf f6.type)) = some y6 ∧ DataW.trod enc P w base spare held n f7.type ((cs.drop f7.offset).take (P.cellsOf f7.type)) = some y7 := by
  obtain ⟨xs, n, _, rfl, hl, hlen, hf⟩ := DataW.trod_struct ht h
  match xs, hlen with
  | [y0, y1, y2, y3, y4, y5, y6, y7], _ =>
    exact ⟨y0, y1, y2, y3, y4, y5, y6, y7, n, by simp, by simpa using hf 0 f0 rfl, by simpa using hf 1 f1 rfl, by simpa using hf 2 f2 rfl, by simpa using hf 3 f3 rfl, by simpa using hf 4 f4 rfl, by simpa using hf 5 f5 rfl, by simpa using hf 6 f6 rfl, by simpa using hf 7 f7 rfl⟩

theorem is_cfg {H : Type} {enc : TypeId × Value → H} {W : World} {v : Value} {d : DataW H} {ps : List MemPlace} {base : Nat} {spare : Nat → Bool} {b0 : Nat} {held : Bool}
    (hval : Value.okWide Tryd.prog W .any base 26 v) (h : DataW.Trod enc Tryd.prog W b0 spare held 26 v d ps)
    (hlt : ∀ x ∈ ps, x.block < W.heap.size) : ∃ (c : Cfg) (ao : Option Addr) (cap : Nat), v = .agg (cfgA c ao cap) ∧ SlV W ao cap (c.vs.map uV) ∧ CfgOk c := by
  obtain ⟨cs, rfl, hsz⟩ := okWide_struct Tryd.underlying26 hval
  obtain ⟨c0, c1, c2, c3, c4, c5, c6, c7, rfl⟩ := array8 (hsz.trans Tryd.cells_cfg)
  obtain ⟨fuel, hf⟩ := h
  obtain ⟨y0, y1, y2, y3, y4, y5, y6, y7, n, hx, h0, h1, h2, h3, h4, h5, h6, h7⟩ := trod_struct8 Tryd.underlying26 hf
  simp only [Tryd.cells_int, Tryd.cells_sets] at h0 h1 h2 h3 h4 h5 h6 h7
  obtain ⟨e0, r0⟩ := trod_i64 Tryd.underlying3 h0
  obtain ⟨xs, ao, cap, e1, hs, hv⟩ := trod_sets Tryd.underlying24 Tryd.cells_set Tryd.underlying29 h1 (fun q hq => hlt q (by
    rw [show ps = _ from hx]; simp [hq]))
  obtain ⟨e2, r2⟩ := trod_i64 Tryd.underlying3 h2
  obtain ⟨e3, r3⟩ := trod_i64 Tryd.underlying3 h3
  obtain ⟨e4, r4⟩ := trod_i64 Tryd.underlying3 h4
  obtain ⟨e5, r5⟩ := trod_i64 Tryd.underlying3 h5
  obtain ⟨e6, r6⟩ := trod_i64 Tryd.underlying3 h6
  obtain ⟨e7, r7⟩ := trod_i64 Tryd.underlying3 h7
  refine ⟨⟨intV c0, xs, intV c2, intV c3, intV c4, intV c5, intV c6, intV c7⟩, ao, cap, ?_, hs, ⟨r0, hv, r2, r3, r4, r5, r6, r7⟩⟩
  unfold cfgA
  rw [← e0, ← e2, ← e3, ← e4, ← e5, ← e6, ← e7, e1]

end Go.Proofs.YtnipoknmhcgplaaDoor
