/-
  Slices of parts, of floats, that come in, as the walks ask for them.
-/
import Derived.Test.YthakbcfjpnielaaLopen
import Derived.Test.YthakbcfjpnielaaPpt
import Derived.Lib.SmallJoins
namespace Go.Proofs.Ythakbcfjpnielaa
open Go.ChangeShapes Go.WideShapes Go.ChangeAt Go.RowKit Go.Deep

def intV : Value → Int
  | .int _ z => z
  | _ => 0

theorem trod_f64 {H : Type} {enc : TypeId × Value → H} {P : Program} {w : World} {base : Nat} {spare : Nat → Bool} {held : Bool} {fuel : Nat} {t : TypeId} {v : Value} {x : DataW H × List MemPlace}
    (ht : P.underlying t = some (.float .f64)) (h : DataW.trod enc P w base spare held fuel t [v] = some x) : v = fV (natOf v) ∧ natOf v < 18446744073709551616 := by
  cases fuel with
  | zero => simp [DataW.trod] at h
  | succ n =>
    cases v <;> simp [DataW.trod, ht] at h
    rename_i k b
    obtain ⟨⟨rfl, hw⟩, _⟩ := h
    exact ⟨rfl, wf_f64 hw⟩

theorem trod_i64 {H : Type} {enc : TypeId × Value → H} {P : Program} {w : World} {base : Nat} {spare : Nat → Bool} {held : Bool} {fuel : Nat} {t : TypeId} {v : Value} {x : DataW H × List MemPlace}
    (ht : P.underlying t = some (.int .i64)) (h : DataW.trod enc P w base spare held fuel t [v] = some x) : v = .int .i64 (intV v) ∧ (-9223372036854775808 ≤ intV v ∧ intV v ≤ 9223372036854775807) := by
  cases fuel with
  | zero => simp [DataW.trod] at h
  | succ n =>
    cases v <;> simp [DataW.trod, ht] at h
    rename_i k b
    obtain ⟨⟨rfl, hw⟩, _⟩ := h
    exact ⟨rfl, wf_i64 hw⟩

/-- A slice of bytes within other data. -/
theorem trod_u8s {H : Type} {enc : TypeId × Value → H} {P : Program} {W : World} {t e : TypeId} {v : Value} {x : DataW H × List MemPlace} {b0 : Nat} {spare : Nat → Bool} {held : Bool} {fuel : Nat}
    (ht : P.underlying t = some (.slice e)) (hc : P.cellsOf e = 1) (he : P.underlying e = some (.int .u8))
    (h : DataW.trod enc P W b0 spare held fuel t [v] = some x) (hlt : ∀ q ∈ x.2, q.block < W.heap.size) : ∃ (xs : List Nat) (a : Option Addr) (cap : Nat), v = .slice a xs.length cap ∧ SlAt bV 256 W a cap xs := by
  rcases open_slice1 ht hc h with ⟨hcs, hx⟩ | ⟨a, len, cap, m, n, V, D, Pl, hcs, hb, hl, hm, hmm, hx, hcell⟩
  · cases hcs
    exact ⟨[], none, 0, rfl, SlAt.none _ _ _⟩
  · cases hcs
    by_cases h0 : len = 0
    · subst h0
      exact ⟨[], some a, cap, rfl, by simp, by simp, hm, (fun e => by cases e), fun i hi => by simp at hi⟩
    · have hml : len ≤ m := by rw [hmm]; split <;> omega
      have hw : ∀ i, i < len → V i = bV (natOf (V i)) ∧ natOf (V i) < 256 := fun i hi => trod_u8 he (hcell i (by omega)).2
      obtain ⟨b, off, spot⟩ := a
      have hspot : spot = none := by simpa [Addr.add] using World.cell?_spot (hcell 0 (by omega)).1
      subst hspot
      have hbW : b < W.heap.size := hlt (.cell b off) (by
        rw [hx]
        exact List.mem_append_left _ (MemPlace.mem_row.2 ⟨0, by omega, by simp⟩))
      refine ⟨(List.range len).map fun i => natOf (V i), some ⟨b, off, none⟩, cap, by simp, ?_, by simpa using hl, hm, (fun e => by cases e), ?_⟩
      · intro x hx
        obtain ⟨i, hi, rfl⟩ := List.mem_map.1 hx
        exact (hw i (List.mem_range.1 hi)).2
      · intro i hi
        have hi' : i < len := by simpa using hi
        have := (hcell i (by omega)).1
        rw [add_spot, (hw i hi').1] at this
        exact ⟨b, off, rfl, hbW, by simpa using this⟩

theorem Try.cells_int : Try.prog.cellsOf 3 = 1 := by kernel_rfl
theorem Try.cells_u64 : Try.prog.cellsOf 29 = 1 := by kernel_rfl
theorem Try.cells_f64 : Try.prog.cellsOf 26 = 1 := by kernel_rfl
theorem Try.cells_u8s : Try.prog.cellsOf 32 = 1 := by kernel_rfl
theorem Try.cells_u8 : Try.prog.cellsOf 5 = 1 := by kernel_rfl
theorem Try.cells_part : Try.prog.cellsOf 46 = 4 := by kernel_rfl

theorem add_zero' (a : Addr) : a.add 0 = a := by simp [Addr.add]

/-- One part. -/
theorem is_part {H : Type} {enc : TypeId × Value → H} {W : World} {cs : List Value} {x : DataW H × List MemPlace} {b0 : Nat} {spare : Nat → Bool} {held : Bool} {fuel : Nat}
    (h : DataW.trod enc Try.prog W b0 spare held fuel 46 cs = some x) (hlt : ∀ q ∈ x.2, q.block < W.heap.size) :
    ∃ (q : Prt) (ab : Option Addr) (cb : Nat), cs = [.int .i64 q.kind, .int .u64 (q.num : Nat), .float .f64 q.flt, .slice ab q.bs.length cb] ∧ SlAt bV 256 W ab cb q.bs ∧
      (-9223372036854775808 ≤ q.kind ∧ q.kind ≤ 9223372036854775807) ∧ q.num < 18446744073709551616 ∧ q.flt < 18446744073709551616 := by
  obtain ⟨y0, y1, y2, y3, n, hx, hl, h0, h1, h2, h3⟩ := Joins.trod_struct4 Try.underlying46 h
  rw [Try.cells_part] at hl
  match cs, hl with
  | [c0, c1, c2, c3], _ =>
    simp only [Try.cells_int, Try.cells_u64, Try.cells_f64, Try.cells_u8s] at h0 h1 h2 h3
    obtain ⟨e0, r0⟩ := trod_i64 Try.underlying3 h0
    obtain ⟨e1, r1⟩ := trod_u64 Try.underlying29 h1
    obtain ⟨e2, r2⟩ := trod_f64 Try.underlying26 h2
    obtain ⟨bs, ab, cb, e3, hs⟩ := trod_u8s Try.underlying32 Try.cells_u8 Try.underlying5 h3 (fun q hq => hlt q (by rw [hx]; simp [hq]))
    refine ⟨⟨intV c0, natOf c1, natOf c2, bs⟩, ab, cb, ?_, hs, r0, r1, r2⟩
    rw [e3]
    simp only [List.cons.injEq, and_true]
    exact ⟨e0, e1, e2⟩

theorem is_parts {H : Type} {enc : TypeId × Value → H} {W : World} {v : Value} {d : DataW H} {ps : List MemPlace} {base : Nat} {spare : Nat → Bool} {b0 : Nat} {held : Bool}
    (hval : Value.okWide Try.prog W .any base 41 v) (h : DataW.Trod enc Try.prog W b0 spare held 41 v d ps)
    (hlt : ∀ x ∈ ps, x.block < W.heap.size) : ∃ (l : List Prt) (a : Option Addr) (cap : Nat), v = .slice a l.length cap ∧ PtAt W a cap l := by
  obtain ⟨a0, len, cap, rfl⟩ := okWide_slice Try.underlying41 hval
  obtain ⟨fuel, hf⟩ := h
  rcases open_slice Try.underlying41 hf with ⟨hcs, hx⟩ | ⟨a, len', cap', m, n, D, Pl, hcs, hb, hl, hm, hmm, hx, hcell⟩
  · simp [Value.cells] at hcs
    obtain ⟨rfl, rfl, rfl⟩ := hcs
    exact ⟨[], none, 0, rfl, by simp, by unfold maxLen; omega, fun _ => rfl, fun i hi => by simp at hi, fun i hi => by simp at hi⟩
  · simp [Value.cells] at hcs
    obtain ⟨rfl, rfl, rfl⟩ := hcs
    by_cases h0 : len = 0
    · subst h0
      exact ⟨[], some a, cap, rfl, by simp, hm, (fun e => by cases e), fun i hi => by simp at hi, fun i hi => by simp at hi⟩
    · have hml : len ≤ m := by rw [hmm]; split <;> omega
      rw [Try.cells_part] at hx hcell
      have hps : ps = MemPlace.row a (m * 4) ++ (List.range m).flatMap Pl := (Prod.mk.inj hx).2
      have hone : ∀ i, i < len → ∃ (r : Prt × Option Addr × Nat), W.cells? b0 (a.add (i * 4)) 4 = some [.int .i64 r.1.kind, .int .u64 (r.1.num : Nat), .float .f64 r.1.flt, .slice r.2.1 r.1.bs.length r.2.2] ∧ SlAt bV 256 W r.2.1 r.2.2 r.1.bs ∧
          (-9223372036854775808 ≤ r.1.kind ∧ r.1.kind ≤ 9223372036854775807) ∧ r.1.num < 18446744073709551616 ∧ r.1.flt < 18446744073709551616 := fun i hi => by
        obtain ⟨cs', h1, h2⟩ := hcell i (by omega)
        obtain ⟨q, ab, cb, rfl, hs, r0, r1, r2⟩ := is_part h2 (fun q hq => hlt q (by
          rw [hps]
          exact List.mem_append_right _ (List.mem_flatMap.2 ⟨i, List.mem_range.2 (by omega), hq⟩)))
        exact ⟨⟨q, ab, cb⟩, h1, hs, r0, r1, r2⟩
      have : Inhabited (Prt × Option Addr × Nat) := ⟨⟨⟨0, 0, 0, []⟩, none, 0⟩⟩
      obtain ⟨R, hR⟩ := choose_lt hone
      obtain ⟨b, off, spot⟩ := a
      have c0 : W.cell? ((⟨b, off, spot⟩ : Addr).add (0 * 4)) = some _ := (World.cells?_some (hR 0 (by omega)).1).2.2 0 (by omega) |> fun h => by simpa [add_zero'] using h
      have hspot : spot = none := by simpa [Addr.add] using World.cell?_spot c0
      subst hspot
      have hbW : b < W.heap.size := hlt (.cell b off) (by
        rw [hps]
        exact List.mem_append_left _ (MemPlace.mem_row.2 ⟨0, by omega, by simp⟩))
      have hc : ∀ i, i < len → ∀ j, j < 4 → W.cell? ⟨b, off + i * 4 + j, none⟩ = [Value.int .i64 (R i).1.kind, Value.int .u64 ((R i).1.num : Nat), Value.float .f64 (R i).1.flt, Value.slice (R i).2.1 (R i).1.bs.length (R i).2.2][j]? := fun i hi j hj => by
        have h := (World.cells?_some (hR i hi).1).2.2 j hj
        rw [add_spot, add_spot] at h
        exact h
      refine ⟨(List.range len).map fun i => (R i).1, some ⟨b, off, none⟩, cap, by simp, by simpa using hl, hm, (fun e => by cases e), fun i hi => ?_, fun i hi => ?_⟩
      · have hi' : i < len := by simpa using hi
        refine ⟨b, off, (R i).2.1, (R i).2.2, rfl, hbW, ?_, ?_, ?_, ?_, ?_⟩
        · simpa using hc i hi' 0 (by decide)
        · simpa using hc i hi' 1 (by decide)
        · simpa using hc i hi' 2 (by decide)
        · simpa using hc i hi' 3 (by decide)
        · simpa using (hR i hi').2.1
      · have hi' : i < len := by simpa using hi
        simpa using (hR i hi').2.2

end Go.Proofs.Ythakbcfjpnielaa
