/-
  Slices of acts and of strings that come in, as the walks ask for them.
-/
import Derived.Test.YtmahbmmeeifaiaaPopb
import Derived.Test.YtmahbmmeeifaiaaGduo
import Derived.Test.YtmahbmmeeifaiaaGdr
import Derived.Deep.Slices
import Derived.Deep.Strs
namespace Go.Proofs.Ytmahbmmeeifaiaa
open Go.ChangeShapes Go.WideShapes Go.ChangeAt Go.RowKit Go.Deep

theorem add_zero' (a : Addr) : a.add 0 = a := by simp [Addr.add]
theorem Try.cells_sa : Try.prog.cellsOf 47 = 4 := by kernel_rfl
theorem Try.cells_str : Try.prog.cellsOf 9 = 1 := by kernel_rfl
theorem Try.cells_bool : Try.prog.cellsOf 4 = 1 := by kernel_rfl

def strOf : Value → ByteArray
  | .string s => s
  | _ => ⟨#[]⟩
theorem trod_strv {H : Type} {enc : TypeId × Value → H} {P : Program} {w : World} {base : Nat} {spare : Nat → Bool} {held : Bool} {fuel : Nat} {t : TypeId} {v : Value} {x : DataW H × List MemPlace}
    (ht : P.underlying t = some .string) (h : DataW.trod enc P w base spare held fuel t [v] = some x) : v = .string (strOf v) := by
  cases fuel with
  | zero => simp [DataW.trod] at h
  | succ n =>
    cases v <;> simp [DataW.trod, ht] at h
    rfl

set_option maxRecDepth 20000 in
/-- One act. -/
theorem is_sact {H : Type} {enc : TypeId × Value → H} {W : World} {cs : List Value} {x : DataW H × List MemPlace} {b0 : Nat} {spare : Nat → Bool} {held : Bool} {fuel : Nat}
    (h : DataW.trod enc Try.prog W b0 spare held fuel 47 cs = some x) : ∃ (q : Sa), cs = [.int .i64 q.op, .int .u64 (q.n : Int), .string q.b, .bool q.r] ∧ q.n < 18446744073709551616 := by
  obtain ⟨y0, y1, y2, y3, n, hx, hl, h0, h1, h2, h3⟩ := Joins.trod_struct4 Try.underlying47 h
  rw [Try.cells_sa] at hl
  match cs, hl with
  | [c0, c1, c2, c3], _ =>
    simp only [Try.cells_int, Try.cells_u64, Try.cells_str, Try.cells_bool] at h0 h1 h2 h3
    obtain ⟨e0, -⟩ := trod_i64 Try.underlying3 h0
    obtain ⟨e1, r1⟩ := trod_u64 Try.underlying32 h1
    have e2 := trod_strv Try.underlying9 h2
    have e3 := trod_bool Try.underlying4 h3
    refine ⟨⟨intV c0, natOf c1, strOf c2, boolOf c3⟩, ?_, r1⟩
    simp only [List.cons.injEq, and_true]
    exact ⟨e0, e1, e2, e3⟩

set_option maxRecDepth 20000 in
theorem is_sacts {H : Type} {enc : TypeId × Value → H} {W : World} {v : Value} {d : DataW H} {ps : List MemPlace} {base : Nat} {spare : Nat → Bool} {b0 : Nat} {held : Bool}
    (hval : Value.okWide Try.prog W .any base 43 v) (h : DataW.Trod enc Try.prog W b0 spare held 43 v d ps)
    (hlt : ∀ x ∈ ps, x.block < W.heap.size) : ∃ (l : List Sa) (a : Option Addr) (cap : Nat), v = .slice a l.length cap ∧ SaAt W a cap l := by
  obtain ⟨a0, len, cap, rfl⟩ := okWide_slice Try.underlying43 hval
  obtain ⟨fuel, hf⟩ := h
  rcases open_slice Try.underlying43 hf with ⟨hcs, hx⟩ | ⟨a, len', cap', m, n, D, Pl, hcs, hb, hl, hm, hmm, hx, hcell⟩
  · simp [Value.cells] at hcs
    obtain ⟨rfl, rfl, rfl⟩ := hcs
    exact ⟨[], none, 0, rfl, by simp, by unfold maxLen; omega, fun _ => rfl, (fun x h => by cases h), fun i hi => by simp at hi⟩
  · simp [Value.cells] at hcs
    obtain ⟨rfl, rfl, rfl⟩ := hcs
    by_cases h0 : len = 0
    · subst h0
      exact ⟨[], some a, cap, rfl, by simp, hm, (fun e => by cases e), (fun x h => by cases h), fun i hi => by simp at hi⟩
    · have hml : len ≤ m := by rw [hmm]; split <;> omega
      rw [Try.cells_sa] at hx hcell
      have hps : ps = MemPlace.row a (m * 4) ++ (List.range m).flatMap Pl := (Prod.mk.inj hx).2
      have hone : ∀ i, i < len → ∃ (r : Sa), W.cells? b0 (a.add (i * 4)) 4 = some [.int .i64 r.op, .int .u64 (r.n : Int), .string r.b, .bool r.r] ∧ r.n < 18446744073709551616 := fun i hi => by
        obtain ⟨cs', h1, h2⟩ := hcell i (by omega)
        obtain ⟨q, rfl, hq⟩ := is_sact h2
        exact ⟨q, h1, hq⟩
      have : Inhabited Sa := ⟨⟨0, 0, ⟨#[]⟩, false⟩⟩
      obtain ⟨R, hR⟩ := choose_lt hone
      obtain ⟨b, off, spot⟩ := a
      have c0 : W.cell? ((⟨b, off, spot⟩ : Addr).add (0 * 4)) = some _ := (World.cells?_some (hR 0 (by omega)).1).2.2 0 (by omega) |> fun h => by simpa [add_zero'] using h
      have hspot : spot = none := by simpa [Addr.add] using World.cell?_spot c0
      subst hspot
      have hbW : b < W.heap.size := hlt (.cell b off) (by
        rw [hps]
        exact List.mem_append_left _ (MemPlace.mem_row.2 ⟨0, by omega, by simp⟩))
      have hc : ∀ i, i < len → ∀ j, j < 4 → W.cell? ⟨b, off + i * 4 + j, none⟩ = [Value.int .i64 (R i).op, Value.int .u64 ((R i).n : Int), Value.string (R i).b, Value.bool (R i).r][j]? := fun i hi j hj => by
        have h := (World.cells?_some (hR i hi).1).2.2 j hj
        rw [Addr.add_lit, Addr.add_lit] at h
        exact h
      refine ⟨(List.range len).map R, some ⟨b, off, none⟩, cap, by simp, by simpa using hl, hm, (fun e => by cases e), fun x hx => ?_, fun i hi => ?_⟩
      · obtain ⟨i, hi, rfl⟩ := List.mem_map.1 hx
        exact (hR i (List.mem_range.1 hi)).2
      have hi' : i < len := by simpa using hi
      refine ⟨b, off, rfl, hbW, ?_, ?_, ?_, ?_⟩
      · simpa using hc i hi' 0 (by decide)
      · simpa using hc i hi' 1 (by decide)
      · simpa using hc i hi' 2 (by decide)
      · simpa using hc i hi' 3 (by decide)

set_option maxRecDepth 20000 in
theorem is_strs {H : Type} {enc : TypeId × Value → H} {W : World} {v : Value} {d : DataW H} {ps : List MemPlace} {base : Nat} {spare : Nat → Bool} {b0 : Nat} {held : Bool}
    (hval : Value.okWide Try.prog W .any base 53 v) (h : DataW.Trod enc Try.prog W b0 spare held 53 v d ps)
    (hlt : ∀ x ∈ ps, x.block < W.heap.size) : ∃ (l : List ByteArray) (a : Option Addr) (cap : Nat), v = .slice a l.length cap ∧ StrsAt W a cap l := by
  obtain ⟨a0, len, cap, rfl⟩ := okWide_slice Try.underlying53 hval
  obtain ⟨fuel, hf⟩ := h
  rcases open_strs Try.underlying53 Try.underlying9 Try.cells_str hf with ⟨hcs, hx⟩ | ⟨a, len', cap', m, Sx, hcs, hb, hl, hm, hmm, hx, hcell⟩
  · simp [Value.cells] at hcs
    obtain ⟨rfl, rfl, rfl⟩ := hcs
    exact ⟨[], none, 0, rfl, RowV.none _ _ _⟩
  · simp [Value.cells] at hcs
    obtain ⟨rfl, rfl, rfl⟩ := hcs
    by_cases h0 : len = 0
    · subst h0
      exact ⟨[], some a, cap, rfl, ⟨by simp, by simp, hm, (fun e => by cases e), fun j u hj => by simp at hj⟩⟩
    · have hml : len ≤ m := by rw [hmm]; split <;> omega
      obtain ⟨b, off, spot⟩ := a
      have hspot : spot = none := by simpa [Addr.add] using World.cell?_spot (hcell 0 (by omega)).1
      subst hspot
      have hbW : b < W.heap.size := hlt (.cell b off) (by
        rw [(Prod.mk.inj hx).2]
        exact MemPlace.mem_row.2 ⟨0, by omega, by simp⟩)
      refine ⟨(List.range len).map Sx, some ⟨b, off, none⟩, cap, by simp, ⟨by simp, by simpa using hl, hm, (fun e => by cases e), fun j u hj => ?_⟩⟩
      have hj2 : j < len := by
        have := (List.getElem?_eq_some_iff.1 hj).1
        simpa using this
      have hu : u = .string (Sx j) := by
        rw [List.getElem?_map, List.getElem?_map, List.getElem?_range hj2] at hj
        exact (Option.some.inj hj).symm
      subst hu
      refine ⟨b, off, rfl, hbW, trivial, ?_⟩
      have := (hcell j (by omega)).1
      rw [Addr.add_lit] at this
      exact this

end Go.Proofs.Ytmahbmmeeifaiaa
