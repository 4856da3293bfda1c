import Derived.Test.YtopnagjbdjicaaaPopbm
import Derived.Test.YtopnagjbdjicaaaMan
import Derived.Deep.Slices
import Derived.Deep.Strs

/-
  Slices of acts that come in (three numbers, a set, bytes each).
-/
namespace Go.Proofs.Ytopnagjbdjicaaa
open Go.ChangeShapes Go.WideShapes Go.ChangeAt Go.RowKit Go.Deep

theorem add_zeroF (a : Addr) : a.add 0 = a := by simp [Addr.add]
theorem Try.cells_fa : Try.prog.cellsOf 51 = 5 := by kernel_rfl
theorem Try.cells_fint : Try.prog.cellsOf 3 = 1 := by kernel_rfl
theorem Try.cells_fu64 : Try.prog.cellsOf 29 = 1 := by kernel_rfl
theorem Try.cells_fu8s : Try.prog.cellsOf 32 = 1 := by kernel_rfl
theorem Try.cells_fu8 : Try.prog.cellsOf 5 = 1 := by kernel_rfl
theorem trod_s5 {H : Type} {enc : TypeId × Value → H} {P : Program} {w : World} {base : Nat} {spare : Nat → Bool} {held : Bool} {t : TypeId} {f0 f1 f2 f3 f4 : Field} {fuel : Nat} {cs : List Value} {x : DataW H × List MemPlace} (ht : P.underlying t = some (.struct #[f0, f1, f2, f3, f4])) (h : DataW.trod enc P w base spare held fuel t cs = some x) :
    ∃ y0 y1 y2 y3 y4 n, x = (.agg [y0.1, y1.1, y2.1, y3.1, y4.1], y0.2 ++ (y1.2 ++ (y2.2 ++ (y3.2 ++ y4.2)))) ∧ cs.length = P.cellsOf t ∧ DataW.trod enc P w base spare held n f0.type ((cs.drop f0.offset).take (P.cellsOf f0.type)) = some y0 ∧
      DataW.trod enc P w base spare held n f1.type ((cs.drop f1.offset).take (P.cellsOf f1.type)) = some y1 ∧ DataW.trod enc P w base spare held n f2.type ((cs.drop f2.offset).take (P.cellsOf f2.type)) = some y2 ∧
      DataW.trod enc P w base spare held n f3.type ((cs.drop f3.offset).take (P.cellsOf f3.type)) = some y3 ∧ DataW.trod enc P w base spare held n f4.type ((cs.drop f4.offset).take (P.cellsOf f4.type)) = some y4 := by
  obtain ⟨xs, n, _, rfl, hl, hlen, hf⟩ := DataW.trod_struct ht h
  match xs, hlen with
  | [y0, y1, y2, y3, y4], _ => exact ⟨y0, y1, y2, y3, y4, n, by simp, hl, by simpa using hf 0 f0 rfl, by simpa using hf 1 f1 rfl, by simpa using hf 2 f2 rfl, by simpa using hf 3 f3 rfl, by simpa using hf 4 f4 rfl⟩
def actF (q : Fa) : List Value := [.int .i64 q.op, .int .i64 q.fr, .int .i64 q.pl, .int .u64 (q.t : Int), .slice q.s.a q.s.l.length q.s.c]

set_option maxRecDepth 20000 in
/-- One act. -/
theorem is_fact {H : Type} {enc : TypeId × Value → H} {W : World} {cs : List Value} {x : DataW H × List MemPlace} {b0 : Nat} {spare : Nat → Bool} {held : Bool} {fuel : Nat}
    (h : DataW.trod enc Try.prog W b0 spare held fuel 51 cs = some x) (hlt : ∀ q ∈ x.2, q.block < W.heap.size) : ∃ (q : Fa), cs = actF q ∧ SlAt bV 256 W q.s.a q.s.c q.s.l ∧ q.t < 18446744073709551616 ∧ IntOk q.fr := by
  obtain ⟨y0, y1, y2, y3, y4, n, hx, hl, h0, h1, h2, h3, h4⟩ := trod_s5 Try.underlying51 h
  rw [Try.cells_fa] at hl
  match cs, hl with
  | [c0, c1, c2, c3, c4], _ =>
    simp only [Try.cells_fint, Try.cells_fu64, Try.cells_fu8s] at h0 h1 h2 h3 h4
    obtain ⟨e0, -⟩ := trod_i64 Try.underlying3 h0
    obtain ⟨e1, l1⟩ := trod_i64 Try.underlying3 h1
    obtain ⟨e2, -⟩ := trod_i64 Try.underlying3 h2
    obtain ⟨e3, l3⟩ := trod_u64 Try.underlying29 h3
    obtain ⟨bs, ab, cb, e4, hs⟩ := trod_u8s Try.underlying32 Try.cells_fu8 Try.underlying5 h4 (fun q hq => hlt q (by rw [hx]; simp [hq]))
    refine ⟨⟨intV c0, intV c1, intV c2, natOf c3, ⟨ab, cb, bs⟩⟩, ?_, hs, l3, l1⟩
    unfold actF
    rw [e4]
    simp only [List.cons.injEq, and_true]
    exact ⟨e0, e1, e2, e3⟩

set_option maxRecDepth 20000 in
theorem is_facts {H : Type} {enc : TypeId × Value → H} {W : World} {v : Value} {d : DataW H} {ps : List MemPlace} {base : Nat} {spare : Nat → Bool} {b0 : Nat} {held : Bool}
    (hval : Value.okWide Try.prog W .any base 47 v) (h : DataW.Trod enc Try.prog W b0 spare held 47 v d ps)
    (hlt : ∀ x ∈ ps, x.block < W.heap.size) : ∃ (l : List Fa) (a : Option Addr) (cap : Nat), v = .slice a l.length cap ∧ FaAt W a cap l := by
  obtain ⟨a0, len, cap, rfl⟩ := okWide_slice Try.underlying47 hval
  obtain ⟨fuel, hf⟩ := h
  rcases open_slice Try.underlying47 hf with ⟨hcs, hx⟩ | ⟨a, len', cap', m, n, D, Pl, hcs, hb, hl, hm, hmm, hx, hcell⟩
  · simp [Value.cells] at hcs
    obtain ⟨rfl, rfl, rfl⟩ := hcs
    exact ⟨[], none, 0, rfl, by simp, by unfold maxLen; omega, fun _ => rfl, fun i hi => by simp at hi, fun x h => by cases h⟩
  · simp [Value.cells] at hcs
    obtain ⟨rfl, rfl, rfl⟩ := hcs
    by_cases h0 : len = 0
    · subst h0
      exact ⟨[], some a, cap, rfl, by simp, hm, (fun e => by cases e), fun i hi => by simp at hi, fun x h => by cases h⟩
    · have hml : len ≤ m := by rw [hmm]; split <;> omega
      rw [Try.cells_fa] at hx hcell
      have hps : ps = MemPlace.row a (m * 5) ++ (List.range m).flatMap Pl := (Prod.mk.inj hx).2
      have hone : ∀ i, i < len → ∃ (r : Fa), W.cells? b0 (a.add (i * 5)) 5 = some (actF r) ∧ SlAt bV 256 W r.s.a r.s.c r.s.l ∧ r.t < 18446744073709551616 ∧ IntOk r.fr := fun i hi => by
        obtain ⟨cs', h1, h2⟩ := hcell i (by omega)
        obtain ⟨q, rfl, hq⟩ := is_fact h2 (fun q hq => hlt q (by
          rw [hps]
          exact List.mem_append_right _ (List.mem_flatMap.2 ⟨i, List.mem_range.2 (by omega), hq⟩)))
        exact ⟨q, h1, hq⟩
      obtain ⟨R, hR⟩ := choose_lt hone
      obtain ⟨b, off, spot⟩ := a
      have c0 : W.cell? ((⟨b, off, spot⟩ : Addr).add (0 * 5)) = some _ := (World.cells?_some (hR 0 (by omega)).1).2.2 0 (by omega) |> fun h => by simpa [add_zeroF, actF] using h
      have hspot : spot = none := by simpa [Addr.add] using World.cell?_spot c0
      subst hspot
      have hbW : b < W.heap.size := hlt (.cell b off) (by
        rw [hps]
        exact List.mem_append_left _ (MemPlace.mem_row.2 ⟨0, by omega, by simp⟩))
      have hc : ∀ i, i < len → ∀ j, j < 5 → W.cell? ⟨b, off + i * 5 + j, none⟩ = (actF (R i))[j]? := fun i hi j hj => by
        have h := (World.cells?_some (hR i hi).1).2.2 j hj
        rw [Addr.add_lit, Addr.add_lit] at h
        exact h
      refine ⟨(List.range len).map R, some ⟨b, off, none⟩, cap, by simp, by simpa using hl, hm, (fun e => by cases e), fun i hi => ?_, fun x hx => ?_⟩
      · have hi' : i < len := by simpa using hi
        refine ⟨b, off, rfl, hbW, ?_, ?_, ?_, ?_, ?_⟩
        · simpa [actF] using hc i hi' 0 (by decide)
        · simpa [actF] using hc i hi' 1 (by decide)
        · simpa [actF] using hc i hi' 2 (by decide)
        · simpa [actF] using hc i hi' 3 (by decide)
        · simpa [actF] using hc i hi' 4 (by decide)
      · obtain ⟨i, hi, rfl⟩ := List.mem_map.1 hx
        exact (hR i (List.mem_range.1 hi)).2

end Go.Proofs.Ytopnagjbdjicaaa
