/-
  Slices of acts that come in (a number, bytes, a truth each).
-/
import Derived.Test.YtfbojcaedcimcaaGreatPopbm
import Derived.Test.YtfbojcaedcimcaaGreatTplm
import Derived.Deep.Slices
import Derived.Deep.Strs
namespace Go.Proofs.YtfbojcaedcimcaaGreat
open Go.ChangeShapes Go.WideShapes Go.ChangeAt Go.RowKit Go.Deep

theorem add_zero' (a : Addr) : a.add 0 = a := by simp [Addr.add]
theorem Tryz.cells_ta : Tryz.prog.cellsOf 34 = 3 := by kernel_rfl
theorem Tryz.cells_tint : Tryz.prog.cellsOf 3 = 1 := by kernel_rfl
theorem Tryz.cells_tu8s : Tryz.prog.cellsOf 32 = 1 := by kernel_rfl
theorem Tryz.cells_tu8 : Tryz.prog.cellsOf 5 = 1 := by kernel_rfl
theorem Tryz.cells_tbool : Tryz.prog.cellsOf 4 = 1 := by kernel_rfl
theorem trod_s3 {H : Type} {enc : TypeId × Value → H} {P : Program} {w : World} {base : Nat} {spare : Nat → Bool} {held : Bool} {t : TypeId} {f0 f1 f2 : Field} {fuel : Nat} {cs : List Value} {x : DataW H × List MemPlace} (ht : P.underlying t = some (.struct #[f0, f1, f2])) (h : DataW.trod enc P w base spare held fuel t cs = some x) :
    ∃ y0 y1 y2 n, x = (.agg [y0.1, y1.1, y2.1], y0.2 ++ (y1.2 ++ y2.2)) ∧ cs.length = P.cellsOf t ∧ DataW.trod enc P w base spare held n f0.type ((cs.drop f0.offset).take (P.cellsOf f0.type)) = some y0 ∧
      DataW.trod enc P w base spare held n f1.type ((cs.drop f1.offset).take (P.cellsOf f1.type)) = some y1 ∧ DataW.trod enc P w base spare held n f2.type ((cs.drop f2.offset).take (P.cellsOf f2.type)) = some y2 := by
  obtain ⟨xs, n, _, rfl, hl, hlen, hf⟩ := DataW.trod_struct ht h
  match xs, hlen with
  | [y0, y1, y2], _ => exact ⟨y0, y1, y2, n, by simp, hl, by simpa using hf 0 f0 rfl, by simpa using hf 1 f1 rfl, by simpa using hf 2 f2 rfl⟩
def actC (q : Ta) : List Value := [.int .i64 q.op, .slice q.b.a q.b.s.size q.b.c, .bool q.r]

set_option maxRecDepth 20000 in
/-- One act. -/
theorem is_tact {H : Type} {enc : TypeId × Value → H} {W : World} {cs : List Value} {x : DataW H × List MemPlace} {b0 : Nat} {spare : Nat → Bool} {held : Bool} {fuel : Nat}
    (h : DataW.trod enc Tryz.prog W b0 spare held fuel 34 cs = some x) (hlt : ∀ q ∈ x.2, q.block < W.heap.size) : ∃ (q : Ta), cs = actC q ∧ BodyV (fun _ => True) W q.b := by
  obtain ⟨y0, y1, y2, n, hx, hl, h0, h1, h2⟩ := trod_s3 Tryz.underlying34 h
  rw [Tryz.cells_ta] at hl
  match cs, hl with
  | [c0, c1, c2], _ =>
    simp only [Tryz.cells_tint, Tryz.cells_tu8s, Tryz.cells_tbool] at h0 h1 h2
    obtain ⟨e0, -⟩ := trod_i64 Tryz.underlying3 h0
    obtain ⟨bs, ab, cb, e1, hs⟩ := trod_u8s Tryz.underlying32 Tryz.cells_tu8 Tryz.underlying5 h1 (fun q hq => hlt q (by rw [hx]; simp [hq]))
    have e2 := trod_bool Tryz.underlying4 h2
    have hb : bsN (strB bs) = bs := bsN_strB hs.lt
    refine ⟨⟨intV c0, ⟨ab, cb, strB bs⟩, boolOf c2⟩, ?_, ⟨by rw [hb]; exact hs, fun _ _ _ => trivial⟩⟩
    unfold actC
    rw [e1, strB_len]
    simp only [List.cons.injEq, and_true]
    exact ⟨e0, trivial, e2⟩

set_option maxRecDepth 20000 in
theorem is_tacts {H : Type} {enc : TypeId × Value → H} {W : World} {v : Value} {d : DataW H} {ps : List MemPlace} {base : Nat} {spare : Nat → Bool} {b0 : Nat} {held : Bool}
    (hval : Value.okWide Tryz.prog W .any base 22 v) (h : DataW.Trod enc Tryz.prog W b0 spare held 22 v d ps)
    (hlt : ∀ x ∈ ps, x.block < W.heap.size) : ∃ (l : List Ta) (a : Option Addr) (cap : Nat), v = .slice a l.length cap ∧ TaAt W a cap l := by
  obtain ⟨a0, len, cap, rfl⟩ := okWide_slice Tryz.underlying22 hval
  obtain ⟨fuel, hf⟩ := h
  rcases open_slice Tryz.underlying22 hf with ⟨hcs, hx⟩ | ⟨a, len', cap', m, n, D, Pl, hcs, hb, hl, hm, hmm, hx, hcell⟩
  · simp [Value.cells] at hcs
    obtain ⟨rfl, rfl, rfl⟩ := hcs
    exact ⟨[], none, 0, rfl, by simp, by unfold maxLen; omega, fun _ => rfl, fun i hi => by simp at hi, fun x h => by cases h⟩
  · simp [Value.cells] at hcs
    obtain ⟨rfl, rfl, rfl⟩ := hcs
    by_cases h0 : len = 0
    · subst h0
      exact ⟨[], some a, cap, rfl, by simp, hm, (fun e => by cases e), fun i hi => by simp at hi, fun x h => by cases h⟩
    · have hml : len ≤ m := by rw [hmm]; split <;> omega
      rw [Tryz.cells_ta] at hx hcell
      have hps : ps = MemPlace.row a (m * 3) ++ (List.range m).flatMap Pl := (Prod.mk.inj hx).2
      have hone : ∀ i, i < len → ∃ (r : Ta), W.cells? b0 (a.add (i * 3)) 3 = some (actC r) ∧ BodyV (fun _ => True) W r.b := fun i hi => by
        obtain ⟨cs', h1, h2⟩ := hcell i (by omega)
        obtain ⟨q, rfl, hq⟩ := is_tact h2 (fun q hq => hlt q (by
          rw [hps]
          exact List.mem_append_right _ (List.mem_flatMap.2 ⟨i, List.mem_range.2 (by omega), hq⟩)))
        exact ⟨q, h1, hq⟩
      obtain ⟨R, hR⟩ := choose_lt hone
      obtain ⟨b, off, spot⟩ := a
      have c0 : W.cell? ((⟨b, off, spot⟩ : Addr).add (0 * 3)) = some _ := (World.cells?_some (hR 0 (by omega)).1).2.2 0 (by omega) |> fun h => by simpa [add_zero', actC] using h
      have hspot : spot = none := by simpa [Addr.add] using World.cell?_spot c0
      subst hspot
      have hbW : b < W.heap.size := hlt (.cell b off) (by
        rw [hps]
        exact List.mem_append_left _ (MemPlace.mem_row.2 ⟨0, by omega, by simp⟩))
      have hc : ∀ i, i < len → ∀ j, j < 3 → W.cell? ⟨b, off + i * 3 + j, none⟩ = (actC (R i))[j]? := fun i hi j hj => by
        have h := (World.cells?_some (hR i hi).1).2.2 j hj
        rw [Addr.add_lit, Addr.add_lit] at h
        exact h
      refine ⟨(List.range len).map R, some ⟨b, off, none⟩, cap, by simp, by simpa using hl, hm, (fun e => by cases e), fun i hi => ?_, fun x hx => ?_⟩
      · have hi' : i < len := by simpa using hi
        refine ⟨b, off, rfl, hbW, ?_, ?_, ?_⟩
        · simpa [actC] using hc i hi' 0 (by decide)
        · simpa [actC] using hc i hi' 1 (by decide)
        · simpa [actC] using hc i hi' 2 (by decide)
      · obtain ⟨i, hi, rfl⟩ := List.mem_map.1 hx
        exact (hR i (List.mem_range.1 hi)).2

end Go.Proofs.YtfbojcaedcimcaaGreat
