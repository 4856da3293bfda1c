import Derived.Test.YtbmpeadoicjpnaaPopbm
import Derived.Test.YtbmpeadoicjpnaaIgem
import Derived.Deep.Slices
import Derived.Deep.Strs

/-
  Slices of entries that come in; an entry.
-/
namespace Go.Proofs.Ytbmpeadoicjpnaa
open Go.ChangeShapes Go.WideShapes Go.ChangeAt Go.RowKit Go.Deep

theorem add_zeroE (a : Addr) : a.add 0 = a := by simp [Addr.add]
theorem Try.cells_en : Try.prog.cellsOf 26 = 3 := by kernel_rfl
theorem Try.cells_eint : Try.prog.cellsOf 3 = 1 := by kernel_rfl
theorem Try.cells_eu64 : Try.prog.cellsOf 23 = 1 := by kernel_rfl
theorem Try.cells_eset : Try.prog.cellsOf 24 = 1 := by kernel_rfl
theorem array3e {α : Type} {cs : Array α} (h : cs.size = 3) : ∃ c0 c1 c2, cs = #[c0, c1, c2] := by
  obtain ⟨l⟩ := cs
  match l, h with
  | [c0, c1, c2], _ => exact ⟨c0, c1, c2, rfl⟩

set_option maxRecDepth 20000 in
/-- One entry. -/
theorem is_xc {H : Type} {enc : TypeId × Value → H} {W : World} {cs : List Value} {x : DataW H × List MemPlace} {b0 : Nat} {spare : Nat → Bool} {held : Bool} {fuel : Nat}
    (h : DataW.trod enc Try.prog W b0 spare held fuel 26 cs = some x) : ∃ (q : Le), cs = xC q ∧ OkX q := by
  obtain ⟨y0, y1, y2, n, -, hl, h0, h1, h2⟩ := trod_struct3 Try.underlying26 h
  rw [Try.cells_en] at hl
  match cs, hl with
  | [c0, c1, c2], _ =>
    simp only [Try.cells_eint, Try.cells_eu64, Try.cells_eset] at h0 h1 h2
    obtain ⟨e0, l0⟩ := trod_i64 Try.underlying3 h0
    obtain ⟨e1, l1⟩ := trod_u64 Try.underlying23 h1
    obtain ⟨e2, l2⟩ := trod_u64 Try.underlying24 h2
    refine ⟨⟨intV c0, natOf c1, natOf c2⟩, ?_, l0, l1, l2⟩
    unfold xC
    simp only [List.cons.injEq, and_true]
    exact ⟨e0, e1, e2⟩
set_option maxRecDepth 20000 in
theorem is_ent {H : Type} {enc : TypeId × Value → H} {W : World} {v : Value} {d : DataW H} {ps : List MemPlace} {base : Nat} {spare : Nat → Bool} {b0 : Nat} {held : Bool}
    (hval : Value.okWide Try.prog W .any base 26 v) (h : DataW.Trod enc Try.prog W b0 spare held 26 v d ps) : ∃ (x : Le), v = xV x ∧ OkX x := by
  obtain ⟨cs, rfl, hsz⟩ := okWide_struct Try.underlying26 hval
  obtain ⟨c0, c1, c2, rfl⟩ := array3e (hsz.trans Try.cells_en)
  obtain ⟨fuel, hf⟩ := h
  obtain ⟨q, hq, ok⟩ := is_xc hf
  refine ⟨q, ?_, ok⟩
  unfold xC at hq
  unfold xV
  have h2 : [c0, c1, c2] = [.int .i64 q.f, .int .u64 (q.n : Int), .int .u64 (q.t : Int)] := hq
  simp only [List.cons.injEq, and_true] at h2
  obtain ⟨rfl, rfl, rfl⟩ := h2
  rfl

set_option maxRecDepth 20000 in
theorem is_ents {H : Type} {enc : TypeId × Value → H} {W : World} {v : Value} {d : DataW H} {ps : List MemPlace} {base : Nat} {spare : Nat → Bool} {b0 : Nat} {held : Bool}
    (hval : Value.okWide Try.prog W .any base 27 v) (h : DataW.Trod enc Try.prog W b0 spare held 27 v d ps)
    (hlt : ∀ x ∈ ps, x.block < W.heap.size) : ∃ (l : List Le) (a : Option Addr) (cap : Nat), v = .slice a l.length cap ∧ LgAt (fun _ => True) W a cap l.length l := by
  obtain ⟨a0, len, cap, rfl⟩ := okWide_slice Try.underlying27 hval
  obtain ⟨fuel, hf⟩ := h
  rcases open_slice Try.underlying27 hf with ⟨hcs, hx⟩ | ⟨a, len', cap', m, n, D, Pl, hcs, hb, hl, hm, hmm, hx, hcell⟩
  · simp [Value.cells] at hcs
    obtain ⟨rfl, rfl, rfl⟩ := hcs
    exact ⟨[], none, 0, rfl, LgAt.nil _ _⟩
  · simp [Value.cells] at hcs
    obtain ⟨rfl, rfl, rfl⟩ := hcs
    by_cases h0 : len = 0
    · subst h0
      exact ⟨[], some a, cap, rfl, ⟨⟨rfl, by simp, hm, (fun e => by cases e), fun j u h => by simp [lgC] at h⟩, rfl, by simp⟩⟩
    · have hml : len ≤ m := by rw [hmm]; split <;> omega
      rw [Try.cells_en] at hx hcell
      have hps : ps = MemPlace.row a (m * 3) ++ (List.range m).flatMap Pl := (Prod.mk.inj hx).2
      have hone : ∀ i, i < len → ∃ (r : Le), W.cells? b0 (a.add (i * 3)) 3 = some (xC r) ∧ OkX r := fun i hi => by
        obtain ⟨cs', h1, h2⟩ := hcell i (by omega)
        obtain ⟨q, rfl, hq⟩ := is_xc h2
        exact ⟨q, h1, hq⟩
      obtain ⟨R, hR⟩ := choose_lt hone
      obtain ⟨b, off, spot⟩ := a
      have c0 : W.cell? ((⟨b, off, spot⟩ : Addr).add (0 * 3)) = some _ := (World.cells?_some (hR 0 (by omega)).1).2.2 0 (by omega) |> fun h => by simpa [add_zeroE, xC] using h
      have hspot : spot = none := by simpa [Addr.add] using World.cell?_spot c0
      subst hspot
      have hbW : b < W.heap.size := hlt (.cell b off) (by
        rw [hps]
        exact List.mem_append_left _ (MemPlace.mem_row.2 ⟨0, by omega, by simp⟩))
      have hc : ∀ i, i < len → ∀ j, j < 3 → W.cell? ⟨b, off + (i * 3 + j), none⟩ = (xC (R i))[j]? := fun i hi j hj => by
        have h := (World.cells?_some (hR i hi).1).2.2 j hj
        rw [Addr.add_lit, Addr.add_lit, Nat.add_assoc] at h
        exact h
      have hlen : ((List.range len).map R).length = len := by simp
      refine ⟨(List.range len).map R, some ⟨b, off, none⟩, cap, by rw [hlen], ⟨⟨by rw [lgC_len], by rw [hlen]; exact hl, hm, (fun e => by cases e), fun j u hu => ?_⟩, rfl, fun x hx => ?_⟩⟩
      · have hj : j < len * 3 := by
          have := (List.getElem?_eq_some_iff.1 hu).1
          rw [lgC_len, hlen] at this
          exact this
        refine ⟨b, off, rfl, hbW, trivial, ?_⟩
        have hi : j / 3 < len := by omega
        have e : j = j / 3 * 3 + j % 3 := by omega
        have h1 := hc (j / 3) hi (j % 3) (by omega)
        rw [← e] at h1
        rw [h1, ← hu]
        obtain ⟨g0, g1, g2⟩ := lgC_at (j / 3) ((List.range len).map R) (by rw [hlen]; exact hi)
        have er : ((List.range len).map R)[j / 3]'(by rw [hlen]; exact hi) = R (j / 3) := by simp
        rw [er] at g0 g1 g2
        obtain h3 | h3 | h3 : j % 3 = 0 ∨ j % 3 = 1 ∨ j % 3 = 2 := by omega
        · rw [h3]; rw [h3, Nat.add_zero] at e; rw [← e] at g0; rw [g0]; rfl
        · rw [h3]; rw [h3] at e; rw [← e] at g1; rw [g1]; rfl
        · rw [h3]; rw [h3] at e; rw [← e] at g2; rw [g2]; rfl
      · obtain ⟨i, hi, rfl⟩ := List.mem_map.1 hx
        exact (hR i (List.mem_range.1 hi)).2

end Go.Proofs.Ytbmpeadoicjpnaa
