/-
  Frames that come in, as the walks ask for them.
-/
import Derived.Test.YthnglifjijfplaaPopb
import Derived.Test.YthnglifjijfplaaFfrm
namespace Go.Proofs.Ythnglifjijfplaa
open Go.ChangeShapes Go.WideShapes Go.ChangeAt Go.RowKit Go.Deep

theorem Try.cells_bool : Try.prog.cellsOf 4 = 1 := by kernel_rfl
theorem Try.cells_frm : Try.prog.cellsOf 27 = 3 := by kernel_rfl

theorem array3' {α : Type} {cs : Array α} (h : cs.size = 3) : ∃ c0 c1 c2, cs = #[c0, c1, c2] := by
  obtain ⟨l⟩ := cs
  match l, h with
  | [c0, c1, c2], _ => exact ⟨c0, c1, c2, rfl⟩
/-- A struct of three fields. -/
theorem trod_three {H : Type} {enc : TypeId × Value → H} {P : Program} {w : World} {base : Nat} {spare : Nat → Bool} {held : Bool} {t : TypeId} {f0 f1 f2 : Field} {fuel : Nat} {cs : List Value} {x : DataW H × List MemPlace}
    (ht : P.underlying t = some (.struct #[f0, f1, f2])) (h : DataW.trod enc P w base spare held fuel t cs = some x) :
    ∃ y0 y1 y2 n, x.2 = y0.2 ++ (y1.2 ++ y2.2) ∧
      DataW.trod enc P w base spare held n f0.type ((cs.drop f0.offset).take (P.cellsOf f0.type)) = some y0 ∧ DataW.trod enc P w base spare held n f1.type ((cs.drop f1.offset).take (P.cellsOf f1.type)) = some y1 ∧ DataW.trod enc P w base spare held n f2.type ((cs.drop f2.offset).take (P.cellsOf f2.type)) = some y2 := by
  obtain ⟨xs, n, _, rfl, hl, hlen, hf⟩ := DataW.trod_struct ht h
  match xs, hlen with
  | [y0, y1, y2], _ =>
    exact ⟨y0, y1, y2, n, by simp, by simpa using hf 0 f0 rfl, by simpa using hf 1 f1 rfl, by simpa using hf 2 f2 rfl⟩

theorem is_frm {H : Type} {enc : TypeId × Value → H} {W : World} {v : Value} {d : DataW H} {ps : List MemPlace} {base : Nat} {spare : Nat → Bool} {b0 : Nat} {held : Bool}
    (hval : Value.okWide Try.prog W .any base 27 v) (h : DataW.Trod enc Try.prog W b0 spare held 27 v d ps)
    (hlt : ∀ x ∈ ps, x.block < W.heap.size) : ∃ (f : Frm) (a : Option Addr) (c : Nat), v = .agg (frmA f a c) ∧ SlAt bV 256 W a c f.bod ∧ f.num < 18446744073709551616 := by
  obtain ⟨cs, rfl, hsz⟩ := okWide_struct Try.underlying27 hval
  obtain ⟨c0, c1, c2, rfl⟩ := array3' (hsz.trans Try.cells_frm)
  obtain ⟨fuel, hf⟩ := h
  obtain ⟨y0, y1, y2, n, hx, h0, h1, h2⟩ := trod_three Try.underlying27 hf
  simp only [Try.cells_bool, Try.cells_u64, Try.cells_u8s] at h0 h1 h2
  have e0 := trod_bool Try.underlying4 h0
  obtain ⟨e1, r1⟩ := trod_u64 Try.underlying25 h1
  obtain ⟨xs2, a2, cp2, e2, s2⟩ := trod_u8s Try.underlying23 Try.cells_u8 Try.underlying5 h2 (fun q hq => hlt q (by rw [show ps = _ from hx]; simp [hq]))
  refine ⟨⟨boolOf c0, natOf c1, xs2⟩, a2, cp2, ?_, s2, r1⟩
  unfold qV at e1
  unfold frmA
  rw [← e0, ← e1, e2]

end Go.Proofs.Ythnglifjijfplaa
