/-
  Messages that come in, as the walks ask for them.
-/
import Derived.Test.YtjdnaonhfacpoaaPopn
import Derived.Test.YtjdnaonhfacpoaaJmsg
namespace Go.Proofs.Ytjdnaonhfacpoaa
open Go.ChangeShapes Go.WideShapes Go.ChangeAt Go.RowKit Go.Deep

theorem Try.cells_set : Try.prog.cellsOf 25 = 1 := by kernel_rfl
theorem Try.cells_msg : Try.prog.cellsOf 29 = 10 := by kernel_rfl

theorem array10 {α : Type} {cs : Array α} (h : cs.size = 10) : ∃ c0 c1 c2 c3 c4 c5 c6 c7 c8 c9, cs = #[c0, c1, c2, c3, c4, c5, c6, c7, c8, c9] := by
  obtain ⟨l⟩ := cs
  match l, h with
  | [c0, c1, c2, c3, c4, c5, c6, c7, c8, c9], _ => exact ⟨c0, c1, c2, c3, c4, c5, c6, c7, c8, c9, rfl⟩

/-- A struct of ten fields. -/
theorem trod_struct10 {H : Type} {enc : TypeId × Value → H} {P : Program} {w : World} {base : Nat} {spare : Nat → Bool} {held : Bool} {t : TypeId} {f0 f1 f2 f3 f4 f5 f6 f7 f8 f9 : Field} {fuel : Nat} {cs : List Value} {x : DataW H × List MemPlace}
    (ht : P.underlying t = some (.struct #[f0, f1, f2, f3, f4, f5, f6, f7, f8, f9])) (h : DataW.trod enc P w base spare held fuel t cs = some x) :
    ∃ y0 y1 y2 y3 y4 y5 y6 y7 y8 y9 n, x.2 = y0.2 ++ (y1.2 ++ (y2.2 ++ (y3.2 ++ (y4.2 ++ (y5.2 ++ (y6.2 ++ (y7.2 ++ (y8.2 ++ (y9.2))))))))) ∧
      DataW.trod enc P w base spare held n f0.type ((cs.drop f0.offset).take (P.cellsOf f0.type)) = some y0 ∧ DataW.trod enc P w base spare held n f1.type ((cs.drop f1.offset).take (P.cellsOf f1.type)) = some y1 ∧ DataW.trod enc P w base spare held n f2.type ((cs.drop f2.offset).take (P.cellsOf f2.type)) = some y2 ∧ DataW.trod enc P w base spare held n f3.type ((cs.drop f3.offset).take (P.cellsOf f3.type)) = some y3 ∧ DataW.trod enc P w base spare held n f4.type ((cs.drop f4.offset).take (P.cellsOf f4.type)) = some y4 ∧ DataW.trod enc P w base spare held n f5.type ((cs.drop f5.offset).take (P.cellsOf f5.type)) = some y5 ∧ DataW.trod enc P w base spare held n f6.type ((cs.drop f6.offset).take (P.cellsOf f6.type)) = some y6 ∧ DataW.trod enc P w base spare held n f7.type ((cs.drop f7.offset).take (P.cellsOf f7.type)) = some y7 ∧ DataW.trod enc P w base spare held n f8.type ((cs.drop f8.offset).take (P.cellsOf f8.type)) = some y8 ∧ DataW.trod enc P w base spare held n f9.type ((cs.drop f9.offset).take (P.cellsOf f9.type)) = some y9 := by
  obtain ⟨xs, n, _, rfl, hl, hlen, hf⟩ := DataW.trod_struct ht h
  match xs, hlen with
  | [y0, y1, y2, y3, y4, y5, y6, y7, y8, y9], _ =>
    exact ⟨y0, y1, y2, y3, y4, y5, y6, y7, y8, y9, n, by simp, by simpa using hf 0 f0 rfl, by simpa using hf 1 f1 rfl, by simpa using hf 2 f2 rfl, by simpa using hf 3 f3 rfl, by simpa using hf 4 f4 rfl, by simpa using hf 5 f5 rfl, by simpa using hf 6 f6 rfl, by simpa using hf 7 f7 rfl, by simpa using hf 8 f8 rfl, by simpa using hf 9 f9 rfl⟩

theorem is_msg {H : Type} {enc : TypeId × Value → H} {W : World} {v : Value} {d : DataW H} {ps : List MemPlace} {base : Nat} {spare : Nat → Bool} {b0 : Nat} {held : Bool}
    (hval : Value.okWide Try.prog W .any base 29 v) (h : DataW.Trod enc Try.prog W b0 spare held 29 v d ps)
    (hlt : ∀ x ∈ ps, x.block < W.heap.size) : ∃ (m : Msg) (ba : Option Addr) (bc : Nat) (sa : Option Addr) (sc : Nat), v = .agg (msgA m ba bc sa sc) ∧ MsgS W m ba bc sa sc ∧ MsgOk m := by
  obtain ⟨cs, rfl, hsz⟩ := okWide_struct Try.underlying29 hval
  obtain ⟨c0, c1, c2, c3, c4, c5, c6, c7, c8, c9, rfl⟩ := array10 (hsz.trans Try.cells_msg)
  obtain ⟨fuel, hf⟩ := h
  obtain ⟨y0, y1, y2, y3, y4, y5, y6, y7, y8, y9, n, hx, h0, h1, h2, h3, h4, h5, h6, h7, h8, h9⟩ := trod_struct10 Try.underlying29 hf
  simp only [Try.cells_int, Try.cells_u64, Try.cells_f64, Try.cells_u8s, Try.cells_set] at h0 h1 h2 h3 h4 h5 h6 h7 h8 h9
  obtain ⟨e0, r0⟩ := trod_i64 Try.underlying3 h0
  obtain ⟨e1, r1⟩ := trod_u64 Try.underlying24 h1
  obtain ⟨e2, r2⟩ := trod_u64 Try.underlying25 h2
  obtain ⟨e3, r3⟩ := trod_i64 Try.underlying3 h3
  obtain ⟨e4, r4⟩ := trod_i64 Try.underlying3 h4
  obtain ⟨e5, r5⟩ := trod_f64 Try.underlying26 h5
  obtain ⟨e6, r6⟩ := trod_i64 Try.underlying3 h6
  obtain ⟨e7, r7⟩ := trod_u64 Try.underlying24 h7
  obtain ⟨xs8, a8, cp8, e8, s8⟩ := trod_u8s Try.underlying27 Try.cells_u8 Try.underlying5 h8 (fun q hq => hlt q (by rw [show ps = _ from hx]; simp [hq]))
  obtain ⟨xs9, a9, cp9, e9, s9⟩ := trod_u8s Try.underlying27 Try.cells_u8 Try.underlying5 h9 (fun q hq => hlt q (by rw [show ps = _ from hx]; simp [hq]))
  refine ⟨⟨intV c0, natOf c1, natOf c2, intV c3, intV c4, natOf c5, intV c6, natOf c7, xs8, xs9⟩, a8, cp8, a9, cp9, ?_, ⟨s8, s9⟩, ⟨r1, r2, r5, r7⟩⟩
  unfold qV at e1 e2 e7
  unfold fV at e5
  unfold msgA
  rw [← e0, ← e1, ← e2, ← e3, ← e4, ← e5, ← e6, ← e7, e8, e9]

end Go.Proofs.Ytjdnaonhfacpoaa
