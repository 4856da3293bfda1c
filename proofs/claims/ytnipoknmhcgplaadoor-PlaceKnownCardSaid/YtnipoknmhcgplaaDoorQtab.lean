/-
  What the listed variable gives the walks.
-/
import Derived.Test.YtnipoknmhcgplaaDoorQfst
import Derived.Test.YtnipoknmhcgplaaDoorLift
namespace Go.Proofs.YtnipoknmhcgplaaDoor

theorem getD_cast (l : List Nat) (j : Nat) : (l.map fun (x : Nat) => (x : Int)).getD j 0 = ((l.getD j 0 : Nat) : Int) := by
  rw [List.getD_eq_getElem?_getD, List.getD_eq_getElem?_getD, List.getElem?_map]
  cases l[j]? <;> rfl

theorem tz_of {W : World} {laid : List (String × DataW Unit)} (h : laidMetH Tryd.prog laid W) (hh : (laid.all fun x => x.2.handleName?.isNone) = true)
    (h1 : laid[0]? = some ("math/bits.deBruijn64tab", Rows.laid_math_bits_deBruijn64tab)) : TabAt 0 Lib.deBruijn64tab W := fun j hj => by
  have e := tab_cell (k := .u8) (zs := Lib.deBruijn64tab.map fun (x : Nat) => (x : Int)) (n := 64) (t := 60) (e := 5) (g := 0)
    0 hh h h1 (by kernel_rfl) (by kernel_rfl) (by kernel_rfl) (by kernel_rfl) (by kernel_rfl) (by kernel_rfl) j (by rw [List.length_map]; exact hj)
  rw [getD_cast] at e
  exact e

end Go.Proofs.YtnipoknmhcgplaaDoor
