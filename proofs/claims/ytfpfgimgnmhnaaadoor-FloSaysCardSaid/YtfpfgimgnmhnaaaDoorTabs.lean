/-
  What the listed variables give the walks.
-/
import Derived.Test.YtfpfgimgnmhnaaaDoorHexa
import Derived.Test.YtfpfgimgnmhnaaaDoorLift
namespace Go.Proofs.YtfpfgimgnmhnaaaDoor

/-- The table's fact, where the table stands second on the list. -/
theorem tab_of {W : World} {laid : List (String × DataW Unit)} (h : laidMetH Tryd.prog laid W) (hh : (laid.all fun x => x.2.handleName?.isNone) = true)
    (hi : laid[1]? = some ("math/bits.deBruijn64tab", Rows.laid_math_bits_deBruijn64tab)) : Tab W :=
  tab_cell (k := .u8) (zs := [0, 1, 56, 2, 57, 49, 28, 3, 61, 58, 42, 50, 38, 29, 17, 4, 62, 47, 59, 36, 45, 43, 51, 22, 53, 39, 33, 30, 24, 18, 12, 5, 63, 55, 48, 27, 60, 41, 37, 16, 46, 35, 44, 21, 52, 32, 23, 11, 54, 26, 40, 15, 34, 20, 31, 10, 25, 14, 19, 9, 13, 8, 7, 6]) (n := 64) (t := 106) (e := 5) (g := 6)
    1 hh h hi (by kernel_rfl) (by kernel_rfl) (by kernel_rfl) (by kernel_rfl) (by kernel_rfl) (by kernel_rfl) 15 (by decide)

end Go.Proofs.YtfpfgimgnmhnaaaDoor
