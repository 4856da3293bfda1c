/-
  MatSays.
-/
import Derived.Test.YtfiamomadicbpaaCsx
import Derived.Test.YtfiamomadicbpaaCsy
import Derived.Test.YtfiamomadicbpaaCsz
import Derived.Test.YtfiamomadicbpaaCsw
namespace Go.Proofs.Ytfiamomadicbpaa
open Go.RowKit

theorem law_MatSays (z : Int) (L : List Rd) (ao0 : Option Addr) (c0 : Nat) (M : List Rd) (ao1 : Option Addr) (c1 : Nat) (i j : Int) (t : Nat) (W : World) (b0 : SqV W ao0 c0 L) (b1 : SqV W ao1 c1 M) (ht : t < 18446744073709551616) :
    Calls Try.prog 4 #[.int .i64 z, .slice ao0 L.length c0, .slice ao1 M.length c1, .int .i64 i, .int .i64 j, .int .u64 (t : Int)] W (VOk W) := by
  cases hA : goodM z (mOf L)
  · exact law_MatSays_x z L ao0 c0 M ao1 c1 i j t W b0 b1 ht hA
  · cases hB : goodM z (mOf M)
    · exact law_MatSays_y z L ao0 c0 M ao1 c1 i j t W b0 b1 ht hA hB
    · cases hC : (decide (0 ≤ i ∧ i < z) && decide (0 ≤ j ∧ j < z))
      · exact law_MatSays_z z L ao0 c0 M ao1 c1 i j t W b0 b1 ht hA hB hC
      · exact law_MatSays_w z L ao0 c0 M ao1 c1 i j t W b0 b1 ht hA hB hC

end Go.Proofs.Ytfiamomadicbpaa
