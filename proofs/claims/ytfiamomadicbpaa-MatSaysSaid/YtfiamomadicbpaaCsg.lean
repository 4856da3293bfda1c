/-
  What the calls of mat tell.
-/
import Derived.Test.YtfiamomadicbpaaCgp
import Derived.Test.YtfiamomadicbpaaCwi
import Derived.Test.YtfiamomadicbpaaCnw
import Derived.Test.YtfiamomadicbpaaCjm
import Derived.Test.YtfiamomadicbpaaCupm
import Derived.Test.YtfiamomadicbpaaCcm
namespace Go.Proofs.Ytfiamomadicbpaa
open Go.RowKit

theorem mat_at {A : Nat → Prop} {W : World} {a : Option Addr} {cap n : Nat} {m : List (List Nat)} {z i j : Int} (h : SqAt A W a cap n m) (_ : goodM z m = true) {v : Nat} (hv : atM m i j = v) :
    Calls Try.prog 16 #[.agg #[.int .i64 z, .slice a n cap], .int .i64 i, .int .i64 j] W fun e w' => e = .returned (.int .u64 (v : Int)) ∧ Below W.heap.size W w' := mat_any h hv

end Go.Proofs.Ytfiamomadicbpaa
