import Derived.Test.YtopnagjbdjicaaaMai
import Derived.Test.YtopnagjbdjicaaaCjmm
import Derived.Test.YtopnagjbdjicaaaMak

/-
  What the calls of mat tell.
-/
namespace Go.Proofs.Ytopnagjbdjicaaa
open Go.RowKit

theorem mat_at {A : Nat → Prop} {W : World} {a : Option Addr} {cap n : Nat} {m : List (List Nat)} {z i j : Int} (h : SqAt A W a cap n m) (_ : goodM z m = true) {v : Nat} (hv : atM m i j = v) :
    Calls Try.prog 17 #[.agg #[.int .i64 z, .slice a n cap], .int .i64 i, .int .i64 j] W fun e w' => e = .returned (.int .u64 (v : Int)) ∧ Below W.heap.size W w' := mat_any h hv

end Go.Proofs.Ytopnagjbdjicaaa
