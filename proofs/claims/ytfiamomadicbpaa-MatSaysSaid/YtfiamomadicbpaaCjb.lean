/-
  Squares that may be: how long their rows are.
-/
import Derived.Test.YtfiamomadicbpaaCsq
namespace Go.Proofs.Ytfiamomadicbpaa
open Go.RowKit

theorem good_rows {n : Nat} {m : List (List Nat)} (h : goodM (n : Int) m = true) : ∀ r ∈ m, r.length ≤ 10000 := by
  obtain ⟨k, e, h1, h2, h3, h4⟩ := goodM_is h
  exact fun r hr => by rw [h4 r hr]; omega

end Go.Proofs.Ytfiamomadicbpaa
