/-
  What is written is read again: numbers, bytes, sets.
-/
import Derived.Test.YthnglifjijfplaaPrw
namespace Go.Proofs.Ythnglifjijfplaa
open Go.RowKit

theorem num_back {n most : Nat} (hn : n < 18446744073709551616) (hm : n ≤ most) (r : List Nat) : numR most (some (lebL n ++ r)) = (n, some r) := by
  show (if (getN (lebL n ++ r)).2 = 0 ∨ most < (getN (lebL n ++ r)).1 then _ else _) = _
  rw [getN_lebL hn]
  have := szN_pos n
  rw [if_neg (by simp only; omega)]
  show (n, some ((lebL n ++ r).drop (szN n))) = _
  rw [show szN n = (lebL n).length from rfl, List.drop_left' rfl]

theorem byt_back {bs : List Nat} {most : Int} (hm : (bs.length : Int) ≤ most) (hb : bs.length < 18446744073709551616) (r : List Nat) : bytR most (some (lebL bs.length ++ (bs ++ r))) = (bs, some r) := by
  have e := num_back (most := (max most 0).toNat) hb (by omega) (bs ++ r)
  unfold bytR
  rw [e]
  simp only [Option.getD_some, List.length_append]
  rw [if_neg (by omega), List.take_left' rfl]
  simp [List.drop_left' rfl]

theorem set_back {n : Nat} (hn : n < 18446744073709551616) (r : List Nat) : setR 18446744073709551615 (some (lebL n ++ r)) = (n, some r) := by
  unfold setR
  rw [num_back hn (by omega) r]
  simp

end Go.Proofs.Ythnglifjijfplaa
