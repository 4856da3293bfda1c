/-
  New; is a number held?
-/
import Derived.Test.YthipdinpbihhmaaNdk
namespace Go.Proofs.Ythipdinpbihhmaa
open Go.RowKit

/-- A new one. -/
def DkNewPost (W : World) (win : Nat) (e : Ending) (w : World) : Prop :=
  ∃ p q, e = .returned (.tuple #[.pointer (some ⟨p, 0, none⟩), .int .i64 0]) ∧ DkAt w p q w.heap.size (Dk.new win) ∧ W.heap.size ≤ p ∧ W.heap.size ≤ q ∧ Below W.heap.size W w

theorem new_bad (z : Int) (W : World) (hz : z < 1 ∨ 16 < z) : Calls Try.prog 9 #[.int .i64 z] W fun e w' => e = .returned (.tuple #[.pointer none, .int .i64 1]) ∧ w' = W := by
  go_enter Try.func9, Try.ntmps9
  by_cases h : z < 1
  · have d1 : decide (z < 1) = true := decide_eq_true h
    clear h hz
    go_wp2_with fail
    go_ret2
    exact ⟨rfl, rfl⟩
  · have d1 : decide (z < 1) = false := decide_eq_false h
    have d2 : decide (z > 16) = true := decide_eq_true (by omega)
    clear h hz
    go_wp2_with fail
    go_ret2
    exact ⟨rfl, rfl⟩

theorem new_any (win : Nat) (W : World) (h1 : 1 ≤ win) (h2 : win ≤ 16) : Calls Try.prog 9 #[.int .i64 (win : Nat)] W (DkNewPost W win) := by
  have hmm := @run_makeMap Try.prog
  have P := Lib.hid (show DkNewPost W win (.returned (.tuple #[.pointer (some ⟨W.heap.size + 1, 0, none⟩), .int .i64 0])) ((W.alloc (.map #[] 0)).alloc (.cells #[.int .u64 ((win : Nat) : Int), .int .u64 1, .map (some W.heap.size)] 56)) from by
    have hc := Cel.new (W.alloc (.map #[] 0)) [.int .u64 ((win : Nat) : Int), .int .u64 1, .map (some W.heap.size)] 56
    rw [World.size_alloc] at hc
    have hb : Below W.heap.size W (W.alloc (.map #[] 0)) := (Below.refl _ _).alloc (Nat.le_refl _) _
    refine ⟨W.heap.size + 1, W.heap.size, rfl, ⟨[], ⟨hc.conv (fun o ho => ?_), by simp, by simp; omega, by omega, Nat.le_refl _, ⟨.map [], ?_, vw_nil⟩, fun x hx => by cases hx⟩, rfl⟩, by omega, Nat.le_refl _, hb.alloc (by simp) _⟩
    · match o, ho with
      | 0, _ => rfl
      | 1, _ => rfl
      | 2, _ => rfl
    · exact (World.ownsMap_made W Try.prog 30 anyR).alloc _)
  have d1 : decide ((win : Int) < 1) = false := decide_eq_false (by omega)
  have d2 : decide ((win : Int) > 16) = false := decide_eq_false (by omega)
  have wn : IntKind.u64.wrap (win : Int) = (win : Int) := by
    simp only [IntKind.wrap, IntKind.bits, IntKind.signed]
    simp
    omega
  clear h1 h2
  go_enter Try.func9, Try.ntmps9
  go_wp2_with fail
  go_ret2
  exact P.out

section
variable {W : World} {p q M : Nat} {S : Dk}
theorem holds_any {win next num : Nat} {E : List (Nat × Bd)} (h : DkV W p q M win next E) (hn : num < 18446744073709551616) (b : Bool) (hb : (E.lookup num).isSome = b) :
    Calls Try.prog 17 #[.pointer (some ⟨p, 0, none⟩), .int .u64 (num : Nat)] W fun e w' => e = .returned (.bool b) ∧ w' = W := by
  obtain ⟨c0, c1, c2⟩ := h.cells
  obtain ⟨D, hD, hV⟩ := h.map
  obtain ⟨v, ps, hrun, -⟩ := hD.look_ok keyed Try.underlying54 (zero_b W) (R := anyR) rfl (keyOf_n hn)
  rw [hV.has, hb] at hrun
  unfold uN at hrun
  clear h hD hV hb
  go_enter Try.func17, Try.ntmps17
  go_wp2_with fail
  go_ret
  exact ⟨rfl, rfl⟩
end
end Go.Proofs.Ythipdinpbihhmaa
