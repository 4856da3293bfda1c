/-
  The document's own: which messages may be.
-/
import Derived.Test.YtjdnaonhfacpoaaJgd
namespace Go.Proofs.Ytjdnaonhfacpoaa
open Go.RowKit

theorem rsame_of {a b : Nat} {r : Bool} (w : World) (ha : a < 18446744073709551616) (hb : b < 18446744073709551616) (h : sameN a b = r) :
    Calls Try.prog 34 #[.float .f64 a, .float .f64 b] w fun e w' => e = .returned (.bool r) ∧ w = w' := by
  subst h; exact rsame_any a b w ha hb

/-- What all kinds have. -/
def BaseP (m : Msg) : Prop :=
  (0 ≤ m.frm ∧ m.frm ≤ 15) ∧ 1 ≤ m.num ∧ m.to ≠ 0 ∧ m.to ≤ 65535 ∧ m.to.testBit m.frm.toNat = false ∧ (0 ≤ m.kind ∧ m.kind ≤ 3) ∧ m.bod.length ≤ 256 ∧ (m.kind ≠ 0 → m.bod.length = 0) ∧ (0 ≤ m.vr ∧ m.vr ≤ 15) ∧ (m.kind = 0 → m.vr = 0) ∧ m.stp.length ≤ 20000 ∧ (-1 ≤ m.wri ∧ m.wri ≤ 15)
theorem good_base {m : Msg} (h : GoodP m) : BaseP m := by
  obtain ⟨⟨h1, h2, h3, h4⟩, h5, h6, h7⟩ := h
  unfold BaseP
  rcases h6 with ⟨k, a, b, c⟩ | ⟨k, a, b, c⟩ | ⟨k, a, b⟩ | ⟨k, a, b⟩
  · have := c.2.1
    exact ⟨h1, h5, h2, h3, h4, by omega, a, by omega, by omega, by omega, h7, by omega⟩
  · have := a.1
    have := a.2
    exact ⟨h1, h5, h2, h3, h4, by omega, by omega, by omega, by omega, by omega, h7, by omega⟩
  · have := a.1
    have := a.2
    have := b.2.1
    exact ⟨h1, h5, h2, h3, h4, by omega, by omega, by omega, by omega, by omega, h7, by omega⟩
  · have := a.1
    have := a.2
    have := b.1
    exact ⟨h1, h5, h2, h3, h4, by omega, by omega, by omega, by omega, by omega, h7, by omega⟩
/-- What is left to ask, kind by kind. -/
theorem base_good {m : Msg} (h : BaseP m) : goodM m = if m.kind = 1 then (m.wri == m.frm) && decide (0 < m.tag) else if m.kind = 3 then (((m.tag : Int) == 0) == (m.wri == -1)) else sameN m.val 0 && ((m.wri == 0) && ((m.tag : Int) == 0)) := by
  obtain ⟨h1, h2, h3, h4, h5, h6, h7, h8, h9, h10, h11, h12⟩ := h
  have hway : WayP m := ⟨h1, h3, h4, h5⟩
  unfold goodM
  by_cases k1 : m.kind = 1
  · rw [if_pos k1]
    by_cases hw : m.wri = m.frm
    · rw [show (m.wri == m.frm) = true by simp [hw], Bool.true_and]
      refine decide_eq_decide.2 ⟨fun h => ?_, fun h => ⟨hway, by omega, Or.inr (Or.inl ⟨k1, ⟨h9, h8 (by omega)⟩, hw, h⟩), h11⟩⟩
      rcases h.2.2.1 with x | x | x | x
      · omega
      · exact x.2.2.2
      · omega
      · omega
    · rw [show (m.wri == m.frm) = false by simp [hw], Bool.false_and]
      refine decide_eq_false fun h => ?_
      rcases h.2.2.1 with x | x | x | x
      · omega
      · exact hw x.2.2.1
      · omega
      · omega
  rw [if_neg k1]
  by_cases k3 : m.kind = 3
  · rw [if_pos k3, two_tests]
    refine decide_eq_decide.2 ⟨fun h => ?_, fun h => ⟨hway, by omega, Or.inr (Or.inr (Or.inr ⟨k3, ⟨h9, h8 (by omega)⟩, h12, h⟩)), h11⟩⟩
    rcases h.2.2.1 with x | x | x | x
    · omega
    · omega
    · omega
    · exact x.2.2.2
  rw [if_neg k3]
  have e : (sameN m.val 0 && ((m.wri == 0) && ((m.tag : Int) == 0))) = decide (NoP m) := by
    rw [len_zero]
    unfold NoP
    by_cases a : sameN m.val 0 = true <;> by_cases b : m.wri = 0 <;> by_cases c : m.tag = 0 <;> simp [a, b, c]
  rw [e]
  by_cases k0 : m.kind = 0
  · refine decide_eq_decide.2 ⟨fun h => ?_, fun h => ⟨hway, by omega, Or.inl ⟨k0, h7, h10 k0, h⟩, h11⟩⟩
    rcases h.2.2.1 with x | x | x | x
    · exact x.2.2.2
    · omega
    · omega
    · omega
  · refine decide_eq_decide.2 ⟨fun h => ?_, fun h => ⟨hway, by omega, Or.inr (Or.inr (Or.inl ⟨by omega, ⟨h9, h8 k0⟩, h⟩)), h11⟩⟩
    rcases h.2.2.1 with x | x | x | x
    · omega
    · omega
    · exact x.2.2
    · omega

end Go.Proofs.Ytjdnaonhfacpoaa
