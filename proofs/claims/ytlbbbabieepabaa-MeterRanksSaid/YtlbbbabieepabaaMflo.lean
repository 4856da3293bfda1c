/-
  Sums of numbers with a point, as plain functions of their words; what no number is, is held as one.
-/
import Derived.Test.YtlbbbabieepabaaMends
import Derived.Laws.FloatArith
import Derived.Deep.Draws
namespace Go.Proofs.Ytlbbbabieepabaa
open Go.RowKit

/-- Two words that are one, or both no number. -/
def Sim (a b : Nat) : Prop := a = b ∨ (nanB a = true ∧ nanB b = true)
theorem Sim.refl (a : Nat) : Sim a a := Or.inl rfl
theorem Sim.symm {a b : Nat} (h : Sim a b) : Sim b a := h.elim (fun e => Or.inl e.symm) (fun ⟨x, y⟩ => Or.inr ⟨y, x⟩)
theorem Sim.trans {a b c : Nat} (h : Sim a b) (k : Sim b c) : Sim a c := by
  rcases h with rfl | ⟨x, y⟩
  · exact k
  · rcases k with rfl | ⟨z, t⟩
    · exact Or.inr ⟨x, y⟩
    · exact Or.inr ⟨x, t⟩

def opN (op : BinOp) (a b : Nat) : Nat := (floatBits op .f64 a b).getD nanW
def plusN (a b : Nat) : Nat := opN .add a b
def minusN (a b : Nat) : Nat := opN .sub a b
def quoN (a b : Nat) : Nat := opN .quo a b

def arithB (op : BinOp) : Bool := match op with | .add | .sub | .quo => true | _ => false

theorem nan_none (op : BinOp) (h : arithB op = true) (a b : Nat) (hn : nanB a = true ∨ nanB b = true) : floatBits op .f64 a b = none := by
  have key : (∃ s f, Ieee.double.read a = .nan s f) ∨ (∃ s f, Ieee.double.read b = .nan s f) := by
    rcases hn with h | h
    · exact Or.inl (Fl.read_nan a (of_decide_eq_true h))
    · exact Or.inr (Fl.read_nan b (of_decide_eq_true h))
  have e : (FloatKind.f64.format) = Ieee.double := rfl
  cases op <;> simp [arithB] at h <;> simp only [floatBits, e]
  · show ((Ieee.double.read a).sum (Ieee.double.read b)).map _ = none
    rcases key with ⟨s, f, h⟩ | ⟨s, f, h⟩ <;> rw [h]
    · rfl
    · cases Ieee.double.read a <;> rfl
  · show ((Ieee.double.read a).sum (Ieee.double.read b).opposite).map _ = none
    rcases key with ⟨s, f, h⟩ | ⟨s, f, h⟩ <;> rw [h]
    · rfl
    · cases Ieee.double.read a <;> rfl
  · show ((Ieee.double.read a).quotient _ (Ieee.double.read b)).map _ = none
    rcases key with ⟨s, f, h⟩ | ⟨s, f, h⟩ <;> rw [h]
    · rfl
    · cases Ieee.double.read a <;> rfl

theorem nanW_nan : nanB nanW = true := by decide +kernel

theorem opN_sim (op : BinOp) (h : arithB op = true) {a a' b b' : Nat} (ha : Sim a a') (hb : Sim b b') : Sim (opN op a b) (opN op a' b') := by
  rcases ha with rfl | ⟨x, y⟩
  · rcases hb with rfl | ⟨z, t⟩
    · exact Sim.refl _
    · unfold opN
      rw [nan_none op h a b (Or.inr z), nan_none op h a b' (Or.inr t)]; exact Sim.refl _
  · unfold opN
    rw [nan_none op h a b (Or.inl x), nan_none op h a' b' (Or.inl y)]; exact Sim.refl _

theorem opN_lt (op : BinOp) (a b : Nat) : opN op a b < 18446744073709551616 := by
  unfold opN
  cases h : floatBits op .f64 a b with
  | none => decide
  | some r => have := floatBits_wf h; simpa [Lit.wf] using this

theorem cut_nan (a b t : Nat) : nanB (Question.cut (.nanBits .f64 a b) t) = true ∧ Question.cut (.nanBits .f64 a b) t < 18446744073709551616 := by
  have e : Question.cut (.nanBits .f64 a b) t = (t % 2) * 9223372036854775808 + 9218868437227405312 + 1 + (t / 2) % 4503599627370495 := by
    show (t % 2) * 2 ^ 63 + 0x7ff0000000000000 + 1 + (t / 2) % (2 ^ 52 - 1) = _
    rw [show (2:Nat)^63 = 9223372036854775808 from by decide, show (2:Nat)^52-1 = 4503599627370495 from by decide]
  rw [e]
  have := Nat.mod_lt (t / 2) (show 0 < 4503599627370495 by decide)
  have := Nat.mod_lt t (show 0 < 2 by decide)
  generalize t % 2 = u at *
  generalize t / 2 % 4503599627370495 = v at *
  refine ⟨decide_eq_true ?_, by omega⟩
  unfold Fl.isNan Fl.rung
  have : u = 0 ∨ u = 1 := by omega
  rcases this with rfl | rfl <;> omega

/-- What an operation on two floats yields: a word, or some word of no number (a draw). -/
theorem op_run (op : BinOp) (h : arithB op = true) (t : TypeId) (a b : Nat) (w : World) :
    ∃ r q, (binOp op t (.float .f64 a) (.float .f64 b)).run Try.prog w = .ok (.float .f64 r) (w.drewN q) ∧ Sim r (opN op a b) ∧ r < 18446744073709551616 := by
  cases e : floatBits op .f64 a b with
  | some r =>
    refine ⟨r, 0, run_float_arith w op t .f64 a b r e, ?_, ?_⟩
    · unfold opN; rw [e]; exact Sim.refl _
    · have := floatBits_wf e; simpa [Lit.wf] using this
  | none =>
    obtain ⟨c1, c2⟩ := cut_nan a b (w.tape w.drawn (.nanBits .f64 a b))
    refine ⟨_, 1, ?_, Or.inr ⟨c1, ?_⟩, c2⟩
    · cases op <;> simp [arithB] at h <;> simp only [floatBits] at e <;> simp [binOp, Op.floatArith, e] <;> rfl
    · unfold opN; rw [e]; exact nanW_nan

end Go.Proofs.Ytlbbbabieepabaa
