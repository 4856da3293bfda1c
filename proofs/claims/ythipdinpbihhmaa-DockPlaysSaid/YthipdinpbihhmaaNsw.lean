/-
  Numbers in a row, exchanged two and two.
-/
import Derived.Test.YthipdinpbihhmaaWcel
namespace Go.Proofs.Ythipdinpbihhmaa
open Go.RowKit

/-- Two exchanged. -/
def swp (f : Nat → Nat) (i j : Nat) : Nat → Nat := fun k => if k = i then f j else if k = j then f i else f k
/-- Exchanged two and two, so often as you like, from a on and below b. -/
inductive Sw (a b : Nat) : (Nat → Nat) → (Nat → Nat) → Prop
  | refl (f : Nat → Nat) : Sw a b f f
  | step {f g : Nat → Nat} (i j : Nat) (h : Sw a b f g) (ia : a ≤ i) (ib : i < b) (ja : a ≤ j) (jb : j < b) : Sw a b f (swp g i j)

theorem swp_out {f : Nat → Nat} {i j k : Nat} (hi : k ≠ i) (hj : k ≠ j) : swp f i j k = f k := by unfold swp; rw [if_neg hi, if_neg hj]
theorem swp_left (f : Nat → Nat) (i j : Nat) : swp f i j i = f j := by unfold swp; rw [if_pos rfl]
theorem swp_right (f : Nat → Nat) (i j : Nat) : swp f i j j = f i := by
  unfold swp
  by_cases h : j = i
  · rw [if_pos h, h]
  · rw [if_neg h, if_pos rfl]

section
variable {a b : Nat} {f g h : Nat → Nat}
theorem Sw.trans (p : Sw a b f g) (q : Sw a b g h) : Sw a b f h := by
  induction q with
  | refl => exact p
  | step i j _ ia ib ja jb ih => exact ih.step i j ia ib ja jb
theorem Sw.mono {a2 b2 : Nat} (p : Sw a b f g) (ha : a2 ≤ a) (hb : b ≤ b2) : Sw a2 b2 f g := by
  induction p with
  | refl => exact Sw.refl _
  | step i j _ ia ib ja jb ih => exact ih.step i j (by omega) (by omega) (by omega) (by omega)
theorem Sw.out (p : Sw a b f g) {k : Nat} (hk : k < a ∨ b ≤ k) : g k = f k := by
  induction p with
  | refl => rfl
  | step i j _ ia ib ja jb ih => rw [swp_out (by omega) (by omega), ih]
/-- What is there now was there. -/
theorem Sw.was (p : Sw a b f g) : ∀ k, a ≤ k → k < b → ∃ k', a ≤ k' ∧ k' < b ∧ g k = f k' := by
  induction p with
  | refl => exact fun k h1 h2 => ⟨k, h1, h2, rfl⟩
  | step i j _ ia ib ja jb ih =>
    intro k h1 h2
    unfold swp
    split
    · exact ih j ja jb
    · split
      · exact ih i ia ib
      · exact ih k h1 h2
/-- What was there is there. -/
theorem Sw.is (p : Sw a b f g) : ∀ k, a ≤ k → k < b → ∃ k', a ≤ k' ∧ k' < b ∧ g k' = f k := by
  induction p with
  | refl => exact fun k h1 h2 => ⟨k, h1, h2, rfl⟩
  | step i j _ ia ib ja jb ih =>
    intro k h1 h2
    obtain ⟨k', h3, h4, e⟩ := ih k h1 h2
    by_cases hi : k' = i
    · subst hi
      exact ⟨j, ja, jb, by rw [swp_right]; exact e⟩
    · by_cases hj : k' = j
      · subst hj
        exact ⟨i, ia, ib, by rw [swp_left]; exact e⟩
      · exact ⟨k', h3, h4, by rw [swp_out hi hj]; exact e⟩
/-- No two alike. -/
def Inj (n : Nat) (f : Nat → Nat) : Prop := ∀ i j, i < n → j < n → f i = f j → i = j
theorem Inj.swp {n i j : Nat} (hf : Inj n f) (hi : i < n) (hj : j < n) : Inj n (swp f i j) := by
  have sg : ∀ k, Go.Proofs.Ythipdinpbihhmaa.swp f i j k = f (if k = i then j else if k = j then i else k) := fun k => by
    unfold Go.Proofs.Ythipdinpbihhmaa.swp
    by_cases h1 : k = i
    · rw [if_pos h1, if_pos h1]
    · by_cases h2 : k = j
      · rw [if_neg h1, if_neg h1, if_pos h2, if_pos h2]
      · rw [if_neg h1, if_neg h1, if_neg h2, if_neg h2]
  have lt : ∀ k, k < n → (if k = i then j else if k = j then i else k) < n := fun k hk => by
    split
    · exact hj
    · split
      · exact hi
      · exact hk
  intro x y hx hy e
  rw [sg, sg] at e
  have := hf _ _ (lt x hx) (lt y hy) e
  by_cases x1 : x = i <;> by_cases x2 : x = j <;> by_cases y1 : y = i <;> by_cases y2 : y = j <;> simp only [x1, x2, y1, y2, if_true, if_false] at this <;> first | omega | (simp at this; omega) | (subst_vars; simp_all)
theorem Sw.inj {n : Nat} (p : Sw a b f g) (hb : b ≤ n) (hf : Inj n f) : Inj n g := by
  induction p with
  | refl => exact hf
  | step i j _ ia ib ja jb ih => exact ih.swp (by omega) (by omega)
end

/-- A row of numbers in a block of its own. -/
def uV (f : Nat → Nat) : Nat → Value := fun o => .int .u64 ((f o : Nat) : Int)
def Row (n : Nat) (w : World) (g : Nat) (f : Nat → Nat) : Prop := Cel n w g (uV f)

theorem Row.keep {n g : Nat} {w w' : World} {f : Nat → Nat} {F : Nat → Prop} (h : Row n w g f) (hk : Keep F w w') (hF : ¬ F g) : Row n w' g f := Cel.keep h hk hF
theorem Row.drewN {n g : Nat} {w : World} {f : Nat → Nat} (h : Row n w g f) (q : Nat) : Row n (w.drewN q) g f := Cel.drewN h q
theorem Row.drew {n g : Nat} {w : World} {f : Nat → Nat} (h : Row n w g f) : Row n w.drew g f := Cel.drew h
theorem Row.at {n g : Nat} {w : World} {f : Nat → Nat} (h : Row n w g f) {i : Nat} (hi : i < n) : w.cell? ⟨g, i, none⟩ = some (.int .u64 ((f i : Nat) : Int)) := h.c i hi
theorem Row.swp {n g i j : Nat} {w : World} {f : Nat → Nat} (h : Row n w g f) : Row n ((w.setCell ⟨g, i, none⟩ (.int .u64 ((f j : Nat) : Int))).setCell ⟨g, j, none⟩ (.int .u64 ((f i : Nat) : Int))) g (swp f i j) := by
  refine ((Cel.put h i _).put j _).conv (fun o ho => ?_)
  unfold updc uV Go.Proofs.Ythipdinpbihhmaa.swp
  by_cases h1 : o = j
  · subst h1
    rw [if_pos rfl]
    by_cases h2 : o = i
    · rw [if_pos h2, h2]
    · rw [if_neg h2, if_pos rfl]
  · rw [if_neg h1]
    by_cases h2 : o = i
    · rw [if_pos h2, if_pos h2]
    · rw [if_neg h2, if_neg h2, if_neg h1]

/-- The same memory. -/
def Alike (A B : World) : Prop := B.heap = A.heap ∧ B.os = A.os ∧ B.tape = A.tape ∧ B.output = A.output
theorem Alike.keep {A B C : World} {F : Nat → Prop} (h : Alike B C) (k : Keep F A B) : Keep F A C :=
  ⟨h.2.1.trans k.os, h.2.2.1.trans k.tape, h.2.2.2.trans k.output, by rw [h.1]; exact k.size, fun i hi hn => by rw [h.1]; exact k.block i hi hn⟩
theorem Alike.row {n g : Nat} {A B : World} {f : Nat → Nat} (h : Alike A B) (k : Row n A g f) : Row n B g f := k.keep (F := fun _ => False) (h.keep (Keep.refl _ A)) id

/-- What a call leaves that exchanges from a on and below b: no result. -/
def SwPost (n g a b : Nat) (f : Nat → Nat) (W : World) (Q : (Nat → Nat) → Prop) (e : Ending) (w : World) : Prop :=
  e = .returned (.tuple #[]) ∧ ∃ f', Sw a b f f' ∧ Q f' ∧ Row n w g f' ∧ Keep (fun j => j = g) W w
/-- In order, from a on and below b. -/
def Srt (a b : Nat) (f : Nat → Nat) : Prop := ∀ i j, a ≤ i → i < j → j < b → f i < f j

theorem wrapN {z : Int} (h : -9223372036854775808 ≤ z ∧ z ≤ 9223372036854775807) : IntKind.i64.wrap z = z := by
  simp only [IntKind.wrap, IntKind.bits, IntKind.signed]
  simp
  omega

end Go.Proofs.Ythipdinpbihhmaa
