/-
  Frames as plain data: which may be, their bytes, what is read; how they lie in memory; what is written is read again, cut short it is none.
-/
import Derived.Test.YthnglifjijfplaaPcl
namespace Go.Proofs.Ythnglifjijfplaa
open Go.RowKit

structure Frm where
  ack : Bool
  num : Nat
  bod : List Nat

/-- A frame as the model bears it; its cells. -/
abbrev frmA (f : Frm) (a : Option Addr) (c : Nat) : Array Value := #[.bool f.ack, .int .u64 (f.num : Nat), .slice a f.bod.length c]
abbrev zfA : Array Value := #[.bool false, .int .u64 0, .slice none 0 0]

/-- Which may be. -/
def goodF (f : Frm) : Bool := if f.ack then decide (f.bod = []) else decide (0 < f.num ∧ f.bod.length ≤ 30000)
/-- A frame's bytes. -/
def putF (f : Frm) : List Nat := if f.ack then lebL 1 ++ lebL f.num else lebL 0 ++ lebL f.num ++ (lebL f.bod.length ++ f.bod)
/-- What Put gives. -/
def bytesF (f : Frm) : List Nat := if goodF f then putF f else []
/-- What is read behind the first number, and behind that. -/
def tailF (k : Bool) (n : Nat) (s : Option (List Nat)) : Frm × Option (List Nat) := if k then (⟨true, n, []⟩, s) else (⟨false, n, (bytR 30000 s).1⟩, (bytR 30000 s).2)
def readF (s : Option (List Nat)) : Frm × Option (List Nat) :=
  tailF (decide ((numR 1 s).1 = 1)) (numR 18446744073709551615 (numR 1 s).2).1 (numR 18446744073709551615 (numR 1 s).2).2
def zeroF : Frm := ⟨false, 0, []⟩
def okF (bs : List Nat) : Bool := endR (readF (some bs)).2 && goodF (readF (some bs)).1
def gotF (bs : List Nat) : Frm := if okF bs then (readF (some bs)).1 else zeroF

theorem bytR_le (most : Int) (s : Option (List Nat)) : ((bytR most s).1.length : Int) ≤ max most 0 := by
  unfold bytR
  split
  · simp; omega
  · have := numR_le (max most 0).toNat s
    simp only [List.length_take]
    omega
theorem tail_lt (k : Bool) (n : Nat) (s : Option (List Nat)) (hn : n < 18446744073709551616) : (tailF k n s).1.num < 18446744073709551616 := by
  unfold tailF
  split <;> exact hn
theorem readF_lt (s : Option (List Nat)) : (readF s).1.num < 18446744073709551616 := tail_lt _ _ _ (numR_lt _ _)
theorem gotF_lt (bs : List Nat) : (gotF bs).num < 18446744073709551616 := by
  unfold gotF
  split
  · exact readF_lt _
  · exact (by decide : (0 : Nat) < 18446744073709551616)
/-- Of what was read, the number alone of data may not be. -/
theorem goodF_read (s : Option (List Nat)) : goodF (readF s).1 = ((readF s).1.ack || decide (0 < (readF s).1.num)) := by
  unfold readF tailF
  split
  · simp [goodF]
  · have := bytR_le 30000 (numR 18446744073709551615 (numR 1 s).2).2
    have h : (bytR 30000 (numR 18446744073709551615 (numR 1 s).2).2).1.length ≤ 30000 := by omega
    simp [goodF, h]

/-! What is written is read again. -/
theorem readF_put {f : Frm} (hn : f.num < 18446744073709551616) (h : goodF f = true) (r : List Nat) : readF (some (putF f ++ r)) = (f, some r) := by
  obtain ⟨ack, num, bod⟩ := f
  simp only at hn
  have e2 : ∀ q, numR 18446744073709551615 (some (lebL num ++ q)) = (num, some q) := fun q => num_back hn (by omega) q
  cases ack
  · have hb : 0 < num ∧ bod.length ≤ 30000 := by simpa [goodF] using h
    have e1 : ∀ q, numR 1 (some (lebL 0 ++ q)) = (0, some q) := fun q => num_back (by decide) (by decide) q
    have e3 : ∀ q, bytR 30000 (some (lebL bod.length ++ (bod ++ q))) = (bod, some q) := fun q => byt_back (by omega) (by omega) q
    unfold readF putF
    simp only [Bool.false_eq_true, if_false, List.append_assoc, e1, e2]
    unfold tailF
    simp only [e3]
    rfl
  · have hb : bod = [] := by simpa [goodF] using h
    subst hb
    have e1 : ∀ q, numR 1 (some (lebL 1 ++ q)) = (1, some q) := fun q => num_back (by decide) (by decide) q
    unfold readF putF
    simp only [if_true, List.append_assoc, e1, e2]
    rfl
theorem gotF_put {f : Frm} (hn : f.num < 18446744073709551616) (h : goodF f = true) : okF (putF f) = true ∧ gotF (putF f) = f := by
  have e : readF (some (putF f)) = (f, some []) := by simpa using readF_put hn h []
  have h1 : okF (putF f) = true := by
    unfold okF
    rw [e, h]
    rfl
  refine ⟨h1, ?_⟩
  unfold gotF
  rw [h1, e]
  rfl
/-- Another behind it: none. -/
theorem okF_more {f : Frm} (hn : f.num < 18446744073709551616) (h : goodF f = true) (c : Nat) : okF (putF f ++ [c]) = false := by
  unfold okF
  rw [readF_put hn h [c]]
  rfl
theorem tail_more {k : Bool} {n : Nat} {s : Option (List Nat)} {R : List Nat} (h : (tailF k n s).2 = some R) : ∃ B, s = some B ∧ ∀ q, tailF k n (some (B ++ q)) = ((tailF k n s).1, some (R ++ q)) := by
  unfold tailF at h ⊢
  cases k
  · simp only [Bool.false_eq_true, if_false] at h ⊢
    obtain ⟨B, rfl, hq⟩ := byt_more h
    exact ⟨B, rfl, fun q => by rw [hq q]⟩
  · simp only [if_true] at h ⊢
    exact ⟨R, h, fun q => rfl⟩
theorem readF_more {s : Option (List Nat)} {R : List Nat} (h : (readF s).2 = some R) : ∃ B, s = some B ∧ ∀ q, readF (some (B ++ q)) = ((readF s).1, some (R ++ q)) := by
  unfold readF at h
  obtain ⟨B2, h2, q2⟩ := tail_more h
  obtain ⟨B1, h1, q1⟩ := num_more h2
  obtain ⟨B0, rfl, q0⟩ := num_more h1
  refine ⟨B0, rfl, fun q => ?_⟩
  unfold readF
  simp only [q0 q, q1 q, q2 q]
/-- Cut short: none. -/
theorem okF_cut {f : Frm} (hn : f.num < 18446744073709551616) (h : goodF f = true) {k : Nat} (hk : k < (putF f).length) : okF ((putF f).take k) = false := by
  cases he : okF ((putF f).take k) with
  | false => rfl
  | true =>
    unfold okF at he
    rw [Bool.and_eq_true] at he
    have hr : (readF (some ((putF f).take k))).2 = some [] := by
      cases hs : (readF (some ((putF f).take k))).2 with
      | none => rw [hs] at he; simp [endR] at he
      | some C => rw [hs] at he; simp [endR] at he; rw [he.1]
    obtain ⟨B, hB, hq⟩ := readF_more hr
    cases hB
    have e := hq ((putF f).drop k)
    rw [List.take_append_drop] at e
    have e2 : readF (some (putF f)) = (f, some []) := by simpa using readF_put hn h []
    rw [e2] at e
    have : (putF f).drop k = [] := by simpa using (congrArg Prod.snd e).symm
    rw [List.drop_eq_nil_iff] at this
    omega
theorem putF_len {f : Frm} (hn : f.num < 18446744073709551616) (h : goodF f = true) : 0 < (putF f).length ∧ (putF f).length ≤ 30040 := by
  have a1 := leb_len hn
  have a2 := leb_len (n := 0) (by decide)
  have a3 := leb_len (n := 1) (by decide)
  unfold putF
  cases ha : f.ack
  · have hb : 0 < f.num ∧ f.bod.length ≤ 30000 := by simpa [goodF, ha] using h
    have a4 := leb_len (n := f.bod.length) (by omega)
    simp only [Bool.false_eq_true, if_false, List.length_append]
    omega
  · simp only [if_true, List.length_append]
    omega
/-- Two that may be, of the same bytes, are the same. -/
theorem putF_inj {f g : Frm} (hf : f.num < 18446744073709551616) (hg : g.num < 18446744073709551616) (h1 : goodF f = true) (h2 : goodF g = true) (h : putF f = putF g) : f = g := by
  rw [← (gotF_put hf h1).2, h, (gotF_put hg h2).2]

/-! How it lies in memory. -/
structure FrmB (w : World) (B : Nat) (f : Frm) (a : Option Addr) (c : Nat) : Prop where
  c0 : w.cell? ⟨B, 0, none⟩ = some (.bool f.ack)
  c1 : w.cell? ⟨B, 1, none⟩ = some (.int .u64 (f.num : Nat))
  c2 : w.cell? ⟨B, 2, none⟩ = some (.slice a f.bod.length c)
theorem frmB_new (W : World) (f : Frm) (a : Option Addr) (c : Nat) (t : TypeId) : FrmB (W.alloc (.cells (frmA f a c) t)) W.heap.size f a c := by
  constructor <;> simp [frmA]
theorem FrmB.below {w w' : World} {B : Nat} {f : Frm} {a : Option Addr} {c : Nat} (h : FrmB w B f a c) (hb : Below w.heap.size w w') : FrmB w' B f a c :=
  ⟨cell_go h.c0 hb, cell_go h.c1 hb, cell_go h.c2 hb⟩

/-- A frame in a block of its own, and all else below N as it was. -/
structure Fun (W : World) (N B : Nat) (f : Frm) (a : Option Addr) (c : Nat) (w : World) : Prop where
  be : Below N W w
  le : N ≤ w.heap.size
  bx : FrmB w B f a c
  sl : SlAt bV 256 w a c f.bod
theorem Fun.of {W w w' : World} {N B : Nat} {f : Frm} {a : Option Addr} {c : Nat} (hb : Below w.heap.size w w') (h : Hid (Fun W N B f a c w)) : Hid (Fun W N B f a c w') :=
  Lib.hid ⟨h.out.be.trans (hb.mono h.out.le), Nat.le_trans h.out.le hb.size, h.out.bx.below hb, h.out.sl.below hb⟩
theorem Fun.new {W : World} {f : Frm} {a : Option Addr} {c : Nat} (h : SlAt bV 256 W a c f.bod) (t : TypeId) :
    Hid (Fun W W.heap.size W.heap.size f a c (W.alloc (.cells (frmA f a c) t))) :=
  Lib.hid ⟨below_alloc (Below.refl _ W) _, (below_alloc (Below.refl _ W) _).size, frmB_new W f a c t, h.below (below_alloc (Below.refl _ W) _)⟩
theorem Fun.drew {W w : World} {N B : Nat} {f : Frm} {a : Option Addr} {c : Nat} (h : Hid (Fun W N B f a c w)) : Hid (Fun W N B f a c w.drew) := Fun.of (drew_below w) h
theorem Fun.alloc {W w : World} {N B : Nat} {f : Frm} {a : Option Addr} {c : Nat} {o : Obj} (h : Hid (Fun W N B f a c w)) : Hid (Fun W N B f a c (w.alloc o)) := Fun.of (below_alloc (Below.refl _ _) o) h
/-- A frame that a call gave, laid in a block of its own. -/
theorem Fun.lay {W w w' : World} {N : Nat} {f : Frm} {a : Option Addr} {c : Nat} (hbe : Below N W w) (hle : N ≤ w.heap.size) (hb : Below w.heap.size w w') (hs : SlAt bV 256 w' a c f.bod) (t : TypeId) :
    Hid (Fun W N w'.heap.size f a c (w'.alloc (.cells (frmA f a c) t))) := by
  have h1 := hbe.trans (hb.mono hle)
  have h2 := Nat.le_trans hle hb.size
  exact Lib.hid ⟨h1.alloc h2 _, Nat.le_trans h2 (below_alloc (Below.refl _ w') (.cells (frmA f a c) t)).size, frmB_new w' f a c t, hs.below (below_alloc (Below.refl _ w') _)⟩

end Go.Proofs.Ythnglifjijfplaa
