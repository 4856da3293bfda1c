/-
  A block of so many cells; on the way: a reader, such a block, and a slice that was read.
-/
import Derived.Test.YthnglifjijfplaaPbs
namespace Go.Proofs.Ythnglifjijfplaa
open Go.RowKit

def updc (V : Nat → Value) (o : Nat) (v : Value) : Nat → Value := fun x => if x = o then v else V x
/-- A block of n cells that nothing else holds. -/
structure Cel (n : Nat) (w : World) (B : Nat) (V : Nat → Value) : Prop where
  c : ∀ o, o < n → w.cell? ⟨B, o, none⟩ = some (V o)
  fz : ∀ o, w.frozen? ⟨B, o, none⟩ = false
  lt : B < w.heap.size
theorem Cel.keep {n : Nat} {w w' : World} {B : Nat} {V : Nat → Value} {F : Nat → Prop} (h : Cel n w B V) (hk : Keep F w w') (hF : ¬ F B) : Cel n w' B V :=
  ⟨fun o ho => (hk.cell (p := ⟨B, o, none⟩) h.lt hF).trans (h.c o ho), fun o => (hk.frozen (p := ⟨B, o, none⟩) h.lt hF).trans (h.fz o), Nat.lt_of_lt_of_le h.lt hk.size⟩
theorem Cel.below {n : Nat} {w w' : World} {B : Nat} {V : Nat → Value} (h : Cel n w B V) (hb : Below w.heap.size w w') : Cel n w' B V := h.keep (F := fun _ => False) (Keep.ofBelow hb) id
theorem Cel.put {n : Nat} {w : World} {B : Nat} {V : Nat → Value} (h : Cel n w B V) (o : Nat) (v : Value) : Cel n (w.setCell ⟨B, o, none⟩ v) B (updc V o v) := by
  refine ⟨fun x hx => ?_, fun x => (World.frozen?_setCell ..).trans (h.fz x), by simpa [World.setCell] using h.lt⟩
  unfold updc
  by_cases e : x = o
  · subst e
    rw [if_pos rfl]
    exact World.cell?_setCell_same w _ _ (h.c x hx)
  · rw [if_neg e]
    exact (World.cell?_setCell_other w _ _ v (fun e' => by cases e'; exact e rfl)).trans (h.c x hx)

/-- The reader in block p, the cells in block B, the slice; all but the two blocks as it was. -/
structure RdC (n : Nat) (W : World) (p B : Nat) (S : Nat → Prop) (s : Option (List Nat)) (V : Nat → Value) (a : Option Addr) (cap : Nat) (ys : List Nat) (w : World) : Prop where
  rd : RdAt w p S s
  cel : Cel n w B V
  kp : Keep (fun k => k = p ∨ k = B) W w
  sl : SlAt bV 256 w a cap ys
  fr : ∀ ad, a = some ad → W.heap.size ≤ ad.block
  ne : p ≠ B
  sB : ∀ k, S k → k ≠ B
  lt : p < W.heap.size ∧ B < W.heap.size
theorem RdC.call {n : Nat} {W w w' : World} {p B : Nat} {S : Nat → Prop} {s s' : Option (List Nat)} {V : Nat → Value} {a : Option Addr} {cap : Nat} {ys : List Nat} {v : Value} {e : Ending} (h : RdC n W p B S s V a cap ys w) (hp : RdPost w p S v s' e w') :
    e = .returned v ∧ RdC n W p B S s' V a cap ys w' := by
  obtain ⟨he, hA, hK⟩ := hp
  exact ⟨he, hA, h.cel.keep hK (fun e => h.ne e.symm), h.kp.trans hK (fun i _ e => Or.inl e), h.sl.keep hK (fun ad e _ f => by have := h.fr ad e; have := h.lt; omega), h.fr, h.ne, h.sB, h.lt⟩
theorem RdC.put {n : Nat} {W w : World} {p B : Nat} {S : Nat → Prop} {s : Option (List Nat)} {V : Nat → Value} {a : Option Addr} {cap : Nat} {ys : List Nat} (h : RdC n W p B S s V a cap ys w) (o : Nat) (v : Value) :
    RdC n W p B S s (updc V o v) a cap ys (w.setCell ⟨B, o, none⟩ v) := by
  have hK : Keep (fun k => k = B) w (w.setCell ⟨B, o, none⟩ v) := Keep.setCell (F := fun k => k = B) (Keep.refl _ _) (p := ⟨B, o, none⟩) rfl v
  exact ⟨h.rd.keep hK h.ne (fun k f => h.sB k f), h.cel.put o v, h.kp.trans hK (fun i _ e => Or.inr e), h.sl.keep hK (fun ad e _ f => by have := h.fr ad e; have := h.lt; omega), h.fr, h.ne, h.sB, h.lt⟩
theorem RdC.body {n : Nat} {W w w' : World} {p B : Nat} {S : Nat → Prop} {s s' : Option (List Nat)} {V : Nat → Value} {a : Option Addr} {cap : Nat} {ys zs : List Nat} {e : Ending} (h : RdC n W p B S s V a cap ys w) (hp : BytPost w p S zs s' e w') :
    ∃ a2 c2, e = .returned (.slice a2 zs.length c2) ∧ RdC n W p B S s' V a2 c2 zs w' ∧ RdC n W p B S s' V a cap ys w' := by
  obtain ⟨a2, c2, he, hs, hA, hK, hf⟩ := hp
  have h2 := (h.call (v := .tuple #[]) ⟨rfl, hA, hK⟩).2
  exact ⟨a2, c2, he, ⟨h2.rd, h2.cel, h2.kp, hs, fun ad e => Nat.le_trans h.kp.size (hf ad e), h2.ne, h2.sB, h2.lt⟩, h2⟩

theorem rdc_num {n : Nat} {W w : World} {p B most x : Nat} {z : Int} {S : Nat → Prop} {s s' : Option (List Nat)} {V : Nat → Value} {a : Option Addr} {cap : Nat} {ys : List Nat} (h : RdC n W p B S s V a cap ys w) (hz : (most : Int) = z) (hr : numR most s = (x, s')) :
    Calls Try.prog 13 #[.pointer (some ⟨p, 0, none⟩), .int .u64 z] w fun e w' => e = .returned (.int .u64 (x : Nat)) ∧ RdC n W p B S s' V a cap ys w' := by
  subst hz
  have := rnum_any w p S s most h.rd
  rw [hr] at this
  exact this.mono fun e w' hp => h.call hp
theorem rdc_bytes {n : Nat} {W w : World} {p B : Nat} {S : Nat → Prop} {s s' : Option (List Nat)} {V : Nat → Value} {a : Option Addr} {cap : Nat} {ys zs : List Nat} {most : Int} (h : RdC n W p B S s V a cap ys w) (hm : -9223372036854775808 ≤ most ∧ most ≤ 9223372036854775807) (hb : (s.getD []).length ≤ 1000000) (hr : bytR most s = (zs, s')) :
    Calls Try.prog 14 #[.pointer (some ⟨p, 0, none⟩), .int .i64 most] w fun e w' => ∃ a2 c2, e = .returned (.slice a2 zs.length c2) ∧ RdC n W p B S s' V a2 c2 zs w' ∧ RdC n W p B S s' V a cap ys w' := by
  have := rbytes_any w p S s most h.rd hm hb
  rw [hr] at this
  exact this.mono fun e w' hp => h.body hp
theorem rrdc_num {n : Nat} {W w : World} {p B most x : Nat} {z : Int} {S : Nat → Prop} {s s' : Option (List Nat)} {V : Nat → Value} {a : Option Addr} {cap : Nat} {ys : List Nat} (h : RdC n W p B S s V a cap ys w) (hz : (most : Int) = z) (hr : numR most s = (x, s')) :
    Calls Try.prog 21 #[.pointer (some ⟨p, 0, none⟩), .int .u64 z] w fun e w' => e = .returned (.int .u64 (x : Nat)) ∧ RdC n W p B S s' V a cap ys w' := by
  subst hz
  have := rrnum_any w p S s most h.rd
  rw [hr] at this
  exact this.mono fun e w' hp => h.call hp
theorem rrdc_bytes {n : Nat} {W w : World} {p B : Nat} {S : Nat → Prop} {s s' : Option (List Nat)} {V : Nat → Value} {a : Option Addr} {cap : Nat} {ys zs : List Nat} {most : Int} (h : RdC n W p B S s V a cap ys w) (hS : ∀ k, S k → k < W.heap.size) (hm : -9223372036854775808 ≤ most ∧ most ≤ 9223372036854775807) (hb : (s.getD []).length ≤ 1000000) (hr : bytR most s = (zs, s')) :
    Calls Try.prog 22 #[.pointer (some ⟨p, 0, none⟩), .int .i64 most] w fun e w' => ∃ a2 c2, e = .returned (.slice a2 zs.length c2) ∧ RdC n W p B S s' V a2 c2 zs w' ∧ RdC n W p B S s' V a cap ys w' := by
  have := rrbytes_any w p S s most h.rd (fun k f => Nat.lt_of_lt_of_le (hS k f) h.kp.size) hm hb
  rw [hr] at this
  exact this.mono fun e w' hp => h.body hp

end Go.Proofs.Ythnglifjijfplaa
