/-
  What is read: a message and what is left; a block of ten cells.
-/
import Derived.Test.YtjdnaonhfacpoaaJput
namespace Go.Proofs.Ytjdnaonhfacpoaa
open Go.RowKit

theorem set16 (s : Option (List Nat)) : setR 65535 s = numR 65535 s := by
  cases s with
  | none => simp [setR, numR]
  | some B =>
    obtain ⟨n, k, hg⟩ : ∃ n k, getN B = (n, k) := ⟨_, _, rfl⟩
    have hl := getN_lt B
    rw [hg] at hl
    rw [setR_some hg]
    show _ = if (getN B).2 = 0 ∨ 65535 < (getN B).1 then _ else _
    rw [hg]
    have := mask16 hl
    simp only at this
    by_cases hk : k = 0
    · rw [if_pos (Or.inl hk), if_pos (Or.inl hk)]
    · by_cases h2 : n ≤ 65535
      · rw [if_neg (fun e => e.elim hk (fun f => f (this.2 h2))), if_neg (fun e => e.elim hk (fun f => by simp only at f; omega))]
      · rw [if_pos (Or.inr (fun e => h2 (this.1 e))), if_pos (Or.inr (by simp only; omega))]

theorem numR_le (most : Nat) (s : Option (List Nat)) : (numR most s).1 ≤ most := by
  cases s with
  | none => exact Nat.zero_le _
  | some B =>
    show (if (getN B).2 = 0 ∨ most < (getN B).1 then ((0 : Nat), (none : Option (List Nat))) else ((getN B).1, some (B.drop (getN B).2))).1 ≤ _
    split
    · exact Nat.zero_le _
    · simp only; omega
theorem numR_len (most : Nat) (s : Option (List Nat)) : ((numR most s).2.getD []).length ≤ (s.getD []).length := by
  cases s with
  | none => exact Nat.le_refl _
  | some B =>
    show ((if (getN B).2 = 0 ∨ most < (getN B).1 then ((0 : Nat), (none : Option (List Nat))) else ((getN B).1, some (B.drop (getN B).2))).2.getD []).length ≤ B.length
    split
    · simp
    · simp
theorem fltR_lt (s : Option (List Nat)) (hs : ∀ x ∈ s.getD [], x < 256) : (fltR s).1 < 18446744073709551616 := by
  by_cases h1 : (s.getD []).length < 8 ∨ ofB (beN (s.getD [])) = false
  · rw [fltR_bad h1]; exact (by decide : 0 < 18446744073709551616)
  · obtain ⟨B, rfl, e⟩ := fltR_ok (fun e => h1 (Or.inl e)) (by cases hb : ofB (beN (s.getD [])) <;> simp_all)
    rw [e]
    have hw : beN B < 18446744073709551616 := foldB_word (j := 8) hs (Nat.le_of_not_lt (fun e => h1 (Or.inl e))) (by decide)
    show ofF (beN B) < _
    unfold ofF
    split
    · decide
    · split
      · decide
      · exact ofW_lt _ hw
theorem fltR_len (s : Option (List Nat)) : ((fltR s).2.getD []).length ≤ (s.getD []).length := by
  by_cases h1 : (s.getD []).length < 8 ∨ ofB (beN (s.getD [])) = false
  · rw [fltR_bad h1]; simp
  · obtain ⟨B, rfl, e⟩ := fltR_ok (fun e => h1 (Or.inl e)) (by cases hb : ofB (beN (s.getD [])) <;> simp_all)
    rw [e]
    simp
theorem bytR_len (most : Int) (s : Option (List Nat)) : ((bytR most s).2.getD []).length ≤ (s.getD []).length := by
  have h := numR_len (max most 0).toNat s
  unfold bytR
  split
  · simp
  · cases e : (numR (max most 0).toNat s).2 with
    | none => simp
    | some B => rw [e] at h; simp at h ⊢; omega
theorem in_num {most : Nat} {s : Option (List Nat)} (hs : ∀ x ∈ s.getD [], x < 256) : ∀ x ∈ ((numR most s).2.getD []), x < 256 := by
  cases s with
  | none => intro x hx; simp [numR] at hx
  | some B =>
    show ∀ x ∈ ((if (getN B).2 = 0 ∨ most < (getN B).1 then ((0 : Nat), (none : Option (List Nat))) else ((getN B).1, some (B.drop (getN B).2))).2.getD []), x < 256
    split
    · simp
    · intro x hx
      exact hs x (List.mem_of_mem_drop (by simpa using hx))

/-- Ahead of the stamp: what kind 0 has, or the others; what kinds 1 and 3 have besides. -/
def midR (k : Nat) (s : Option (List Nat)) : Nat × List Nat × Option (List Nat) :=
  if k = 0 then (0, (bytR 256 s).1, (bytR 256 s).2) else ((numR 15 s).1, [], (numR 15 s).2)
def tagR (k : Nat) (s : Option (List Nat)) : Nat × Int × Nat × Option (List Nat) :=
  if tagged (k : Int) then ((fltR s).1, ((numR 16 (fltR s).2).1 : Int) - 1, (numR 18446744073709551615 (numR 16 (fltR s).2).2).1, (numR 18446744073709551615 (numR 16 (fltR s).2).2).2) else (0, 0, 0, s)
/-- A message is read. -/
def readM (s : Option (List Nat)) : Msg × Option (List Nat) :=
  let a := numR 15 s
  let b := numR 18446744073709551615 a.2
  let c := numR 65535 b.2
  let d := numR 3 c.2
  let e := midR d.1 d.2
  let g := tagR d.1 e.2.2
  let h := bytR 20000 g.2.2.2
  (⟨(a.1 : Int), b.1, c.1, (d.1 : Int), (e.1 : Int), g.1, g.2.1, g.2.2.1, e.2.1, h.1⟩, h.2)
def zeroM : Msg := ⟨0, 0, 0, 0, 0, 0, 0, 0, [], []⟩
def okM (bs : List Nat) : Bool := endR (readM (some bs)).2 && goodM (readM (some bs)).1
def gotM (bs : List Nat) : Msg := if okM bs then (readM (some bs)).1 else zeroM

theorem read_ok (s : Option (List Nat)) (hs : ∀ x ∈ s.getD [], x < 256) : MsgOk (readM s).1 := by
  refine ⟨numR_lt _ _, Nat.lt_of_le_of_lt (numR_le _ _) (by decide), ?_, ?_⟩
  · show (tagR _ _).1 < _
    unfold tagR
    split
    · refine fltR_lt _ ?_
      unfold midR
      split
      · intro x hx
        have h4 := in_num (most := 3) (in_num (most := 65535) (in_num (most := 18446744073709551615) (in_num (most := 15) hs)))
        unfold bytR at hx
        split at hx
        · simp at hx
        · have h5 := in_num (most := (max (256 : Int) 0).toNat) h4
          simp only at hx h5
          cases e : (numR (max (256 : Int) 0).toNat (numR 3 (numR 65535 (numR 18446744073709551615 (numR 15 s).2).2).2).2).2 with
          | none => rw [e] at hx; simp at hx
          | some B => rw [e] at hx h5; exact h5 x (List.mem_of_mem_drop (by simpa using hx))
      · exact in_num (in_num (in_num (in_num (in_num hs))))
    · exact (by decide : (0 : Nat) < 18446744073709551616)
  · show (tagR _ _).2.2.1 < _
    unfold tagR
    split
    · exact numR_lt _ _
    · exact (by decide : (0 : Nat) < 18446744073709551616)

/-! A block of ten cells. -/
def upd (V : Nat → Value) (o : Nat) (v : Value) : Nat → Value := fun x => if x = o then v else V x
structure Ten (w : World) (B : Nat) (V : Nat → Value) : Prop where
  c : ∀ o, o < 10 → w.cell? ⟨B, o, none⟩ = some (V o)
  fz : ∀ o, w.frozen? ⟨B, o, none⟩ = false
theorem Ten.lt {w : World} {B : Nat} {V : Nat → Value} (h : Ten w B V) : B < w.heap.size := cell_lt (h.c 0 (by decide))
theorem Ten.keep {w w' : World} {B : Nat} {V : Nat → Value} {F : Nat → Prop} (h : Ten w B V) (hk : Keep F w w') (hF : ¬ F B) : Ten w' B V :=
  ⟨fun o ho => (hk.cell (p := ⟨B, o, none⟩) h.lt hF).trans (h.c o ho), fun o => (hk.frozen (p := ⟨B, o, none⟩) h.lt hF).trans (h.fz o)⟩
theorem Ten.put {w : World} {B : Nat} {V : Nat → Value} (h : Ten w B V) (o : Nat) (v : Value) : Ten (w.setCell ⟨B, o, none⟩ v) B (upd V o v) := by
  refine ⟨fun x hx => ?_, fun x => (World.frozen?_setCell ..).trans (h.fz x)⟩
  unfold upd
  by_cases e : x = o
  · subst e
    rw [if_pos rfl]
    exact World.cell?_setCell_same w _ _ (h.c x hx)
  · rw [if_neg e]
    exact (World.cell?_setCell_other w _ _ v (fun e' => by cases e'; exact e rfl)).trans (h.c x hx)
/-- No message yet. -/
def zeroV : Nat → Value
  | 0 => .int .i64 0
  | 1 => .int .u64 0
  | 2 => .int .u64 0
  | 3 => .int .i64 0
  | 4 => .int .i64 0
  | 5 => .float .f64 0
  | 6 => .int .i64 0
  | 7 => .int .u64 0
  | _ => .slice none 0 0

/-- On the way: the reader, the message so far, its body; all but the two blocks as it was. -/
structure RdM (W : World) (p B : Nat) (S : Nat → Prop) (s : Option (List Nat)) (V : Nat → Value) (a : Option Addr) (cap : Nat) (ys : List Nat) (w : World) : Prop where
  rd : RdAt w p S s
  ten : Ten w B V
  kp : Keep (fun k => k = p ∨ k = B) W w
  sl : SlAt bV 256 w a cap ys
  fr : ∀ ad, a = some ad → W.heap.size ≤ ad.block
  ne : p ≠ B
  sB : ∀ k, S k → k ≠ B
  lt : p < W.heap.size ∧ B < W.heap.size
theorem RdM.call {W w w' : World} {p B : Nat} {S : Nat → Prop} {s s' : Option (List Nat)} {V : Nat → Value} {a : Option Addr} {cap : Nat} {ys : List Nat} {v : Value} {e : Ending} (h : RdM W p B S s V a cap ys w) (hp : RdPost w p S v s' e w') :
    e = .returned v ∧ RdM W p B S s' V a cap ys w' := by
  obtain ⟨he, hA, hK⟩ := hp
  exact ⟨he, hA, h.ten.keep hK (fun e => h.ne e.symm), h.kp.trans hK (fun i _ e => Or.inl e), h.sl.keep hK (fun ad e _ f => by have := h.fr ad e; have := h.lt; omega), h.fr, h.ne, h.sB, h.lt⟩
theorem RdM.put {W w : World} {p B : Nat} {S : Nat → Prop} {s : Option (List Nat)} {V : Nat → Value} {a : Option Addr} {cap : Nat} {ys : List Nat} (h : RdM W p B S s V a cap ys w) (o : Nat) (v : Value) :
    RdM W p B S s (upd V o v) a cap ys (w.setCell ⟨B, o, none⟩ v) := by
  have hK : Keep (fun k => k = B) w (w.setCell ⟨B, o, none⟩ v) := Keep.setCell (F := fun k => k = B) (Keep.refl _ _) (p := ⟨B, o, none⟩) rfl v
  exact ⟨h.rd.keep hK h.ne (fun k f => h.sB k f), h.ten.put o v, h.kp.trans hK (fun i _ e => Or.inr e), h.sl.keep hK (fun ad e _ f => by have := h.fr ad e; have := h.lt; omega), h.fr, h.ne, h.sB, h.lt⟩
theorem RdM.body {W w w' : World} {p B : Nat} {S : Nat → Prop} {s s' : Option (List Nat)} {V : Nat → Value} {a : Option Addr} {cap : Nat} {ys zs : List Nat} {e : Ending} (h : RdM W p B S s V a cap ys w) (hp : BytPost w p S zs s' e w') :
    ∃ a2 c2, e = .returned (.slice a2 zs.length c2) ∧ RdM W p B S s' V a2 c2 zs w' ∧ RdM W p B S s' V a cap ys w' := by
  obtain ⟨a2, c2, he, hs, hA, hK, hf⟩ := hp
  have h2 := (h.call (v := .tuple #[]) ⟨rfl, hA, hK⟩).2
  exact ⟨a2, c2, he, ⟨h2.rd, h2.ten, h2.kp, hs, fun ad e => Nat.le_trans h.kp.size (hf ad e), h2.ne, h2.sB, h2.lt⟩, h2⟩

theorem rnumz {W w : World} {p B most n : Nat} {z : Int} {S : Nat → Prop} {s s' : Option (List Nat)} {V : Nat → Value} {a : Option Addr} {cap : Nat} {ys : List Nat} (h : RdM W p B S s V a cap ys w) (hz : (most : Int) = z) (hr : numR most s = (n, s')) :
    Calls Try.prog 53 #[.pointer (some ⟨p, 0, none⟩), .int .u64 z] w fun e w' => e = .returned (.int .u64 (n : Nat)) ∧ RdM W p B S s' V a cap ys w' := by
  subst hz
  have := rnum_any w p S s most h.rd
  rw [hr] at this
  exact this.mono fun e w' hp => h.call hp
theorem rsetz {W w : World} {p B n : Nat} {S : Nat → Prop} {s s' : Option (List Nat)} {V : Nat → Value} {a : Option Addr} {cap : Nat} {ys : List Nat} (h : RdM W p B S s V a cap ys w) (hr : numR 65535 s = (n, s')) :
    Calls Try.prog 54 #[.pointer (some ⟨p, 0, none⟩), .int .u64 65535] w fun e w' => e = .returned (.int .u64 (n : Nat)) ∧ RdM W p B S s' V a cap ys w' := by
  have := rset_any w p S s 65535 h.rd (by decide)
  rw [set16, hr] at this
  exact this.mono fun e w' hp => h.call hp
theorem rfltz {W w : World} {p B x : Nat} {S : Nat → Prop} {s s' : Option (List Nat)} {V : Nat → Value} {a : Option Addr} {cap : Nat} {ys : List Nat} (h : RdM W p B S s V a cap ys w) (hr : fltR s = (x, s')) :
    Calls Try.prog 56 #[.pointer (some ⟨p, 0, none⟩)] w fun e w' => e = .returned (.float .f64 x) ∧ RdM W p B S s' V a cap ys w' := by
  have := rfloat_any w p S s h.rd
  rw [hr] at this
  exact this.mono fun e w' hp => h.call hp
theorem rbytz {W w : World} {p B : Nat} {S : Nat → Prop} {s s' : Option (List Nat)} {V : Nat → Value} {a : Option Addr} {cap : Nat} {ys zs : List Nat} {most : Int} (h : RdM W p B S s V a cap ys w) (hm : -9223372036854775808 ≤ most ∧ most ≤ 9223372036854775807) (hb : (s.getD []).length ≤ 1000000) (hr : bytR most s = (zs, s')) :
    Calls Try.prog 55 #[.pointer (some ⟨p, 0, none⟩), .int .i64 most] w fun e w' => ∃ a2 c2, e = .returned (.slice a2 zs.length c2) ∧ RdM W p B S s' V a2 c2 zs w' ∧ RdM W p B S s' V a cap ys w' := by
  have := rbytes_any w p S s most h.rd hm hb
  rw [hr] at this
  exact this.mono fun e w' hp => h.body hp

end Go.Proofs.Ytjdnaonhfacpoaa
