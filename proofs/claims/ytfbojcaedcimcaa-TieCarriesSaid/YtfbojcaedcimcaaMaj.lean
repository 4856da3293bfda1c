/-
  Texts of this claim, put together.
-/
import Derived.Test.YtfbojcaedcimcaaMai
import Derived.Test.YtfbojcaedcimcaaWstrm
import Derived.Test.YtfbojcaedcimcaaWbasm
import Derived.Test.YtfbojcaedcimcaaMab

/-
  One writer or one reader, all else as it was; slices written out in the text; a slice of bytes as a string.
-/
namespace Go.Proofs.Ytfbojcaedcimcaa
open Go.RowKit

def Ok (W : World) (e : Ending) (w' : World) : Prop := e = .returned (.bool true) ∧ Below W.heap.size W w'

/-! One writer, all else below N as it was. -/
def WrOn (W : World) (N p : Nat) (bs : List Nat) (w : World) : Prop := (∃ F, WrAt w N p F bs) ∧ Below N W w

theorem WrOn.post {W w w' : World} {N p : Nat} {F : Nat → Prop} {bs cs : List Nat} {e : Ending} (hA : WrAt w N p F bs) (hB : Below N W w) (h : WrPost w N p F cs e w') : WrOn W N p cs w' := by
  obtain ⟨v, hV⟩ := hA
  obtain ⟨_, F', hA', hK, _⟩ := h
  have hN : N ≤ w.heap.size := by have := hV.low p hV.inP; omega
  exact ⟨⟨F', hA'⟩, hB.trans (hK.below hN (fun k f => (hV.low k f).1))⟩

theorem WrAt.size {w : World} {N p : Nat} {F : Nat → Prop} {bs : List Nat} (h : WrAt w N p F bs) : N ≤ w.heap.size ∧ p < w.heap.size ∧ ∀ k, F k → N ≤ k ∧ k < w.heap.size := by
  obtain ⟨v, hV⟩ := h
  have := hV.low p hV.inP
  exact ⟨by omega, this.2, hV.low⟩

theorem WrOn.below {W w w' : World} {N p : Nat} {bs : List Nat} (h : WrOn W N p bs w) (hb : Below w.heap.size w w') : WrOn W N p bs w' := by
  obtain ⟨⟨F, hA⟩, hB⟩ := h
  exact ⟨⟨F, hA.below hb⟩, hB.trans (hb.mono hA.size.1)⟩

theorem on_num {W w : World} {N p n : Nat} {bs : List Nat} (h : WrOn W N p bs w) (hn : n < 18446744073709551616) (hl : bs.length ≤ 1000000) :
    Calls Try.prog 52 #[.pointer (some ⟨p, 0, none⟩), .int .u64 (n : Nat)] w fun e w' => e = .returned (.tuple #[]) ∧ WrOn W N p (bs ++ lebL n) w' := by
  obtain ⟨⟨F, hA⟩, hB⟩ := h
  exact (wnum_any w N p F bs n hA hn hl).mono fun e w' h => ⟨h.1, WrOn.post hA hB h⟩

theorem on_bytes {W w w1 : World} {N p len cap : Nat} {bs cs : List Nat} {ao : Option Addr} (h : WrOn W N p bs w) (hb : Below w.heap.size w w1) (hs : SlAt bV 256 w1 ao cap cs) (hlen : cs.length = len) (hF : ∀ ad, ao = some ad → cs ≠ [] → ad.block < N ∨ w.heap.size ≤ ad.block) (hl : bs.length ≤ 900000) (hc : cs.length ≤ 100000) :
    Calls Try.prog 53 #[.pointer (some ⟨p, 0, none⟩), .slice ao len cap] w1 fun e w' => e = .returned (.tuple #[]) ∧ WrOn W N p (bs ++ lebL cs.length ++ cs) w' := by
  subst hlen
  have hB1 := (h.below hb).2
  obtain ⟨⟨F, hA⟩, hB⟩ := h
  have hA1 := hA.below hb
  exact (wbytes_any w1 N p F bs cs ao cap hA1 hs (fun ad e h0 f => by have := hF ad e h0; have := hA.size.2.2 _ f; omega) hl hc).mono fun e w' h => ⟨h.1, WrOn.post hA1 hB1 h⟩

theorem on_done {W w : World} {N p : Nat} {bs : List Nat} (h : WrOn W N p bs w) (hl : bs.length ≤ 2000000) :
    Calls Try.prog 54 #[.pointer (some ⟨p, 0, none⟩)] w fun e w' => ∃ a cap, e = .returned (.slice a bs.length cap) ∧ SlAt bV 256 w' a cap bs ∧ WrOn W N p bs w' ∧ Below w.heap.size w w' ∧ ∀ ad, a = some ad → w.heap.size ≤ ad.block := by
  have h0 := h
  obtain ⟨⟨F, hA⟩, hB⟩ := h
  refine (wdone_any w N p F bs hA hl).mono fun e w' h => ?_
  obtain ⟨a, cap, he, hs, hb, hf⟩ := h
  exact ⟨a, cap, he, hs, h0.below hb, hb, fun ad e => (hf ad e).1⟩

/-! One reader, all else below N as it was. -/
def RdOn (W : World) (N p : Nat) (S : Nat → Prop) (s : Option (List Nat)) (w : World) : Prop := RdAt w p S s ∧ Below N W w ∧ N ≤ p ∧ N ≤ w.heap.size

theorem RdOn.post {W w w' : World} {N p : Nat} {S : Nat → Prop} {s s' : Option (List Nat)} {v : Value} {e : Ending} (h : RdOn W N p S s w) (hp : RdPost w p S v s' e w') : e = .returned v ∧ RdOn W N p S s' w' := by
  obtain ⟨_, hB, hN, hS⟩ := h
  obtain ⟨he, hA, hK⟩ := hp
  exact ⟨he, hA, hB.trans (hK.below hS (fun k e => e ▸ hN)), hN, Nat.le_trans hS hK.size⟩

theorem RdOn.below {W w w' : World} {N p : Nat} {S : Nat → Prop} {s : Option (List Nat)} (h : RdOn W N p S s w) (hb : Below w.heap.size w w') : RdOn W N p S s w' := by
  obtain ⟨hA, hB, hN, hS⟩ := h
  exact ⟨hA.below hb, hB.trans (hb.mono hS), hN, Nat.le_trans hS hb.size⟩

theorem on_rnum {W w : World} {N p most n : Nat} {S : Nat → Prop} {s s' : Option (List Nat)} (h : RdOn W N p S s w) (hr : numR most s = (n, s')) :
    Calls Try.prog 31 #[.pointer (some ⟨p, 0, none⟩), .int .u64 (most : Nat)] w fun e w' => e = .returned (.int .u64 (n : Nat)) ∧ RdOn W N p S s' w' := by
  have := rnum_any w p S s most h.1
  rw [hr] at this
  exact this.mono fun e w' hp => h.post hp

theorem on_rbytes {W w : World} {N p : Nat} {S : Nat → Prop} {s s' : Option (List Nat)} {most : Int} {ys : List Nat} (h : RdOn W N p S s w) (hm : -9223372036854775808 ≤ most ∧ most ≤ 9223372036854775807) (hb : (s.getD []).length ≤ 1000000) (hr : bytR most s = (ys, s')) :
    Calls Try.prog 32 #[.pointer (some ⟨p, 0, none⟩), .int .i64 most] w fun e w' => ∃ a cap, e = .returned (.slice a ys.length cap) ∧ SlAt bV 256 w' a cap ys ∧ RdOn W N p S s' w' := by
  have := rbytes_any w p S s most h.1 hm hb
  rw [hr] at this
  refine this.mono fun e w' hp => ?_
  obtain ⟨a, cap, he, hs, hA, hK, _⟩ := hp
  exact ⟨a, cap, he, hs, (h.post (v := .tuple #[]) ⟨rfl, hA, hK⟩).2⟩

theorem on_rend {W w : World} {N p : Nat} {S : Nat → Prop} {s : Option (List Nat)} {b : Bool} (h : RdOn W N p S s w) (hr : endR s = b) :
    Calls Try.prog 33 #[.pointer (some ⟨p, 0, none⟩)] w fun e w' => e = .returned (.bool b) ∧ w = w' := by
  subst hr
  exact rend_any w p S s h.1

theorem on_rnew {W w : World} {N len cap : Nat} {bs : List Nat} {ao : Option Addr} (hB : Below N W w) (hN : N ≤ w.heap.size) (hs : SlAt bV 256 w ao cap bs) (hlen : bs.length = len) (hl : len ≤ 2000000) :
    Calls Try.prog 30 #[.slice ao len cap] w fun e w' => ∃ p S, e = .returned (.pointer (some ⟨p, 0, none⟩)) ∧ RdOn W N p S (some bs) w' ∧ Below w.heap.size w w' ∧ w.heap.size ≤ p ∧ ∀ k, S k → w.heap.size ≤ k ∧ k < p := by
  subst hlen
  refine (rnew_any w bs ao cap hs hl).mono fun e w' hp => ?_
  obtain ⟨p, S, he, hA, hb, hp1, hS⟩ := hp
  exact ⟨p, S, he, ⟨hA, hB.trans (hb.mono hN), by omega, Nat.le_trans hN hb.size⟩, hb, hp1, hS⟩

def lenV (n : Nat) : Value := .int .i64 (n : Nat)

theorem Try.infoI : (Try.prog.info? 3).map (fun i => (i.zero, i.size, i.bytes)) = some (some (.int .i64 0), 1, 8) := by kernel_rfl

end Go.Proofs.Ytfbojcaedcimcaa

/-
  Numbers and bytes, for those who write and read by pane: a literal's number, bytes that lay there; what was read is no longer than what was there, and more behind it changes nothing.
-/
namespace Go.Proofs.Ytfbojcaedcimcaa
open Go.RowKit

theorem on_numz {W w : World} {N p n : Nat} {z : Int} {bs : List Nat} (h : WrOn W N p bs w) (hz : (n : Int) = z) (hn : n < 18446744073709551616) (hl : bs.length ≤ 1000000) :
    Calls Try.prog 52 #[.pointer (some ⟨p, 0, none⟩), .int .u64 z] w fun e w' => e = .returned (.tuple #[]) ∧ WrOn W N p (bs ++ lebL n) w' := by
  subst hz; exact on_num h hn hl
/-- Bytes that lay there ahead of the writer. -/
theorem on_bytesz {W w : World} {p len cap : Nat} {bs cs : List Nat} {ao : Option Addr} (h : WrOn W W.heap.size p bs w) (hs : SlAt bV 256 W ao cap cs) (hlen : cs.length = len) (hl : bs.length ≤ 900000) (hc : cs.length ≤ 100000) :
    Calls Try.prog 53 #[.pointer (some ⟨p, 0, none⟩), .slice ao len cap] w fun e w' => e = .returned (.tuple #[]) ∧ WrOn W W.heap.size p (bs ++ (lebL cs.length ++ cs)) w' := by
  refine (on_bytes h (Below.refl _ _) (hs.below h.2) hlen (fun ad e h0 => ?_) hl hc).mono fun e w' h => ?_
  · obtain ⟨b, off, e2, hl2, _⟩ := hs.cell 0 (List.length_pos_iff.2 h0)
    rw [e] at e2
    cases e2
    exact Or.inl hl2
  · rwa [List.append_assoc] at h
theorem lens (n : Nat) (h : n < 18446744073709551616) : (lebL n).length ≤ 10 := (leb_len h).2

theorem numR_le (most : Nat) (s : Option (List Nat)) : (numR most s).1 ≤ most := by
  cases s with
  | none => exact Nat.zero_le _
  | some B =>
    show (if (getN B).2 = 0 ∨ most < (getN B).1 then ((0 : Nat), (none : Option (List Nat))) else ((getN B).1, some (B.drop (getN B).2))).1 ≤ _
    split
    · exact Nat.zero_le _
    · simp only; omega
theorem numR_len (most : Nat) (s : Option (List Nat)) : ((numR most s).2.getD []).length ≤ (s.getD []).length := by
  cases s with
  | none => exact Nat.le_refl _
  | some B =>
    show ((if (getN B).2 = 0 ∨ most < (getN B).1 then ((0 : Nat), (none : Option (List Nat))) else ((getN B).1, some (B.drop (getN B).2))).2.getD []).length ≤ B.length
    split
    · simp
    · simp
theorem bytR_len (most : Int) (s : Option (List Nat)) : ((bytR most s).2.getD []).length ≤ (s.getD []).length := by
  have h := numR_len (max most 0).toNat s
  unfold bytR
  split
  · simp
  · cases e : (numR (max most 0).toNat s).2 with
    | none => simp
    | some B => rw [e] at h; simp at h ⊢; omega
theorem in_num {most : Nat} {s : Option (List Nat)} (hs : ∀ x ∈ s.getD [], x < 256) : ∀ x ∈ ((numR most s).2.getD []), x < 256 := by
  cases s with
  | none => intro x hx; simp [numR] at hx
  | some B =>
    show ∀ x ∈ ((if (getN B).2 = 0 ∨ most < (getN B).1 then ((0 : Nat), (none : Option (List Nat))) else ((getN B).1, some (B.drop (getN B).2))).2.getD []), x < 256
    split
    · simp
    · intro x hx
      exact hs x (List.mem_of_mem_drop (by simpa using hx))

theorem decN_more' : ∀ (b : List Nat) (x : Nat × Nat) (q : List Nat), decN b = some x → decN (b ++ q) = some x
  | [], _, _, h => by simp [decN] at h
  | c :: r, x, q, h => by
    rw [List.cons_append]
    unfold decN at h ⊢
    by_cases h1 : c < 128
    · rw [if_pos h1] at h ⊢; exact h
    · rw [if_neg h1] at h ⊢
      cases hd : decN r with
      | none => rw [hd] at h; simp at h
      | some y => rw [decN_more' r y q hd]; rw [hd] at h; exact h
theorem getN_more {b : List Nat} (h : (getN b).2 ≠ 0) (q : List Nat) : getN (b ++ q) = getN b := by
  unfold getN at h ⊢
  cases hd : decN b with
  | none => rw [hd] at h; simp at h
  | some y => rw [decN_more' b y q hd]
theorem num_more {most : Nat} {s : Option (List Nat)} {R : List Nat} (h : (numR most s).2 = some R) : ∃ B, s = some B ∧ ∀ q, numR most (some (B ++ q)) = ((numR most s).1, some (R ++ q)) := by
  cases s with
  | none => simp [numR] at h
  | some B =>
    refine ⟨B, rfl, fun q => ?_⟩
    have e : ∀ b : List Nat, numR most (some b) = if (getN b).2 = 0 ∨ most < (getN b).1 then (0, none) else ((getN b).1, some (b.drop (getN b).2)) := fun _ => rfl
    by_cases hc : (getN B).2 = 0 ∨ most < (getN B).1
    · rw [e B, if_pos hc] at h; simp at h
    · have hg := getN_more (fun z => hc (Or.inl z)) q
      rw [e B, if_neg hc] at h ⊢
      rw [e (B ++ q), hg, if_neg hc]
      simp only [Option.some.injEq] at h
      rw [List.drop_append_of_le_length (getN_size B), h]
theorem byt_more {most : Int} {s : Option (List Nat)} {R : List Nat} (h : (bytR most s).2 = some R) : ∃ B, s = some B ∧ ∀ q, bytR most (some (B ++ q)) = ((bytR most s).1, some (R ++ q)) := by
  unfold bytR at h
  split at h
  · simp at h
  · rename_i hc
    cases hn : (numR (max most 0).toNat s).2 with
    | none => rw [hn] at h; simp at h
    | some C =>
      obtain ⟨B, rfl, hq⟩ := num_more hn
      refine ⟨B, rfl, fun q => ?_⟩
      rw [hn] at h hc
      simp only [Option.map_some, Option.some.injEq, Option.getD_some] at h hc
      unfold bytR
      rw [hq q, hn]
      simp only [Option.getD_some, Option.map_some]
      rw [if_neg (by rw [List.length_append]; omega), if_neg hc, List.take_append_of_le_length (by omega), List.drop_append_of_le_length (by omega), h]

theorem rd_box {W w0 : World} {bs : List Nat} {a : Option Addr} {cap : Nat} {t : TypeId} (hs : SlAt bV 256 W a cap bs) (hb : Below W.heap.size W w0) :
    RdAt (w0.alloc (.cells #[.slice a bs.length cap, .bool false] t)) w0.heap.size (fun k => k < W.heap.size) (some bs) := by
  refine ⟨a, cap, by simp, by simp, fun i => by simp, by simp, (hs.below hb).below (below_alloc (Below.refl _ _) _), fun ad e h0 => ?_, fun h => by have := hb.size; omega⟩
  have h0 : bs ≠ [] := h0
  obtain ⟨b, off, e2, hl, _⟩ := hs.cell 0 (List.length_pos_iff.2 h0)
  rw [e] at e2
  cases e2
  exact hl

end Go.Proofs.Ytfbojcaedcimcaa

/-
  A block of so many cells; on the way: a reader, such a block, and a slice that was read.
-/
namespace Go.Proofs.Ytfbojcaedcimcaa
open Go.RowKit

/-- The reader in block p, the cells in block B, the slice; all but the two blocks as it was. -/
structure RdC (n : Nat) (W : World) (p B : Nat) (S : Nat → Prop) (s : Option (List Nat)) (V : Nat → Value) (a : Option Addr) (cap : Nat) (ys : List Nat) (w : World) : Prop where
  rd : RdAt w p S s
  cel : Cel n w B V
  kp : Keep (fun k => k = p ∨ k = B) W w
  sl : SlAt bV 256 w a cap ys
  fr : ∀ ad, a = some ad → W.heap.size ≤ ad.block
  ne : p ≠ B
  sB : ∀ k, S k → k ≠ B
  lt : p < W.heap.size ∧ B < W.heap.size
theorem RdC.call {n : Nat} {W w w' : World} {p B : Nat} {S : Nat → Prop} {s s' : Option (List Nat)} {V : Nat → Value} {a : Option Addr} {cap : Nat} {ys : List Nat} {v : Value} {e : Ending} (h : RdC n W p B S s V a cap ys w) (hp : RdPost w p S v s' e w') :
    e = .returned v ∧ RdC n W p B S s' V a cap ys w' := by
  obtain ⟨he, hA, hK⟩ := hp
  exact ⟨he, hA, h.cel.keep hK (fun e => h.ne e.symm), h.kp.trans hK (fun i _ e => Or.inl e), h.sl.keep hK (fun ad e _ f => by have := h.fr ad e; have := h.lt; omega), h.fr, h.ne, h.sB, h.lt⟩
theorem RdC.put {n : Nat} {W w : World} {p B : Nat} {S : Nat → Prop} {s : Option (List Nat)} {V : Nat → Value} {a : Option Addr} {cap : Nat} {ys : List Nat} (h : RdC n W p B S s V a cap ys w) (o : Nat) (v : Value) :
    RdC n W p B S s (updc V o v) a cap ys (w.setCell ⟨B, o, none⟩ v) := by
  have hK : Keep (fun k => k = B) w (w.setCell ⟨B, o, none⟩ v) := Keep.setCell (F := fun k => k = B) (Keep.refl _ _) (p := ⟨B, o, none⟩) rfl v
  exact ⟨h.rd.keep hK h.ne (fun k f => h.sB k f), h.cel.put o v, h.kp.trans hK (fun i _ e => Or.inr e), h.sl.keep hK (fun ad e _ f => by have := h.fr ad e; have := h.lt; omega), h.fr, h.ne, h.sB, h.lt⟩
theorem RdC.body {n : Nat} {W w w' : World} {p B : Nat} {S : Nat → Prop} {s s' : Option (List Nat)} {V : Nat → Value} {a : Option Addr} {cap : Nat} {ys zs : List Nat} {e : Ending} (h : RdC n W p B S s V a cap ys w) (hp : BytPost w p S zs s' e w') :
    ∃ a2 c2, e = .returned (.slice a2 zs.length c2) ∧ RdC n W p B S s' V a2 c2 zs w' ∧ RdC n W p B S s' V a cap ys w' := by
  obtain ⟨a2, c2, he, hs, hA, hK, hf⟩ := hp
  have h2 := (h.call (v := .tuple #[]) ⟨rfl, hA, hK⟩).2
  exact ⟨a2, c2, he, ⟨h2.rd, h2.cel, h2.kp, hs, fun ad e => Nat.le_trans h.kp.size (hf ad e), h2.ne, h2.sB, h2.lt⟩, h2⟩

theorem rdc_num {n : Nat} {W w : World} {p B most x : Nat} {z : Int} {S : Nat → Prop} {s s' : Option (List Nat)} {V : Nat → Value} {a : Option Addr} {cap : Nat} {ys : List Nat} (h : RdC n W p B S s V a cap ys w) (hz : (most : Int) = z) (hr : numR most s = (x, s')) :
    Calls Try.prog 31 #[.pointer (some ⟨p, 0, none⟩), .int .u64 z] w fun e w' => e = .returned (.int .u64 (x : Nat)) ∧ RdC n W p B S s' V a cap ys w' := by
  subst hz
  have := rnum_any w p S s most h.rd
  rw [hr] at this
  exact this.mono fun e w' hp => h.call hp
theorem rdc_bytes {n : Nat} {W w : World} {p B : Nat} {S : Nat → Prop} {s s' : Option (List Nat)} {V : Nat → Value} {a : Option Addr} {cap : Nat} {ys zs : List Nat} {most : Int} (h : RdC n W p B S s V a cap ys w) (hm : -9223372036854775808 ≤ most ∧ most ≤ 9223372036854775807) (hb : (s.getD []).length ≤ 1000000) (hr : bytR most s = (zs, s')) :
    Calls Try.prog 32 #[.pointer (some ⟨p, 0, none⟩), .int .i64 most] w fun e w' => ∃ a2 c2, e = .returned (.slice a2 zs.length c2) ∧ RdC n W p B S s' V a2 c2 zs w' ∧ RdC n W p B S s' V a cap ys w' := by
  have := rbytes_any w p S s most h.rd hm hb
  rw [hr] at this
  exact this.mono fun e w' hp => h.body hp
end Go.Proofs.Ytfbojcaedcimcaa

/-
  Frames as plain data: which may be, their bytes, what is read; how they lie in memory; what is written is read again, cut short it is none.
-/
namespace Go.Proofs.Ytfbojcaedcimcaa
open Go.RowKit

structure Frm where
  ack : Bool
  num : Nat
  bod : List Nat

/-- A frame as the model bears it; its cells. -/
abbrev frmA (f : Frm) (a : Option Addr) (c : Nat) : Array Value := #[.bool f.ack, .int .u64 (f.num : Nat), .slice a f.bod.length c]
abbrev zfA : Array Value := #[.bool false, .int .u64 0, .slice none 0 0]

/-- Which may be. -/
def goodF (f : Frm) : Bool := if f.ack then decide (f.bod = []) else decide (0 < f.num ∧ f.bod.length ≤ 30000)
/-- A frame's bytes. -/
def putF (f : Frm) : List Nat := if f.ack then lebL 1 ++ lebL f.num else lebL 0 ++ lebL f.num ++ (lebL f.bod.length ++ f.bod)
/-- What Put gives. -/
def bytesF (f : Frm) : List Nat := if goodF f then putF f else []
/-- What is read behind the first number, and behind that. -/
def tailF (k : Bool) (n : Nat) (s : Option (List Nat)) : Frm × Option (List Nat) := if k then (⟨true, n, []⟩, s) else (⟨false, n, (bytR 30000 s).1⟩, (bytR 30000 s).2)
def readF (s : Option (List Nat)) : Frm × Option (List Nat) :=
  tailF (decide ((numR 1 s).1 = 1)) (numR 18446744073709551615 (numR 1 s).2).1 (numR 18446744073709551615 (numR 1 s).2).2
def zeroF : Frm := ⟨false, 0, []⟩
def okF (bs : List Nat) : Bool := endR (readF (some bs)).2 && goodF (readF (some bs)).1
def gotF (bs : List Nat) : Frm := if okF bs then (readF (some bs)).1 else zeroF

theorem bytR_le (most : Int) (s : Option (List Nat)) : ((bytR most s).1.length : Int) ≤ max most 0 := by
  unfold bytR
  split
  · simp; omega
  · have := numR_le (max most 0).toNat s
    simp only [List.length_take]
    omega
theorem tail_lt (k : Bool) (n : Nat) (s : Option (List Nat)) (hn : n < 18446744073709551616) : (tailF k n s).1.num < 18446744073709551616 := by
  unfold tailF
  split <;> exact hn
theorem readF_lt (s : Option (List Nat)) : (readF s).1.num < 18446744073709551616 := tail_lt _ _ _ (numR_lt _ _)
theorem gotF_lt (bs : List Nat) : (gotF bs).num < 18446744073709551616 := by
  unfold gotF
  split
  · exact readF_lt _
  · exact (by decide : (0 : Nat) < 18446744073709551616)
/-- Of what was read, the number alone of data may not be. -/
theorem goodF_read (s : Option (List Nat)) : goodF (readF s).1 = ((readF s).1.ack || decide (0 < (readF s).1.num)) := by
  unfold readF tailF
  split
  · simp [goodF]
  · have := bytR_le 30000 (numR 18446744073709551615 (numR 1 s).2).2
    have h : (bytR 30000 (numR 18446744073709551615 (numR 1 s).2).2).1.length ≤ 30000 := by omega
    simp [goodF, h]

/-! What is written is read again. -/
theorem readF_put {f : Frm} (hn : f.num < 18446744073709551616) (h : goodF f = true) (r : List Nat) : readF (some (putF f ++ r)) = (f, some r) := by
  obtain ⟨ack, num, bod⟩ := f
  simp only at hn
  have e2 : ∀ q, numR 18446744073709551615 (some (lebL num ++ q)) = (num, some q) := fun q => num_back hn (by omega) q
  cases ack
  · have hb : 0 < num ∧ bod.length ≤ 30000 := by simpa [goodF] using h
    have e1 : ∀ q, numR 1 (some (lebL 0 ++ q)) = (0, some q) := fun q => num_back (by decide) (by decide) q
    have e3 : ∀ q, bytR 30000 (some (lebL bod.length ++ (bod ++ q))) = (bod, some q) := fun q => byt_back (by omega) (by omega) q
    unfold readF putF
    simp only [Bool.false_eq_true, if_false, List.append_assoc, e1, e2]
    unfold tailF
    simp only [e3]
    rfl
  · have hb : bod = [] := by simpa [goodF] using h
    subst hb
    have e1 : ∀ q, numR 1 (some (lebL 1 ++ q)) = (1, some q) := fun q => num_back (by decide) (by decide) q
    unfold readF putF
    simp only [if_true, List.append_assoc, e1, e2]
    rfl
theorem gotF_put {f : Frm} (hn : f.num < 18446744073709551616) (h : goodF f = true) : okF (putF f) = true ∧ gotF (putF f) = f := by
  have e : readF (some (putF f)) = (f, some []) := by simpa using readF_put hn h []
  have h1 : okF (putF f) = true := by
    unfold okF
    rw [e, h]
    rfl
  refine ⟨h1, ?_⟩
  unfold gotF
  rw [h1, e]
  rfl
/-- Another behind it: none. -/
theorem okF_more {f : Frm} (hn : f.num < 18446744073709551616) (h : goodF f = true) (c : Nat) : okF (putF f ++ [c]) = false := by
  unfold okF
  rw [readF_put hn h [c]]
  rfl
theorem tail_more {k : Bool} {n : Nat} {s : Option (List Nat)} {R : List Nat} (h : (tailF k n s).2 = some R) : ∃ B, s = some B ∧ ∀ q, tailF k n (some (B ++ q)) = ((tailF k n s).1, some (R ++ q)) := by
  unfold tailF at h ⊢
  cases k
  · simp only [Bool.false_eq_true, if_false] at h ⊢
    obtain ⟨B, rfl, hq⟩ := byt_more h
    exact ⟨B, rfl, fun q => by rw [hq q]⟩
  · simp only [if_true] at h ⊢
    exact ⟨R, h, fun q => rfl⟩
theorem readF_more {s : Option (List Nat)} {R : List Nat} (h : (readF s).2 = some R) : ∃ B, s = some B ∧ ∀ q, readF (some (B ++ q)) = ((readF s).1, some (R ++ q)) := by
  unfold readF at h
  obtain ⟨B2, h2, q2⟩ := tail_more h
  obtain ⟨B1, h1, q1⟩ := num_more h2
  obtain ⟨B0, rfl, q0⟩ := num_more h1
  refine ⟨B0, rfl, fun q => ?_⟩
  unfold readF
  simp only [q0 q, q1 q, q2 q]
/-- Cut short: none. -/
theorem okF_cut {f : Frm} (hn : f.num < 18446744073709551616) (h : goodF f = true) {k : Nat} (hk : k < (putF f).length) : okF ((putF f).take k) = false := by
  cases he : okF ((putF f).take k) with
  | false => rfl
  | true =>
    unfold okF at he
    rw [Bool.and_eq_true] at he
    have hr : (readF (some ((putF f).take k))).2 = some [] := by
      cases hs : (readF (some ((putF f).take k))).2 with
      | none => rw [hs] at he; simp [endR] at he
      | some C => rw [hs] at he; simp [endR] at he; rw [he.1]
    obtain ⟨B, hB, hq⟩ := readF_more hr
    cases hB
    have e := hq ((putF f).drop k)
    rw [List.take_append_drop] at e
    have e2 : readF (some (putF f)) = (f, some []) := by simpa using readF_put hn h []
    rw [e2] at e
    have : (putF f).drop k = [] := by simpa using (congrArg Prod.snd e).symm
    rw [List.drop_eq_nil_iff] at this
    omega
theorem putF_len {f : Frm} (hn : f.num < 18446744073709551616) (h : goodF f = true) : 0 < (putF f).length ∧ (putF f).length ≤ 30040 := by
  have a1 := leb_len hn
  have a2 := leb_len (n := 0) (by decide)
  have a3 := leb_len (n := 1) (by decide)
  unfold putF
  cases ha : f.ack
  · have hb : 0 < f.num ∧ f.bod.length ≤ 30000 := by simpa [goodF, ha] using h
    have a4 := leb_len (n := f.bod.length) (by omega)
    simp only [Bool.false_eq_true, if_false, List.length_append]
    omega
  · simp only [if_true, List.length_append]
    omega
/-- Two that may be, of the same bytes, are the same. -/
theorem putF_inj {f g : Frm} (hf : f.num < 18446744073709551616) (hg : g.num < 18446744073709551616) (h1 : goodF f = true) (h2 : goodF g = true) (h : putF f = putF g) : f = g := by
  rw [← (gotF_put hf h1).2, h, (gotF_put hg h2).2]

/-! How it lies in memory. -/
structure FrmB (w : World) (B : Nat) (f : Frm) (a : Option Addr) (c : Nat) : Prop where
  c0 : w.cell? ⟨B, 0, none⟩ = some (.bool f.ack)
  c1 : w.cell? ⟨B, 1, none⟩ = some (.int .u64 (f.num : Nat))
  c2 : w.cell? ⟨B, 2, none⟩ = some (.slice a f.bod.length c)
theorem frmB_new (W : World) (f : Frm) (a : Option Addr) (c : Nat) (t : TypeId) : FrmB (W.alloc (.cells (frmA f a c) t)) W.heap.size f a c := by
  constructor <;> simp [frmA]
theorem FrmB.below {w w' : World} {B : Nat} {f : Frm} {a : Option Addr} {c : Nat} (h : FrmB w B f a c) (hb : Below w.heap.size w w') : FrmB w' B f a c :=
  ⟨cell_go h.c0 hb, cell_go h.c1 hb, cell_go h.c2 hb⟩

/-- A frame in a block of its own, and all else below N as it was. -/
structure Fun (W : World) (N B : Nat) (f : Frm) (a : Option Addr) (c : Nat) (w : World) : Prop where
  be : Below N W w
  le : N ≤ w.heap.size
  bx : FrmB w B f a c
  sl : SlAt bV 256 w a c f.bod
theorem Fun.of {W w w' : World} {N B : Nat} {f : Frm} {a : Option Addr} {c : Nat} (hb : Below w.heap.size w w') (h : Hid (Fun W N B f a c w)) : Hid (Fun W N B f a c w') :=
  Lib.hid ⟨h.out.be.trans (hb.mono h.out.le), Nat.le_trans h.out.le hb.size, h.out.bx.below hb, h.out.sl.below hb⟩
theorem Fun.new {W : World} {f : Frm} {a : Option Addr} {c : Nat} (h : SlAt bV 256 W a c f.bod) (t : TypeId) :
    Hid (Fun W W.heap.size W.heap.size f a c (W.alloc (.cells (frmA f a c) t))) :=
  Lib.hid ⟨below_alloc (Below.refl _ W) _, (below_alloc (Below.refl _ W) _).size, frmB_new W f a c t, h.below (below_alloc (Below.refl _ W) _)⟩
theorem Fun.drew {W w : World} {N B : Nat} {f : Frm} {a : Option Addr} {c : Nat} (h : Hid (Fun W N B f a c w)) : Hid (Fun W N B f a c w.drew) := Fun.of (drew_below w) h
theorem Fun.alloc {W w : World} {N B : Nat} {f : Frm} {a : Option Addr} {c : Nat} {o : Obj} (h : Hid (Fun W N B f a c w)) : Hid (Fun W N B f a c (w.alloc o)) := Fun.of (below_alloc (Below.refl _ _) o) h
/-- A frame that a call gave, laid in a block of its own. -/
theorem Fun.lay {W w w' : World} {N : Nat} {f : Frm} {a : Option Addr} {c : Nat} (hbe : Below N W w) (hle : N ≤ w.heap.size) (hb : Below w.heap.size w w') (hs : SlAt bV 256 w' a c f.bod) (t : TypeId) :
    Hid (Fun W N w'.heap.size f a c (w'.alloc (.cells (frmA f a c) t))) := by
  have h1 := hbe.trans (hb.mono hle)
  have h2 := Nat.le_trans hle hb.size
  exact Lib.hid ⟨h1.alloc h2 _, Nat.le_trans h2 (below_alloc (Below.refl _ w') (.cells (frmA f a c) t)).size, frmB_new w' f a c t, hs.below (below_alloc (Below.refl _ w') _)⟩

end Go.Proofs.Ytfbojcaedcimcaa

/-
  Which frames may be: the program's own.
-/
namespace Go.Proofs.Ytfbojcaedcimcaa
open Go.RowKit

set_option maxRecDepth 20000 in
set_option maxHeartbeats 4000000 in
theorem fgood_any (f : Frm) (a : Option Addr) (c : Nat) (W : World) (hs : SlAt bV 256 W a c f.bod) :
    Calls Try.prog 34 #[.agg (frmA f a c)] W fun e w' => e = .returned (.bool (goodF f)) ∧ Below W.heap.size W w' := by
  have X1 := Fun.new hs 52
  have hfit := hs.fit
  have hmax := hs.max
  unfold maxLen at hmax
  clear hs
  cases hA : f.ack
  · by_cases hn : f.num = 0
    · have G := Lib.hid (show goodF f = false by simp [goodF, hA, hn])
      go_enter Try.func34, Try.ntmps34
      go_wp2_with fail
      generalize W.alloc (.cells (frmA f a c) 52) = w1 at X1 ⊢
      obtain ⟨j0, j1, j2⟩ := X1.out.bx
      rw [hA] at j0
      rw [hn] at j1
      clear hA hn
      go_wp2_with fail
      go_ret
      exact ⟨by rw [G.out]; rfl, X1.out.be⟩
    · have G := Lib.hid (show goodF f = decide (f.bod.length ≤ 30000) by simp [goodF, hA]; omega)
      go_enter Try.func34, Try.ntmps34
      go_wp2_with fail
      generalize W.alloc (.cells (frmA f a c) 52) = w1 at X1 ⊢
      obtain ⟨j0, j1, j2⟩ := X1.out.bx
      rw [hA] at j0
      clear hA
      have hn' : decide ((0 : Int) < (f.num : Int)) = true := decide_eq_true (by omega)
      have hn2 : decide (0 < f.num) = true := decide_eq_true (by omega)
      clear hn
      go_wp2_with fail
      go_ret
      exact ⟨by rw [G.out]; simp; omega, X1.out.be⟩
  · have G := Lib.hid (show goodF f = decide (f.bod = []) by simp [goodF, hA])
    have E := Lib.hid (nil_test f.bod)
    go_enter Try.func34, Try.ntmps34
    go_wp2_with fail
    generalize W.alloc (.cells (frmA f a c) 52) = w1 at X1 ⊢
    obtain ⟨j0, j1, j2⟩ := X1.out.bx
    rw [hA] at j0
    clear hA
    go_wp2_with fail
    go_ret
    exact ⟨by rw [G.out]; exact ret_b E.out, X1.out.be⟩
theorem fgood_is {f : Frm} {a : Option Addr} {c : Nat} {W : World} {r : Bool} (hs : SlAt bV 256 W a c f.bod) (h : goodF f = r) :
    Calls Try.prog 34 #[.agg (frmA f a c)] W fun e w' => e = .returned (.bool r) ∧ Below W.heap.size W w' := by
  subst h; exact fgood_any f a c W hs

end Go.Proofs.Ytfbojcaedcimcaa

/-
  Put: a frame as bytes; the program's own and the document's.
-/
namespace Go.Proofs.Ytfbojcaedcimcaa
open Go.RowKit

/-- Bytes are given. -/
def BytesPost (W : World) (bs : List Nat) (e : Ending) (w' : World) : Prop :=
  ∃ a cap, e = .returned (.slice a bs.length cap) ∧ SlAt bV 256 w' a cap bs ∧ Below W.heap.size W w'
/-- The same; they lie in new memory. -/
def BytesNew (W : World) (bs : List Nat) (e : Ending) (w' : World) : Prop :=
  ∃ a cap, e = .returned (.slice a bs.length cap) ∧ SlAt bV 256 w' a cap bs ∧ Below W.heap.size W w' ∧ ∀ ad, a = some ad → W.heap.size ≤ ad.block
theorem bytes_none (W w : World) (hb : Below W.heap.size W w) : BytesPost W [] (.returned (.slice none 0 0)) w := ⟨none, 0, rfl, SlAt.none _ _ _, hb⟩

set_option maxRecDepth 20000 in
set_option maxHeartbeats 8000000 in
theorem fput_new (f : Frm) (a : Option Addr) (c : Nat) (W : World) (hs : SlAt bV 256 W a c f.bod) (hn : f.num < 18446744073709551616) :
    Calls Try.prog 35 #[.agg (frmA f a c)] W (BytesNew W (bytesF f)) := by
  have X1 := Fun.new hs 52
  have hfit := hs.fit
  have O := Lib.hid hn
  clear hn hs
  obtain ⟨r, hr⟩ : ∃ r, goodF f = r := ⟨_, rfl⟩
  have R := Lib.hid hr
  clear hr
  go_enter Try.func35, Try.ntmps35
  go_wp2_with fail
  generalize W.alloc (.cells (frmA f a c) 52) = w1 at X1 ⊢
  obtain ⟨j0, j1, j2⟩ := X1.out.bx
  go_wp2_with fail
  refine (fgood_is X1.out.sl R.out).mono ?_
  rintro e w2 ⟨rfl, hb⟩
  have X2 := Fun.of hb X1
  clear hb X1 j0 j1 j2
  cases r
  · have E := Lib.hid (show bytesF f = [] by unfold bytesF; rw [R.out]; rfl)
    go_wp2_with fail
    go_ret
    rw [E.out]
    exact ⟨none, 0, rfl, SlAt.none _ _ _, X2.out.be, fun ad h => by cases h⟩
  have E := Lib.hid (show bytesF f = putF f by unfold bytesF; rw [R.out]; rfl)
  obtain ⟨j0, j1, j2⟩ := X2.out.bx
  go_wp2_with fail
  refine (wnew_any w2 w2.heap.size (Nat.le_refl _)).mono ?_
  rintro e w3 ⟨rfl, hA, hB⟩
  obtain ⟨p, hp⟩ : ∃ p, w2.heap.size = p := ⟨_, rfl⟩
  have H0 := Lib.hid (show WrOn w2 w2.heap.size w2.heap.size [] w3 from ⟨⟨_, hA⟩, hB⟩)
  have Y := (X2.out.bx.below hB)
  rw [hp] at H0 ⊢
  rw [← hp] at H0
  have H0 := Lib.hid (show WrOn w2 w2.heap.size p [] w3 by rw [← hp]; exact H0.out)
  clear j0 j1 j2
  obtain ⟨j0, j1, j2⟩ := Y
  clear hA hB hp
  cases hA : f.ack
  · rw [hA] at j0
    have E2 := Lib.hid (show bytesF f = lebL 0 ++ lebL f.num ++ (lebL f.bod.length ++ f.bod) by rw [E.out]; unfold putF; rw [hA]; rfl)
    have L := Lib.hid (show (lebL 0).length ≤ 10 ∧ (lebL f.num).length ≤ 10 ∧ f.bod.length ≤ 30000 from ⟨lens _ (by decide), lens _ O.out, by have := R.out; simp only [goodF, hA, Bool.false_eq_true, if_false, decide_eq_true_eq] at this; exact this.2⟩)
    clear hA E
    go_wp2_with fail
    refine (on_numz (n := 0) H0.out rfl (by decide) (by simp)).mono ?_
    rintro e w4 ⟨rfl, h⟩
    rw [List.nil_append] at h
    have H1 := Lib.hid h
    clear j0 j1 j2
    obtain ⟨j0, j1, j2⟩ := (X2.out.bx.below h.2)
    clear h H0
    go_wp2_with fail
    refine (on_numz (n := f.num) H1.out rfl O.out (by have := L.out; omega)).mono ?_
    rintro e w5 ⟨rfl, h⟩
    have H2 := Lib.hid h
    clear j0 j1 j2
    obtain ⟨j0, j1, j2⟩ := (X2.out.bx.below h.2)
    clear h H1
    go_wp2_with fail
    refine (on_bytesz H2.out X2.out.sl rfl (by simp only [List.length_append]; have := L.out; omega) (by have := L.out; omega)).mono ?_
    rintro e w6 ⟨rfl, h⟩
    have H3 := Lib.hid h
    clear h H2 j0 j1 j2
    go_wp2_with fail
    have QL : (lebL 0 ++ lebL f.num ++ (lebL f.bod.length ++ f.bod)).length ≤ 2000000 := by simp only [List.length_append]; have := L.out; have := lens f.bod.length (by omega); omega
    generalize lebL 0 ++ lebL f.num ++ (lebL f.bod.length ++ f.bod) = q at E2 H3 QL
    refine (on_done H3.out QL).mono ?_
    rintro e w7 ⟨a7, c7, rfl, hs7, h, _, hf⟩
    have N7 := Lib.hid (fun ad e => Nat.le_trans (Nat.le_trans X2.out.le H3.out.2.size) (hf ad e))
    have B7 := Lib.hid (show Below W.heap.size W w7 from X2.out.be.trans (h.2.mono X2.out.le))
    have S7 := Lib.hid hs7
    clear h hs7 H3 hf
    go_wp2_with fail
    go_ret
    rw [E2.out]
    exact ⟨a7, c7, rfl, S7.out, B7.out, N7.out⟩
  · rw [hA] at j0
    have E2 := Lib.hid (show bytesF f = lebL 1 ++ lebL f.num by rw [E.out]; unfold putF; rw [hA]; rfl)
    have L := Lib.hid (show (lebL 1).length ≤ 10 ∧ (lebL f.num).length ≤ 10 from ⟨lens _ (by decide), lens _ O.out⟩)
    clear hA E
    go_wp2_with fail
    refine (on_numz (n := 1) H0.out rfl (by decide) (by simp)).mono ?_
    rintro e w4 ⟨rfl, h⟩
    rw [List.nil_append] at h
    have H1 := Lib.hid h
    clear j0 j1 j2
    obtain ⟨j0, j1, j2⟩ := (X2.out.bx.below h.2)
    clear h H0
    go_wp2_with fail
    refine (on_numz (n := f.num) H1.out rfl O.out (by have := L.out; omega)).mono ?_
    rintro e w5 ⟨rfl, h⟩
    have H3 := Lib.hid h
    clear h H1 j0 j1 j2
    go_wp2_with fail
    have QL : (lebL 1 ++ lebL f.num).length ≤ 2000000 := by simp only [List.length_append]; have := L.out; omega
    generalize lebL 1 ++ lebL f.num = q at E2 H3 QL
    refine (on_done H3.out QL).mono ?_
    rintro e w7 ⟨a7, c7, rfl, hs7, h, _, hf⟩
    have N7 := Lib.hid (fun ad e => Nat.le_trans (Nat.le_trans X2.out.le H3.out.2.size) (hf ad e))
    have B7 := Lib.hid (show Below W.heap.size W w7 from X2.out.be.trans (h.2.mono X2.out.le))
    have S7 := Lib.hid hs7
    clear h hs7 H3 hf
    go_wp2_with fail
    go_ret
    rw [E2.out]
    exact ⟨a7, c7, rfl, S7.out, B7.out, N7.out⟩
theorem fput_any (f : Frm) (a : Option Addr) (c : Nat) (W : World) (hs : SlAt bV 256 W a c f.bod) (hn : f.num < 18446744073709551616) :
    Calls Try.prog 35 #[.agg (frmA f a c)] W (BytesPost W (bytesF f)) :=
  (fput_new f a c W hs hn).mono fun _ _ ⟨a1, c1, h1, h2, h3, _⟩ => ⟨a1, c1, h1, h2, h3⟩
theorem fput_is {f : Frm} {a : Option Addr} {c : Nat} {W : World} {bs : List Nat} (hs : SlAt bV 256 W a c f.bod) (hn : f.num < 18446744073709551616) (h : bytesF f = bs) :
    Calls Try.prog 35 #[.agg (frmA f a c)] W (BytesPost W bs) := by
  subst h; exact fput_any f a c W hs hn

end Go.Proofs.Ytfbojcaedcimcaa

/-
  Get: a frame out of bytes.
-/
namespace Go.Proofs.Ytfbojcaedcimcaa
open Go.RowKit

/-- Three cells, no frame yet. -/
def zfV : Nat → Value
  | 0 => .bool false
  | 1 => .int .u64 0
  | _ => .slice none 0 0
theorem zf_new (w : World) (t : TypeId) : Cel 3 (w.alloc (.cells zfA t)) w.heap.size zfV := by
  refine ⟨fun o ho => ?_, fun o => by simp, by simp⟩
  rcases (show o = 0 ∨ o = 1 ∨ o = 2 by omega) with rfl | rfl | rfl <;> simp [zfV]
/-- Three cells are written anew. -/
theorem three_set {F : Nat → Prop} {w : World} {B : Nat} (v0 v1 v2 : Value) (hB : F B) : Keep F w (((w.setCell ⟨B, 0, none⟩ v0).setCell ⟨B, 1, none⟩ v1).setCell ⟨B, 2, none⟩ v2) :=
  (((Keep.refl F w).setCell (p := ⟨B, 0, none⟩) hB v0).setCell (p := ⟨B, 1, none⟩) hB v1).setCell (p := ⟨B, 2, none⟩) hB v2
theorem Cel.three {w : World} {B : Nat} {V : Nat → Value} (h : Cel 3 w B V) (v0 v1 v2 : Value) :
    (((w.setCell ⟨B, 0, none⟩ v0).setCell ⟨B, 1, none⟩ v1).setCell ⟨B, 2, none⟩ v2).cell? ⟨B, 0, none⟩ = some v0 ∧ (((w.setCell ⟨B, 0, none⟩ v0).setCell ⟨B, 1, none⟩ v1).setCell ⟨B, 2, none⟩ v2).cell? ⟨B, 1, none⟩ = some v1 ∧ (((w.setCell ⟨B, 0, none⟩ v0).setCell ⟨B, 1, none⟩ v1).setCell ⟨B, 2, none⟩ v2).cell? ⟨B, 2, none⟩ = some v2 := by
  have T := ((h.put 0 v0).put 1 v1).put 2 v2
  exact ⟨T.c 0 (by decide), T.c 1 (by decide), T.c 2 (by decide)⟩

theorem readF_eq {bs : List Nat} {x n : Nat} {k : Bool} {s1 s2 : Option (List Nat)} (e1 : numR 1 (some bs) = (x, s1)) (e2 : numR 18446744073709551615 s1 = (n, s2)) (hk : ((x : Int) == 1) = k) : readF (some bs) = tailF k n s2 := by
  unfold readF
  rw [e1]
  simp only
  rw [e2]
  simp only
  rw [show decide (x = 1) = k by rw [← hk]; by_cases h : x = 1 <;> simp [h] <;> omega]

/-- What Get leaves. -/
def FGetPost (W : World) (bs : List Nat) (e : Ending) (w' : World) : Prop :=
  ∃ a c, e = .returned (.tuple #[.agg (frmA (gotF bs) a c), .int .i64 (if okF bs then 0 else 2)]) ∧ SlAt bV 256 w' a c (gotF bs).bod ∧ Below W.heap.size W w' ∧ ∀ ad, a = some ad → W.heap.size ≤ ad.block
def RFGetPost (W : World) (bs : List Nat) (e : Ending) (w' : World) : Prop :=
  ∃ a c, e = .returned (.tuple #[.agg (frmA (gotF bs) a c), .bool (okF bs)]) ∧ SlAt bV 256 w' a c (gotF bs).bod ∧ Below W.heap.size W w' ∧ ∀ ad, a = some ad → W.heap.size ≤ ad.block

set_option maxRecDepth 20000 in
set_option maxHeartbeats 16000000 in
theorem fget_any (W : World) (bs : List Nat) (ao : Option Addr) (cap : Nat) (hs : SlAt bV 256 W ao cap bs) (hl : bs.length ≤ 1000000) :
    Calls Try.prog 17 #[.slice ao bs.length cap] W (FGetPost W bs) := by
  have HS := Lib.hid hs
  clear hs
  have T0 := Lib.hid (zf_new W 52)
  have B1 := Lib.hid (below_alloc (Below.refl _ W) (.cells zfA 52))
  have SZ := Lib.hid (show (W.alloc (.cells zfA 52)).heap.size = W.heap.size + 1 by simp)
  obtain ⟨x, s1, e1⟩ : ∃ x s1, numR 1 (some bs) = (x, s1) := ⟨_, _, rfl⟩
  obtain ⟨n, s2, e2⟩ : ∃ n s2, numR 18446744073709551615 s1 = (n, s2) := ⟨_, _, rfl⟩
  have l1 := numR_len 1 (some bs)
  have l2 := numR_len 18446744073709551615 s1
  rw [e1] at l1
  rw [e2] at l2
  have L2 := Lib.hid (show (s2.getD []).length ≤ 1000000 by simp only [Option.getD_some] at l1 l2; omega)
  have NL := Lib.hid (show n < 18446744073709551616 by have := numR_lt 18446744073709551615 s1; rw [e2] at this; exact this)
  clear l1 l2
  obtain ⟨k, hk⟩ : ∃ k, ((x : Int) == 1) = k := ⟨_, rfl⟩
  have RE := Lib.hid (readF_eq e1 e2 hk)
  have E1 := Lib.hid e1
  have E2 := Lib.hid e2
  clear e1 e2
  go_enter Try.func17, Try.ntmps17
  go_wp2_with fail
  generalize W.alloc (.cells zfA 52) = w0 at T0 B1 SZ ⊢
  obtain ⟨A, hA⟩ : ∃ A, W.heap.size = A := ⟨_, rfl⟩
  rw [hA] at T0 ⊢
  have AA := Lib.hid hA
  clear hA
  refine (on_rnew (W := w0) (N := w0.heap.size) (Below.refl _ _) (Nat.le_refl _) (HS.out.below B1.out) rfl (by omega)).mono ?_
  rintro e w1 ⟨p, S, rfl, hR, hb, hp, hS⟩
  have PP := Lib.hid (show A = W.heap.size ∧ A < p ∧ p < w1.heap.size ∧ (∀ k, S k → k < p) ∧ w0.heap.size ≤ p ∧ W.heap.size ≤ w0.heap.size from ⟨AA.out.symm, by have := SZ.out; have := AA.out; omega, by obtain ⟨a, c, hv⟩ := hR.1; exact hv.inP, fun k f => (hS k f).2, hp, by have := SZ.out; omega⟩)
  have R0 : Hid (RdC 3 (w1.alloc (.cells zfA 52)) p w1.heap.size S (some bs) zfV none 0 [] (w1.alloc (.cells zfA 52))) :=
    Lib.hid ⟨hR.1.below (below_alloc (Below.refl _ _) _), zf_new w1 _, Keep.refl _ _, SlAt.none _ _ _, (fun ad e => by cases e), (by have := PP.out; omega), (fun k f => by have := PP.out.2.2.2.1 k f; have := PP.out; omega), (by have := PP.out; simp; omega)⟩
  have T1 := Lib.hid (T0.out.below (hb.trans ((below_alloc (Below.refl _ w1) (.cells zfA 52)).mono hb.size)))
  have B2 := Lib.hid (B1.out.trans ((hb.trans ((below_alloc (Below.refl _ w1) (.cells zfA 52)).mono hb.size)).mono B1.out.size))
  have SB := Lib.hid (show w1.heap.size < (w1.alloc (.cells zfA 52)).heap.size by simp)
  clear hR hb hp hS T0 B1 SZ AA HS hl
  go_wp2_with fail
  generalize w1.alloc (.cells zfA 52) = wb at R0 T1 B2 SB ⊢
  obtain ⟨B, hB⟩ : ∃ B, w1.heap.size = B := ⟨_, rfl⟩
  have QQ := Lib.hid (show A ≠ p ∧ A ≠ B ∧ A = W.heap.size ∧ W.heap.size ≤ p ∧ W.heap.size ≤ B by have := PP.out; omega)
  rw [hB] at R0 SB ⊢
  clear hB PP
  have PP := QQ
  clear QQ
  refine (rdc_num (most := 1) R0.out rfl E1.out).mono ?_
  rintro e w2 ⟨rfl, h⟩
  cases k
  · have cc := h.cel.c 0 (by decide)
    have ff := h.cel.fz 0
    have R1 := Lib.hid (h.put 0 (.bool false))
    clear h R0
    go_wp2_with fail
    generalize w2.setCell ⟨B, 0, none⟩ (.bool false) = v1 at R1 ⊢
    clear cc ff
    refine (rdc_num (most := 18446744073709551615) R1.out rfl E2.out).mono ?_
    rintro e w3 ⟨rfl, h⟩
    have cc := h.cel.c 1 (by decide)
    have ff := h.cel.fz 1
    have R2 := Lib.hid (h.put 1 (.int .u64 (n : Nat)))
    clear h R1 hk
    have k0 : (w3.setCell ⟨B, 1, none⟩ (.int .u64 (n : Nat))).cell? ⟨B, 0, none⟩ = some (.bool false) := R2.out.cel.c 0 (by decide)
    go_wp2_with fail
    generalize w3.setCell ⟨B, 1, none⟩ (.int .u64 (n : Nat)) = v2 at R2 k0 ⊢
    clear cc ff
    obtain ⟨ys, s3, e3⟩ : ∃ ys s3, bytR 30000 s2 = (ys, s3) := ⟨_, _, rfl⟩
    have RF := Lib.hid (show readF (some bs) = (⟨false, n, ys⟩, s3) by rw [RE.out]; unfold tailF; rw [e3]; rfl)
    have E3 := Lib.hid e3
    clear e3 RE
    refine (rdc_bytes (most := 30000) R2.out (by decide) L2.out E3.out).mono ?_
    rintro e w4 ⟨ya, yc, rfl, h, _⟩
    have cc := h.cel.c 2 (by decide)
    have ff := h.cel.fz 2
    have R3 := Lib.hid (h.put 2 (.slice ya ys.length yc))
    clear h R2 k0
    have k0 : (w4.setCell ⟨B, 2, none⟩ (.slice ya ys.length yc)).cell? ⟨B, 0, none⟩ = some (.bool false) := R3.out.cel.c 0 (by decide)
    go_wp2_with fail
    generalize w4.setCell ⟨B, 2, none⟩ (.slice ya ys.length yc) = v4 at R3 k0 ⊢
    clear cc ff
    obtain ⟨b1, hb1⟩ : ∃ b, endR s3 = b := ⟨_, rfl⟩
    obtain ⟨b2, hb2⟩ : ∃ b, goodF ⟨false, n, ys⟩ = b := ⟨_, rfl⟩
    have OK := Lib.hid (show okF bs = (b1 && b2) by unfold okF; rw [RF.out, hb1, hb2])
    have G2 := Lib.hid hb2
    have k1 : v4.cell? ⟨B, 1, none⟩ = some (.int .u64 (n : Nat)) := R3.out.cel.c 1 (by decide)
    have k2 : v4.cell? ⟨B, 2, none⟩ = some (.slice ya ys.length yc) := R3.out.cel.c 2 (by decide)
    have hend := rend_any v4 p _ _ R3.out.rd
    rw [hb1] at hend
    have TA := Lib.hid (T1.out.keep R3.out.kp (by have := PP.out; omega))
    have BE := Lib.hid (B2.out.trans (R3.out.kp.below (N := W.heap.size) B2.out.size (fun k e => by have := PP.out; omega)))
    clear hb1 hb2
    refine hend.mono ?_
    clear hend
    rintro e w' ⟨rfl, rfl⟩
    cases b1
    · have z0 : v4.cell? ⟨A, 0, none⟩ = some (.bool false) := TA.out.c 0 (by decide)
      have z1 : v4.cell? ⟨A, 1, none⟩ = some (.int .u64 0) := TA.out.c 1 (by decide)
      have z2 : v4.cell? ⟨A, 2, none⟩ = some (.slice none 0 0) := TA.out.c 2 (by decide)
      have f0 := TA.out.fz 0
      have f1 := TA.out.fz 1
      have f2 := TA.out.fz 2
      go_wp2_with fail
      obtain ⟨r0, r1, r2⟩ := TA.out.three (.bool false) (.int .u64 0) (.slice none 0 0)
      have HK := Lib.hid (three_set (F := fun k => k = A) (w := v4) (B := A) (.bool false) (.int .u64 0) (.slice none 0 0) rfl)
      clear z0 z1 z2 f0 f1 f2
      generalize ((v4.setCell ⟨A, 0, none⟩ (.bool false)).setCell ⟨A, 1, none⟩ (.int .u64 0)).setCell ⟨A, 2, none⟩ (.slice none 0 0) = wf at r0 r1 r2 HK ⊢
      refine bodyPost_ret (v := .tuple #[.agg zfA, .int .i64 2]) (by simp [results, Try.results17, go_sem, r0, r1, r2]) rfl ?_
      have hO : okF bs = false := by rw [OK.out]; rfl
      have hG : gotF bs = zeroF := by unfold gotF; rw [hO]; rfl
      refine ⟨none, 0, ?_, ?_, ?_, fun ad e => by cases e⟩
      · rw [hO, hG]; try rfl
      · rw [hG]; exact SlAt.none _ _ _
      · exact BE.out.trans (HK.out.below (by have := BE.out.size; omega) (fun k e => by have := PP.out; omega))
    go_wp2_with fail
    refine (fgood_is (f := ⟨false, n, ys⟩) (a := ya) (c := yc) R3.out.sl G2.out).mono ?_
    rintro e w5 ⟨rfl, hb⟩
    have SL := Lib.hid (R3.out.sl.below hb)
    have FR := Lib.hid R3.out.fr
    have TB := Lib.hid (TA.out.below hb)
    have BF := Lib.hid (BE.out.trans (hb.mono BE.out.size))
    have m0 := cell_go k0 hb
    have m1 := cell_go k1 hb
    have m2 := cell_go k2 hb
    clear TA BE hb k0 k1 k2 R3
    have TA := TB
    have BE := BF
    clear TB BF
    cases b2
    · have z0 : w5.cell? ⟨A, 0, none⟩ = some (.bool false) := TA.out.c 0 (by decide)
      have z1 : w5.cell? ⟨A, 1, none⟩ = some (.int .u64 0) := TA.out.c 1 (by decide)
      have z2 : w5.cell? ⟨A, 2, none⟩ = some (.slice none 0 0) := TA.out.c 2 (by decide)
      have f0 := TA.out.fz 0
      have f1 := TA.out.fz 1
      have f2 := TA.out.fz 2
      go_wp2_with fail
      obtain ⟨r0, r1, r2⟩ := TA.out.three (.bool false) (.int .u64 0) (.slice none 0 0)
      have HK := Lib.hid (three_set (F := fun k => k = A) (w := w5) (B := A) (.bool false) (.int .u64 0) (.slice none 0 0) rfl)
      clear z0 z1 z2 f0 f1 f2
      generalize ((w5.setCell ⟨A, 0, none⟩ (.bool false)).setCell ⟨A, 1, none⟩ (.int .u64 0)).setCell ⟨A, 2, none⟩ (.slice none 0 0) = wf at r0 r1 r2 HK ⊢
      refine bodyPost_ret (v := .tuple #[.agg zfA, .int .i64 2]) (by simp [results, Try.results17, go_sem, r0, r1, r2]) rfl ?_
      have hO : okF bs = false := by rw [OK.out]; rfl
      have hG : gotF bs = zeroF := by unfold gotF; rw [hO]; rfl
      refine ⟨none, 0, ?_, ?_, ?_, fun ad e => by cases e⟩
      · rw [hO, hG]; try rfl
      · rw [hG]; exact SlAt.none _ _ _
      · exact BE.out.trans (HK.out.below (by have := BE.out.size; omega) (fun k e => by have := PP.out; omega))
    have z0 : w5.cell? ⟨A, 0, none⟩ = some (.bool false) := TA.out.c 0 (by decide)
    have z1 : w5.cell? ⟨A, 1, none⟩ = some (.int .u64 0) := TA.out.c 1 (by decide)
    have z2 : w5.cell? ⟨A, 2, none⟩ = some (.slice none 0 0) := TA.out.c 2 (by decide)
    have f0 := TA.out.fz 0
    have f1 := TA.out.fz 1
    have f2 := TA.out.fz 2
    go_wp2_with fail
    obtain ⟨r0, r1, r2⟩ := TA.out.three (.bool false) (.int .u64 (n : Nat)) (.slice ya ys.length yc)
    have HK := Lib.hid (three_set (F := fun k => k = A) (w := w5) (B := A) (.bool false) (.int .u64 (n : Nat)) (.slice ya ys.length yc) rfl)
    clear z0 z1 z2 f0 f1 f2
    generalize ((w5.setCell ⟨A, 0, none⟩ (.bool false)).setCell ⟨A, 1, none⟩ (.int .u64 (n : Nat))).setCell ⟨A, 2, none⟩ (.slice ya ys.length yc) = wf at r0 r1 r2 HK ⊢
    refine bodyPost_ret (v := .tuple #[.agg #[.bool false, .int .u64 (n : Nat), .slice ya ys.length yc], .int .i64 0]) (by simp [results, Try.results17, go_sem, r0, r1, r2]) rfl ?_
    have hO : okF bs = true := by rw [OK.out]; rfl
    have hG : gotF bs = ⟨false, n, ys⟩ := by unfold gotF; rw [hO, RF.out]; rfl
    refine ⟨ya, yc, ?_, ?_, ?_, ?_⟩
    · rw [hO, hG]; try rfl
    · rw [hG]; exact SL.out.keep HK.out (fun ad e _ f => by have := FR.out ad e; have := PP.out; have := T1.out.lt; omega)
    · exact BE.out.trans (HK.out.below (by have := BE.out.size; omega) (fun k e => by have := PP.out; omega))
    · exact fun ad e => by have := FR.out ad e; have := B2.out.size; omega
  · have cc := h.cel.c 0 (by decide)
    have ff := h.cel.fz 0
    have R1 := Lib.hid (h.put 0 (.bool true))
    clear h R0
    go_wp2_with fail
    generalize w2.setCell ⟨B, 0, none⟩ (.bool true) = v1 at R1 ⊢
    clear cc ff
    refine (rdc_num (most := 18446744073709551615) R1.out rfl E2.out).mono ?_
    rintro e w3 ⟨rfl, h⟩
    have cc := h.cel.c 1 (by decide)
    have ff := h.cel.fz 1
    have R2 := Lib.hid (h.put 1 (.int .u64 (n : Nat)))
    clear h R1 hk
    have k0 : (w3.setCell ⟨B, 1, none⟩ (.int .u64 (n : Nat))).cell? ⟨B, 0, none⟩ = some (.bool true) := R2.out.cel.c 0 (by decide)
    go_wp2_with fail
    generalize w3.setCell ⟨B, 1, none⟩ (.int .u64 (n : Nat)) = v2 at R2 k0 ⊢
    clear cc ff
    have RF := Lib.hid (show readF (some bs) = (⟨true, n, []⟩, s2) from RE.out)
    have R3 : Hid (RdC 3 wb p B _ s2 _ none 0 [] v2) := R2
    clear R2 RE
    obtain ⟨b1, hb1⟩ : ∃ b, endR s2 = b := ⟨_, rfl⟩
    obtain ⟨b2, hb2⟩ : ∃ b, goodF ⟨true, n, []⟩ = b := ⟨_, rfl⟩
    have OK := Lib.hid (show okF bs = (b1 && b2) by unfold okF; rw [RF.out, hb1, hb2])
    have G2 := Lib.hid hb2
    have k1 : v2.cell? ⟨B, 1, none⟩ = some (.int .u64 (n : Nat)) := R3.out.cel.c 1 (by decide)
    have k2 : v2.cell? ⟨B, 2, none⟩ = some (.slice none 0 0) := R3.out.cel.c 2 (by decide)
    have hend := rend_any v2 p _ _ R3.out.rd
    rw [hb1] at hend
    have TA := Lib.hid (T1.out.keep R3.out.kp (by have := PP.out; omega))
    have BE := Lib.hid (B2.out.trans (R3.out.kp.below (N := W.heap.size) B2.out.size (fun k e => by have := PP.out; omega)))
    clear hb1 hb2
    refine hend.mono ?_
    clear hend
    rintro e w' ⟨rfl, rfl⟩
    cases b1
    · have z0 : v2.cell? ⟨A, 0, none⟩ = some (.bool false) := TA.out.c 0 (by decide)
      have z1 : v2.cell? ⟨A, 1, none⟩ = some (.int .u64 0) := TA.out.c 1 (by decide)
      have z2 : v2.cell? ⟨A, 2, none⟩ = some (.slice none 0 0) := TA.out.c 2 (by decide)
      have f0 := TA.out.fz 0
      have f1 := TA.out.fz 1
      have f2 := TA.out.fz 2
      go_wp2_with fail
      obtain ⟨r0, r1, r2⟩ := TA.out.three (.bool false) (.int .u64 0) (.slice none 0 0)
      have HK := Lib.hid (three_set (F := fun k => k = A) (w := v2) (B := A) (.bool false) (.int .u64 0) (.slice none 0 0) rfl)
      clear z0 z1 z2 f0 f1 f2
      generalize ((v2.setCell ⟨A, 0, none⟩ (.bool false)).setCell ⟨A, 1, none⟩ (.int .u64 0)).setCell ⟨A, 2, none⟩ (.slice none 0 0) = wf at r0 r1 r2 HK ⊢
      refine bodyPost_ret (v := .tuple #[.agg zfA, .int .i64 2]) (by simp [results, Try.results17, go_sem, r0, r1, r2]) rfl ?_
      have hO : okF bs = false := by rw [OK.out]; rfl
      have hG : gotF bs = zeroF := by unfold gotF; rw [hO]; rfl
      refine ⟨none, 0, ?_, ?_, ?_, fun ad e => by cases e⟩
      · rw [hO, hG]; try rfl
      · rw [hG]; exact SlAt.none _ _ _
      · exact BE.out.trans (HK.out.below (by have := BE.out.size; omega) (fun k e => by have := PP.out; omega))
    go_wp2_with fail
    refine (fgood_is (f := ⟨true, n, []⟩) (a := none) (c := 0) (SlAt.none _ _ _) G2.out).mono ?_
    rintro e w5 ⟨rfl, hb⟩
    have TB := Lib.hid (TA.out.below hb)
    have BF := Lib.hid (BE.out.trans (hb.mono BE.out.size))
    have m0 := cell_go k0 hb
    have m1 := cell_go k1 hb
    have m2 := cell_go k2 hb
    clear TA BE hb k0 k1 k2 R3
    have TA := TB
    have BE := BF
    clear TB BF
    cases b2
    · have z0 : w5.cell? ⟨A, 0, none⟩ = some (.bool false) := TA.out.c 0 (by decide)
      have z1 : w5.cell? ⟨A, 1, none⟩ = some (.int .u64 0) := TA.out.c 1 (by decide)
      have z2 : w5.cell? ⟨A, 2, none⟩ = some (.slice none 0 0) := TA.out.c 2 (by decide)
      have f0 := TA.out.fz 0
      have f1 := TA.out.fz 1
      have f2 := TA.out.fz 2
      go_wp2_with fail
      obtain ⟨r0, r1, r2⟩ := TA.out.three (.bool false) (.int .u64 0) (.slice none 0 0)
      have HK := Lib.hid (three_set (F := fun k => k = A) (w := w5) (B := A) (.bool false) (.int .u64 0) (.slice none 0 0) rfl)
      clear z0 z1 z2 f0 f1 f2
      generalize ((w5.setCell ⟨A, 0, none⟩ (.bool false)).setCell ⟨A, 1, none⟩ (.int .u64 0)).setCell ⟨A, 2, none⟩ (.slice none 0 0) = wf at r0 r1 r2 HK ⊢
      refine bodyPost_ret (v := .tuple #[.agg zfA, .int .i64 2]) (by simp [results, Try.results17, go_sem, r0, r1, r2]) rfl ?_
      have hO : okF bs = false := by rw [OK.out]; rfl
      have hG : gotF bs = zeroF := by unfold gotF; rw [hO]; rfl
      refine ⟨none, 0, ?_, ?_, ?_, fun ad e => by cases e⟩
      · rw [hO, hG]; try rfl
      · rw [hG]; exact SlAt.none _ _ _
      · exact BE.out.trans (HK.out.below (by have := BE.out.size; omega) (fun k e => by have := PP.out; omega))
    have z0 : w5.cell? ⟨A, 0, none⟩ = some (.bool false) := TA.out.c 0 (by decide)
    have z1 : w5.cell? ⟨A, 1, none⟩ = some (.int .u64 0) := TA.out.c 1 (by decide)
    have z2 : w5.cell? ⟨A, 2, none⟩ = some (.slice none 0 0) := TA.out.c 2 (by decide)
    have f0 := TA.out.fz 0
    have f1 := TA.out.fz 1
    have f2 := TA.out.fz 2
    go_wp2_with fail
    obtain ⟨r0, r1, r2⟩ := TA.out.three (.bool true) (.int .u64 (n : Nat)) (.slice none 0 0)
    have HK := Lib.hid (three_set (F := fun k => k = A) (w := w5) (B := A) (.bool true) (.int .u64 (n : Nat)) (.slice none 0 0) rfl)
    clear z0 z1 z2 f0 f1 f2
    generalize ((w5.setCell ⟨A, 0, none⟩ (.bool true)).setCell ⟨A, 1, none⟩ (.int .u64 (n : Nat))).setCell ⟨A, 2, none⟩ (.slice none 0 0) = wf at r0 r1 r2 HK ⊢
    refine bodyPost_ret (v := .tuple #[.agg #[.bool true, .int .u64 (n : Nat), .slice none 0 0], .int .i64 0]) (by simp [results, Try.results17, go_sem, r0, r1, r2]) rfl ?_
    have hO : okF bs = true := by rw [OK.out]; rfl
    have hG : gotF bs = ⟨true, n, []⟩ := by unfold gotF; rw [hO, RF.out]; rfl
    refine ⟨none, 0, ?_, ?_, ?_, ?_⟩
    · rw [hO, hG]; try rfl
    · rw [hG]; exact SlAt.none _ _ _
    · exact BE.out.trans (HK.out.below (by have := BE.out.size; omega) (fun k e => by have := PP.out; omega))
    · exact fun ad e => by cases e
theorem fget_of {W : World} {bs : List Nat} {ao : Option Addr} {cap len : Nat} {x : Frm} {ok : Bool} (hs : SlAt bV 256 W ao cap bs) (hlen : bs.length = len) (hl : len ≤ 1000000) (hg : gotF bs = x) (ho : okF bs = ok) :
    Calls Try.prog 17 #[.slice ao len cap] W fun e w' => ∃ a c, e = .returned (.tuple #[.agg (frmA x a c), .int .i64 (if ok then 0 else 2)]) ∧ SlAt bV 256 w' a c x.bod ∧ Below W.heap.size W w' ∧ ∀ ad, a = some ad → W.heap.size ≤ ad.block := by
  subst hlen hg ho
  exact fget_any W bs ao cap hs hl

end Go.Proofs.Ytfbojcaedcimcaa
