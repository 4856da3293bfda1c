/-
  Texts of this claim, put together.
-/
import Derived.Test.YtbmpeadoicjpnaaMaa
import Derived.Test.YtbmpeadoicjpnaaMad
import Derived.Test.YtbmpeadoicjpnaaWstrm

/-
  One writer or one reader, all else as it was; slices written out in the text; a slice of bytes as a string.
-/
namespace Go.Proofs.Ytbmpeadoicjpnaa
open Go.RowKit

def Ok (W : World) (e : Ending) (w' : World) : Prop := e = .returned (.bool true) ∧ Below W.heap.size W w'

/-! One writer, all else below N as it was. -/
def WrOn (W : World) (N p : Nat) (bs : List Nat) (w : World) : Prop := (∃ F, WrAt w N p F bs) ∧ Below N W w

theorem WrOn.post {W w w' : World} {N p : Nat} {F : Nat → Prop} {bs cs : List Nat} {e : Ending} (hA : WrAt w N p F bs) (hB : Below N W w) (h : WrPost w N p F cs e w') : WrOn W N p cs w' := by
  obtain ⟨v, hV⟩ := hA
  obtain ⟨_, F', hA', hK, _⟩ := h
  have hN : N ≤ w.heap.size := by have := hV.low p hV.inP; omega
  exact ⟨⟨F', hA'⟩, hB.trans (hK.below hN (fun k f => (hV.low k f).1))⟩

theorem WrAt.size {w : World} {N p : Nat} {F : Nat → Prop} {bs : List Nat} (h : WrAt w N p F bs) : N ≤ w.heap.size ∧ p < w.heap.size ∧ ∀ k, F k → N ≤ k ∧ k < w.heap.size := by
  obtain ⟨v, hV⟩ := h
  have := hV.low p hV.inP
  exact ⟨by omega, this.2, hV.low⟩

theorem WrOn.below {W w w' : World} {N p : Nat} {bs : List Nat} (h : WrOn W N p bs w) (hb : Below w.heap.size w w') : WrOn W N p bs w' := by
  obtain ⟨⟨F, hA⟩, hB⟩ := h
  exact ⟨⟨F, hA.below hb⟩, hB.trans (hb.mono hA.size.1)⟩

theorem on_num {W w : World} {N p n : Nat} {bs : List Nat} (h : WrOn W N p bs w) (hn : n < 18446744073709551616) (hl : bs.length ≤ 1000000) :
    Calls Try.prog 45 #[.pointer (some ⟨p, 0, none⟩), .int .u64 (n : Nat)] w fun e w' => e = .returned (.tuple #[]) ∧ WrOn W N p (bs ++ lebL n) w' := by
  obtain ⟨⟨F, hA⟩, hB⟩ := h
  exact (wnum_any w N p F bs n hA hn hl).mono fun e w' h => ⟨h.1, WrOn.post hA hB h⟩


theorem on_done {W w : World} {N p : Nat} {bs : List Nat} (h : WrOn W N p bs w) (hl : bs.length ≤ 2000000) :
    Calls Try.prog 47 #[.pointer (some ⟨p, 0, none⟩)] w fun e w' => ∃ a cap, e = .returned (.slice a bs.length cap) ∧ SlAt bV 256 w' a cap bs ∧ WrOn W N p bs w' ∧ Below w.heap.size w w' ∧ ∀ ad, a = some ad → w.heap.size ≤ ad.block := by
  have h0 := h
  obtain ⟨⟨F, hA⟩, hB⟩ := h
  refine (wdone_any w N p F bs hA hl).mono fun e w' h => ?_
  obtain ⟨a, cap, he, hs, hb, hf⟩ := h
  exact ⟨a, cap, he, hs, h0.below hb, hb, fun ad e => (hf ad e).1⟩

/-! One reader, all else below N as it was. -/
def RdOn (W : World) (N p : Nat) (S : Nat → Prop) (s : Option (List Nat)) (w : World) : Prop := RdAt w p S s ∧ Below N W w ∧ N ≤ p ∧ N ≤ w.heap.size

theorem RdOn.post {W w w' : World} {N p : Nat} {S : Nat → Prop} {s s' : Option (List Nat)} {v : Value} {e : Ending} (h : RdOn W N p S s w) (hp : RdPost w p S v s' e w') : e = .returned v ∧ RdOn W N p S s' w' := by
  obtain ⟨_, hB, hN, hS⟩ := h
  obtain ⟨he, hA, hK⟩ := hp
  exact ⟨he, hA, hB.trans (hK.below hS (fun k e => e ▸ hN)), hN, Nat.le_trans hS hK.size⟩

theorem RdOn.below {W w w' : World} {N p : Nat} {S : Nat → Prop} {s : Option (List Nat)} (h : RdOn W N p S s w) (hb : Below w.heap.size w w') : RdOn W N p S s w' := by
  obtain ⟨hA, hB, hN, hS⟩ := h
  exact ⟨hA.below hb, hB.trans (hb.mono hS), hN, Nat.le_trans hS hb.size⟩

theorem on_rnum {W w : World} {N p most n : Nat} {S : Nat → Prop} {s s' : Option (List Nat)} (h : RdOn W N p S s w) (hr : numR most s = (n, s')) :
    Calls Try.prog 41 #[.pointer (some ⟨p, 0, none⟩), .int .u64 (most : Nat)] w fun e w' => e = .returned (.int .u64 (n : Nat)) ∧ RdOn W N p S s' w' := by
  have := rnum_any w p S s most h.1
  rw [hr] at this
  exact this.mono fun e w' hp => h.post hp


theorem on_rend {W w : World} {N p : Nat} {S : Nat → Prop} {s : Option (List Nat)} {b : Bool} (h : RdOn W N p S s w) (hr : endR s = b) :
    Calls Try.prog 43 #[.pointer (some ⟨p, 0, none⟩)] w fun e w' => e = .returned (.bool b) ∧ w = w' := by
  subst hr
  exact rend_any w p S s h.1

theorem on_rnew {W w : World} {N len cap : Nat} {bs : List Nat} {ao : Option Addr} (hB : Below N W w) (hN : N ≤ w.heap.size) (hs : SlAt bV 256 w ao cap bs) (hlen : bs.length = len) (hl : len ≤ 2000000) :
    Calls Try.prog 40 #[.slice ao len cap] w fun e w' => ∃ p S, e = .returned (.pointer (some ⟨p, 0, none⟩)) ∧ RdOn W N p S (some bs) w' ∧ Below w.heap.size w w' ∧ w.heap.size ≤ p ∧ ∀ k, S k → w.heap.size ≤ k ∧ k < p := by
  subst hlen
  refine (rnew_any w bs ao cap hs hl).mono fun e w' hp => ?_
  obtain ⟨p, S, he, hA, hb, hp1, hS⟩ := hp
  exact ⟨p, S, he, ⟨hA, hB.trans (hb.mono hN), by omega, Nat.le_trans hN hb.size⟩, hb, hp1, hS⟩

def lenV (n : Nat) : Value := .int .i64 (n : Nat)


end Go.Proofs.Ytbmpeadoicjpnaa

/-
  Numbers and bytes, for those who write and read by pane: a literal's number, bytes that lay there; what was read is no longer than what was there, and more behind it changes nothing.
-/
namespace Go.Proofs.Ytbmpeadoicjpnaa
open Go.RowKit

theorem on_numz {W w : World} {N p n : Nat} {z : Int} {bs : List Nat} (h : WrOn W N p bs w) (hz : (n : Int) = z) (hn : n < 18446744073709551616) (hl : bs.length ≤ 1000000) :
    Calls Try.prog 45 #[.pointer (some ⟨p, 0, none⟩), .int .u64 z] w fun e w' => e = .returned (.tuple #[]) ∧ WrOn W N p (bs ++ lebL n) w' := by
  subst hz; exact on_num h hn hl
theorem ron_num {W w : World} {N p n : Nat} {z : Int} {bs : List Nat} (h : WrOn W N p bs w) (hz : (n : Int) = z) (hn : n < 18446744073709551616) (hl : bs.length ≤ 1000000) :
    Calls Try.prog 51 #[.pointer (some ⟨p, 0, none⟩), .int .u64 z] w fun e w' => e = .returned (.tuple #[]) ∧ WrOn W N p (bs ++ lebL n) w' := by
  subst hz
  obtain ⟨⟨F, hA⟩, hB⟩ := h
  exact (rwnum_any w N p F bs n hA hn hl).mono fun e w' h => ⟨h.1, WrOn.post hA hB h⟩
theorem lens (n : Nat) (h : n < 18446744073709551616) : (lebL n).length ≤ 10 := (leb_len h).2

theorem numR_le (most : Nat) (s : Option (List Nat)) : (numR most s).1 ≤ most := by
  cases s with
  | none => exact Nat.zero_le _
  | some B =>
    show (if (getN B).2 = 0 ∨ most < (getN B).1 then ((0 : Nat), (none : Option (List Nat))) else ((getN B).1, some (B.drop (getN B).2))).1 ≤ _
    split
    · exact Nat.zero_le _
    · simp only; omega
theorem numR_len (most : Nat) (s : Option (List Nat)) : ((numR most s).2.getD []).length ≤ (s.getD []).length := by
  cases s with
  | none => exact Nat.le_refl _
  | some B =>
    show ((if (getN B).2 = 0 ∨ most < (getN B).1 then ((0 : Nat), (none : Option (List Nat))) else ((getN B).1, some (B.drop (getN B).2))).2.getD []).length ≤ B.length
    split
    · simp
    · simp
theorem bytR_len (most : Int) (s : Option (List Nat)) : ((bytR most s).2.getD []).length ≤ (s.getD []).length := by
  have h := numR_len (max most 0).toNat s
  unfold bytR
  split
  · simp
  · cases e : (numR (max most 0).toNat s).2 with
    | none => simp
    | some B => rw [e] at h; simp at h ⊢; omega
theorem in_num {most : Nat} {s : Option (List Nat)} (hs : ∀ x ∈ s.getD [], x < 256) : ∀ x ∈ ((numR most s).2.getD []), x < 256 := by
  cases s with
  | none => intro x hx; simp [numR] at hx
  | some B =>
    show ∀ x ∈ ((if (getN B).2 = 0 ∨ most < (getN B).1 then ((0 : Nat), (none : Option (List Nat))) else ((getN B).1, some (B.drop (getN B).2))).2.getD []), x < 256
    split
    · simp
    · intro x hx
      exact hs x (List.mem_of_mem_drop (by simpa using hx))

theorem decN_more' : ∀ (b : List Nat) (x : Nat × Nat) (q : List Nat), decN b = some x → decN (b ++ q) = some x
  | [], _, _, h => by simp [decN] at h
  | c :: r, x, q, h => by
    rw [List.cons_append]
    unfold decN at h ⊢
    by_cases h1 : c < 128
    · rw [if_pos h1] at h ⊢; exact h
    · rw [if_neg h1] at h ⊢
      cases hd : decN r with
      | none => rw [hd] at h; simp at h
      | some y => rw [decN_more' r y q hd]; rw [hd] at h; exact h
theorem getN_more {b : List Nat} (h : (getN b).2 ≠ 0) (q : List Nat) : getN (b ++ q) = getN b := by
  unfold getN at h ⊢
  cases hd : decN b with
  | none => rw [hd] at h; simp at h
  | some y => rw [decN_more' b y q hd]
theorem num_more {most : Nat} {s : Option (List Nat)} {R : List Nat} (h : (numR most s).2 = some R) : ∃ B, s = some B ∧ ∀ q, numR most (some (B ++ q)) = ((numR most s).1, some (R ++ q)) := by
  cases s with
  | none => simp [numR] at h
  | some B =>
    refine ⟨B, rfl, fun q => ?_⟩
    have e : ∀ b : List Nat, numR most (some b) = if (getN b).2 = 0 ∨ most < (getN b).1 then (0, none) else ((getN b).1, some (b.drop (getN b).2)) := fun _ => rfl
    by_cases hc : (getN B).2 = 0 ∨ most < (getN B).1
    · rw [e B, if_pos hc] at h; simp at h
    · have hg := getN_more (fun z => hc (Or.inl z)) q
      rw [e B, if_neg hc] at h ⊢
      rw [e (B ++ q), hg, if_neg hc]
      simp only [Option.some.injEq] at h
      rw [List.drop_append_of_le_length (getN_size B), h]
theorem byt_more {most : Int} {s : Option (List Nat)} {R : List Nat} (h : (bytR most s).2 = some R) : ∃ B, s = some B ∧ ∀ q, bytR most (some (B ++ q)) = ((bytR most s).1, some (R ++ q)) := by
  unfold bytR at h
  split at h
  · simp at h
  · rename_i hc
    cases hn : (numR (max most 0).toNat s).2 with
    | none => rw [hn] at h; simp at h
    | some C =>
      obtain ⟨B, rfl, hq⟩ := num_more hn
      refine ⟨B, rfl, fun q => ?_⟩
      rw [hn] at h hc
      simp only [Option.map_some, Option.some.injEq, Option.getD_some] at h hc
      unfold bytR
      rw [hq q, hn]
      simp only [Option.getD_some, Option.map_some]
      rw [if_neg (by rw [List.length_append]; omega), if_neg hc, List.take_append_of_le_length (by omega), List.drop_append_of_le_length (by omega), h]

theorem rd_box {W w0 : World} {bs : List Nat} {a : Option Addr} {cap : Nat} {t : TypeId} (hs : SlAt bV 256 W a cap bs) (hb : Below W.heap.size W w0) :
    RdAt (w0.alloc (.cells #[.slice a bs.length cap, .bool false] t)) w0.heap.size (fun k => k < W.heap.size) (some bs) := by
  refine ⟨a, cap, by simp, by simp, fun i => by simp, by simp, (hs.below hb).below (below_alloc (Below.refl _ _) _), fun ad e h0 => ?_, fun h => by have := hb.size; omega⟩
  have h0 : bs ≠ [] := h0
  obtain ⟨b, off, e2, hl, _⟩ := hs.cell 0 (List.length_pos_iff.2 h0)
  rw [e] at e2
  cases e2
  exact hl

end Go.Proofs.Ytbmpeadoicjpnaa

/-
  A writer's Done gives what the call itself has made.
-/
namespace Go.Proofs.Ytbmpeadoicjpnaa
open Go.RowKit

def OwnedPost (W : World) (ys : List Nat) (e : Ending) (w' : World) : Prop :=
  ∃ a cap, e = .returned (.slice a ys.length cap) ∧ w'.ownsRow W.heap.size 5 1 (.slice a ys.length cap) ys.length (ys.map bV) ∧ Below W.heap.size W w'
theorem own_owned {W w' : World} {v : Value} {ys : List Nat} (h : w'.ownsRow W.heap.size 5 1 v ys.length (ys.map bV)) (hb : Below W.heap.size W w') : OwnedPost W ys (.returned v) w' := by
  obtain ⟨a, cap, rfl⟩ := own_form h
  exact ⟨a, cap, rfl, h, hb⟩

set_option maxRecDepth 20000 in
set_option maxHeartbeats 2000000 in
theorem clone_own (bs : List Nat) (ao : Option Addr) (cap : Nat) (W : World) (hs : SlAt bV 256 W ao cap bs) (hb : bs.length ≤ 2000000) :
    Calls Try.prog 65 #[.slice ao bs.length cap] W (OwnedPost W bs) := by
  obtain ⟨i0, hi0, hz0, hz1, hz2⟩ := info_parts Try.infoB
  cases ao with
  | none =>
    have hc := hs.nil rfl
    have hf := hs.fit
    obtain rfl : bs = [] := List.length_eq_zero_iff.1 (by omega)
    subst hc
    have he : ∀ w : World, (binOp .eql 37 (.slice none 0 0) (.slice none 0 0)).run Try.prog w = .ok (.bool true) w := fun _ => rfl
    go_enter Try.func65, Try.ntmps65
    go_wp2_with fail
    go_ret
    exact ⟨none, 0, rfl, World.ownsRow_nil .., Below.refl _ _⟩
  | some ad =>
    have S := Lib.hid hs
    clear hs
    have he : ∀ w : World, (binOp .eql 37 (.slice (some ad) bs.length cap) (.slice none 0 0)).run Try.prog w = .ok (.bool false) w := fun _ => rfl
    have O := Lib.hid (World.ownsRow_lit (base := W.heap.size) (e := 5) (size := 1) W #[] 0 (Nat.le_refl _) (by unfold maxLen; omega) rfl)
    go_enter Try.func65, Try.ntmps65
    go_wp2_with (at_builtin; refine wpList_append_at rfl (.tmp 5) (.tmp 6) 37 rfl W.heap.size 5 i0 (.int .u8 0) 1 1 Try.underlying37 hi0 hz0 hz1 hz2 rfl (by decide) _ _ _ rfl O.out _ _ _ (bs.map bV) rfl (by simp) S.out.empty (S.out.below ((Below.refl _ _).alloc (Nat.le_refl _) _)).news (ones_b _) (by unfold maxLen; omega) (by omega) (by simp) ?_
                 intro v2 w2 hown2 hgr2 hat2
                 have hb2 : Below W.heap.size W w2 := ((Below.refl _ _).alloc (Nat.le_refl _) _).grown hgr2 (by simp) (fun k h => (O.out.lt k h).1)
                 try rw [Nat.zero_add, List.nil_append] at hown2
                 have R := Lib.hid (own_owned hown2 hb2)
                 clear hown2 hgr2 hb2 hat2)
    go_ret
    exact R.out

set_option maxHeartbeats 2000000 in
theorem wdone_own (W : World) (N p : Nat) (F : Nat → Prop) (bs : List Nat) (hA : WrAt W N p F bs) (hl : bs.length ≤ 2000000) :
    Calls Try.prog 47 #[.pointer (some ⟨p, 0, none⟩)] W (OwnedPost W bs) := by
  obtain ⟨v, hV⟩ := hA
  have c0 := hV.cell
  obtain ⟨a, cap, rfl, hs⟩ := hV.slice
  have HS := Lib.hid hs
  clear hV hs
  go_enter Try.func47, Try.ntmps47
  go_wp2_with (go_at_call 65; refine (clone_own bs a cap W HS.out hl).mono ?_; rintro e w' ⟨a2, cap2, rfl, h2⟩; have R := Lib.hid h2; clear h2)
  go_ret
  exact ⟨a2, cap2, rfl, R.out⟩
theorem on_downed {W w : World} {N p : Nat} {bs : List Nat} (h : WrOn W N p bs w) (hl : bs.length ≤ 2000000) :
    Calls Try.prog 47 #[.pointer (some ⟨p, 0, none⟩)] w fun e w' => ∃ a cap, e = .returned (.slice a bs.length cap) ∧ w'.ownsRow w.heap.size 5 1 (.slice a bs.length cap) bs.length (bs.map bV) ∧ Below w.heap.size w w' := by
  obtain ⟨⟨F, hA⟩, hB⟩ := h
  exact wdone_own w N p F bs hA hl

end Go.Proofs.Ytbmpeadoicjpnaa
