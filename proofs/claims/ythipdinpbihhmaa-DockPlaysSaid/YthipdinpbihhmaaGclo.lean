/-
  A body cloned; items copied.
-/
import Derived.Test.YthipdinpbihhmaaGmem
import Derived.Deep.RegionLaw
namespace Go.Proofs.Ythipdinpbihhmaa
open Go.RowKit

theorem info_g {i? : Option TypeInfo} {z : Value} {s b : Nat} (h : i?.map (fun i => (i.zero, i.size, i.bytes)) = some (some z, s, b)) : ∃ i, i? = some i ∧ i.zero = some z ∧ i.size = s ∧ i.bytes = b := by
  cases i? with
  | none => simp at h
  | some i => simp at h; exact ⟨i, rfl, h.1, h.2.1, h.2.2⟩
theorem Try.infoBs : (Try.prog.info? 31).map (fun i => (i.zero, i.size, i.bytes)) = some (some (.slice none 0 0), 1, 24) := by kernel_rfl

/-- A clone, in new memory. -/
def CloPost (W : World) (s : ByteArray) (E : Ending) (w' : World) : Prop :=
  ∃ b : Bd, b.s = s ∧ E = .returned (.slice b.a s.size b.c) ∧ BodyV (fun k => W.heap.size ≤ k) w' b ∧ Below W.heap.size W w'

set_option maxRecDepth 20000 in
set_option maxHeartbeats 2000000 in
theorem bclone_any (W : World) (A : Nat → Prop) (b : Bd) (h : BodyV A W b) (hl : b.s.size ≤ 140737488355328) :
    Calls Try.prog 18 #[.slice b.a b.s.size b.c] W (CloPost W b.s) := by
  obtain ⟨i0, hi0, hz0, hz1, hz2⟩ := info_g Try.infoB
  obtain ⟨ao, cap, s⟩ := b
  have hs : SlAt bV 256 W ao cap (bsN s) := h.1
  have hn := bsN_len s
  clear h
  simp only at hl
  cases ao with
  | none =>
    have hc := hs.nil rfl
    have hf := hs.fit
    have h0 : s.size = 0 := by omega
    have P := Lib.hid (show CloPost W s (.returned (.slice none 0 0)) W from
      ⟨⟨none, 0, s⟩, rfl, by rw [h0], ⟨by subst hc; exact hs, fun ad e => by cases e⟩, Below.refl _ _⟩)
    subst hc
    simp only [h0]
    clear hs hn
    have he : ∀ w : World, (binOp .eql 31 (.slice none 0 0) (.slice none 0 0)).run Try.prog w = .ok (.bool true) w := fun _ => rfl
    go_enter Try.func18, Try.ntmps18
    go_wp2_with fail
    go_ret
    exact P.out
  | some ad =>
    have S := Lib.hid hs
    have X := Lib.hid hn
    clear hs hn
    simp only
    have he : ∀ w : World, (binOp .eql 31 (.slice (some ad) s.size cap) (.slice none 0 0)).run Try.prog w = .ok (.bool false) w := fun _ => rfl
    have O := Lib.hid (World.ownsRow_lit (base := W.heap.size) (e := 5) (size := 1) W #[] 0 (Nat.le_refl _) (by unfold maxLen; omega) rfl)
    go_enter Try.func18, Try.ntmps18
    go_wp2_with (at_builtin; refine wpList_append_at rfl (.tmp 5) (.tmp 6) 31 rfl W.heap.size 5 i0 (.int .u8 0) 1 1 Try.underlying31 hi0 hz0 hz1 hz2 rfl (by decide) _ _ _ rfl O.out _ _ _ ((bsN s).map bV) rfl (by have := X.out; simp [this]) (fun e => by cases e) (S.out.below ((Below.refl _ _).alloc (Nat.le_refl _) _)).news (ones_b _) (by unfold maxLen; omega) (by omega) (by simp) ?_
                 intro v2 w2 hown2 hgr2 hat2
                 have hb2 : Below W.heap.size W w2 := ((Below.refl _ _).alloc (Nat.le_refl _) _).grown hgr2 (by simp) (fun k h => (O.out.lt k h).1)
                 try rw [Nat.zero_add, List.nil_append] at hown2
                 obtain ⟨a2, cap2, rfl⟩ := own_form hown2
                 obtain ⟨-, a3, cap3, e3, hs3⟩ := own_sl hown2 (bsN_lt s)
                 have R := Lib.hid (show CloPost W s (.returned (.slice a2 s.size cap2)) w2 from by
                   rw [X.out] at e3
                   cases e3
                   exact ⟨⟨a2, cap2, s⟩, rfl, rfl, ⟨hs3, fun ad e _ => (hown2.lt ad.block (by subst e; rfl)).1⟩, hb2⟩)
                 clear hown2 hgr2 hb2 hat2 hs3 e3)
    go_ret
    exact R.out


end Go.Proofs.Ythipdinpbihhmaa
