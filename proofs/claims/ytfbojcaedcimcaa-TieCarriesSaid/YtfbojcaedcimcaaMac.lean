/-
  Texts of this claim, put together.
-/
import Derived.Test.YtfbojcaedcimcaaGmemm
import Derived.Deep.RegionLaw

/-
  A body cloned; items copied.
-/
namespace Go.Proofs.Ytfbojcaedcimcaa
open Go.RowKit

theorem info_g {i? : Option TypeInfo} {z : Value} {s b : Nat} (h : i?.map (fun i => (i.zero, i.size, i.bytes)) = some (some z, s, b)) : ∃ i, i? = some i ∧ i.zero = some z ∧ i.size = s ∧ i.bytes = b := by
  cases i? with
  | none => simp at h
  | some i => simp at h; exact ⟨i, rfl, h.1, h.2.1, h.2.2⟩
theorem Try.infoIt : (Try.prog.info? 80).map (fun i => (i.zero, i.size, i.bytes)) = some (some (.agg #[.int .u64 0, .slice none 0 0]), 2, 32) := by kernel_rfl
theorem Try.infoBs : (Try.prog.info? 30).map (fun i => (i.zero, i.size, i.bytes)) = some (some (.slice none 0 0), 1, 24) := by kernel_rfl

/-- A clone, in new memory. -/
def CloPost (W : World) (s : ByteArray) (E : Ending) (w' : World) : Prop :=
  ∃ b : Bd, b.s = s ∧ E = .returned (.slice b.a s.size b.c) ∧ BodyV (fun k => W.heap.size ≤ k) w' b ∧ Below W.heap.size W w'

set_option maxRecDepth 20000 in
set_option maxHeartbeats 2000000 in
theorem bclone_any (W : World) (A : Nat → Prop) (b : Bd) (h : BodyV A W b) (hl : b.s.size ≤ 140737488355328) :
    Calls Try.prog 41 #[.slice b.a b.s.size b.c] W (CloPost W b.s) := by
  obtain ⟨i0, hi0, hz0, hz1, hz2⟩ := info_g Try.infoB
  obtain ⟨ao, cap, s⟩ := b
  have hs : SlAt bV 256 W ao cap (bsN s) := h.1
  have hn := bsN_len s
  clear h
  simp only at hl
  cases ao with
  | none =>
    have hc := hs.nil rfl
    have hf := hs.fit
    have h0 : s.size = 0 := by omega
    have P := Lib.hid (show CloPost W s (.returned (.slice none 0 0)) W from
      ⟨⟨none, 0, s⟩, rfl, by rw [h0], ⟨by subst hc; exact hs, fun ad e => by cases e⟩, Below.refl _ _⟩)
    subst hc
    simp only [h0]
    clear hs hn
    have he : ∀ w : World, (binOp .eql 30 (.slice none 0 0) (.slice none 0 0)).run Try.prog w = .ok (.bool true) w := fun _ => rfl
    go_enter Try.func41, Try.ntmps41
    go_wp2_with fail
    go_ret
    exact P.out
  | some ad =>
    have S := Lib.hid hs
    have X := Lib.hid hn
    clear hs hn
    simp only
    have he : ∀ w : World, (binOp .eql 30 (.slice (some ad) s.size cap) (.slice none 0 0)).run Try.prog w = .ok (.bool false) w := fun _ => rfl
    have O := Lib.hid (World.ownsRow_lit (base := W.heap.size) (e := 5) (size := 1) W #[] 0 (Nat.le_refl _) (by unfold maxLen; omega) rfl)
    go_enter Try.func41, Try.ntmps41
    go_wp2_with (at_builtin; refine wpList_append_at rfl (.tmp 5) (.tmp 6) 30 rfl W.heap.size 5 i0 (.int .u8 0) 1 1 Try.underlying30 hi0 hz0 hz1 hz2 rfl (by decide) _ _ _ rfl O.out _ _ _ ((bsN s).map bV) rfl (by have := X.out; simp [this]) (fun e => by cases e) (S.out.below ((Below.refl _ _).alloc (Nat.le_refl _) _)).news (ones_b _) (by unfold maxLen; omega) (by omega) (by simp) ?_
                 intro v2 w2 hown2 hgr2 hat2
                 have hb2 : Below W.heap.size W w2 := ((Below.refl _ _).alloc (Nat.le_refl _) _).grown hgr2 (by simp) (fun k h => (O.out.lt k h).1)
                 try rw [Nat.zero_add, List.nil_append] at hown2
                 obtain ⟨a2, cap2, rfl⟩ := own_form hown2
                 obtain ⟨-, a3, cap3, e3, hs3⟩ := own_sl hown2 (bsN_lt s)
                 have R := Lib.hid (show CloPost W s (.returned (.slice a2 s.size cap2)) w2 from by
                   rw [X.out] at e3
                   cases e3
                   exact ⟨⟨a2, cap2, s⟩, rfl, rfl, ⟨hs3, fun ad e _ => (hown2.lt ad.block (by subst e; rfl)).1⟩, hb2⟩)
                 clear hown2 hgr2 hb2 hat2 hs3 e3)
    go_ret
    exact R.out

/-- Copies, in new memory; all that was there as it was. -/
def CopPost (W : World) (g : Nat) (ss : List ByteArray) (E : Ending) (w' : World) : Prop :=
  ∃ a cap, E = .returned (.slice a ss.length cap) ∧ ItR (fun k => W.heap.size ≤ k) w' (.slice a ss.length cap) g ss ∧ Below W.heap.size W w'

def CopRel (W : World) (g : Nat) (ss : List ByteArray) (c i : Value) (wr : World) : Prop :=
  ∃ (k : Nat) (a : Option Addr) (cap : Nat) (M : List Bd), k ≤ ss.length ∧ i = .int .i64 ((k : Nat) : Int) ∧ c = .slice a k cap ∧ M.map Bd.s = ss.take k ∧ wr.ownsRow W.heap.size 80 2 c k (itC g M) ∧
    (∀ b ∈ M, BodyV (fun j => W.heap.size ≤ j ∧ (Value.slice a k cap).ownBlock ≠ some j) wr b) ∧ Below W.heap.size W wr

theorem cop_done {W w' : World} {g : Nat} {ss : List ByteArray} {a : Option Addr} {cap : Nat} {M : List Bd} (e : M.map Bd.s = ss) (hO : w'.ownsRow W.heap.size 80 2 (.slice a ss.length cap) ss.length (itC g M))
    (hB : ∀ b ∈ M, BodyV (fun j => W.heap.size ≤ j ∧ (Value.slice a ss.length cap).ownBlock ≠ some j) w' b) (hb : Below W.heap.size W w') : CopPost W g ss (.returned (.slice a ss.length cap)) w' := by
  have hl : M.length = ss.length := by rw [← e, List.length_map]
  obtain ⟨a2, c2, e2, hr⟩ := own_row hO
  cases e2
  refine ⟨a, cap, rfl, ⟨a, cap, M, by rw [hl], e, by rw [hl]; exact hr.mono (fun k _ hk => (hO.lt k hk).1), fun b hb' => (hB b hb').mono (fun k _ hk => hk.1)⟩, hb⟩

theorem cop_step {W wr w1 w2 : World} {g k : Nat} {ss : List ByteArray} {a : Option Addr} {cap g2 cap2 : Nat} {M : List Bd} {b : Bd} {o : Obj} (hk : k < ss.length) (e : M.map Bd.s = ss.take k) (hl : M.length = k)
    (hB : ∀ b ∈ M, BodyV (fun j => W.heap.size ≤ j ∧ (Value.slice a k cap).ownBlock ≠ some j) wr b) (hb : Below W.heap.size W wr) (hO : wr.ownsRow W.heap.size 80 2 (.slice a k cap) k (itC g M))
    (hbl : Below wr.heap.size wr w1) (hs : b.s = ss[k]) (hbd : BodyV (fun j => wr.heap.size ≤ j) w1 b)
    (hown : w2.ownsRow W.heap.size 80 2 (.slice (some ⟨g2, 0, none⟩) (k + 1) cap2) (k + 1) (itC g M ++ [.int .u64 ((g + k + 1 : Nat) : Int), .slice b.a ss[k].size b.c]))
    (hgr : (w1.alloc o).grownBy w2 (Value.slice a k cap).ownBlock) (hat : (Value.slice a k cap).ownBlock = some g2 ∨ g2 = (w1.alloc o).heap.size) :
    CopRel W g ss (.slice (some ⟨g2, 0, none⟩) (k + 1) cap2) (.int .i64 ((k + 1 : Nat) : Int)) w2 := by
  have hsz := hbl.size
  have hW := hb.size
  have hrow : ∀ j, (Value.slice a k cap).ownBlock = some j → W.heap.size ≤ j ∧ j < wr.heap.size := hO.lt
  have hal : (w1.alloc o).heap.size = w1.heap.size + 1 := World.size_alloc ..
  have hsz2 := hgr.size
  have hB1 : Below wr.heap.size wr (w1.alloc o) := hbl.alloc hbl.size o
  have hcar : ∀ j, j < w1.heap.size → (Value.slice a k cap).ownBlock ≠ some j → w2.heap[j]? = w1.heap[j]? := fun j hj hn =>
    (hgr.block j (by omega) (fun e => hn e.symm)).trans (Below.heap_alloc _ _ _ hj)
  refine ⟨k + 1, some ⟨g2, 0, none⟩, cap2, M ++ [b], by omega, rfl, rfl, ?_, ?_, ?_, ?_⟩
  · rw [List.map_append, e, List.take_succ_eq_append_getElem hk, List.map_cons, List.map_nil, hs]
  · rw [itC_append, hl]
    show w2.ownsRow _ _ _ _ _ (itC g M ++ [.int .u64 ((g + k + 1 : Nat) : Int), bdV b])
    unfold bdV
    rw [hs]
    exact hown
  · intro c hc
    rcases List.mem_append.1 hc with hc | hc
    · refine (((hB c hc).mono (A' := fun j => W.heap.size ≤ j ∧ (Value.slice a k cap).ownBlock ≠ some j ∧ j < wr.heap.size) (fun j hj hA => ⟨hA.1, hA.2, hj⟩)).carry (w' := w2) (by omega) (fun j hj hA => ?_)).mono (fun j hj hA => ?_)
      · exact (hcar j (by omega) hA.2.1).trans (hbl.block j hj)
      · refine ⟨hA.1, fun e2 => ?_⟩
        have e3 : g2 = j := by simpa [Value.ownBlock] using e2
        rcases hat with h | h
        · exact hA.2.1 (by rw [h, e3])
        · have := hA.2.2
          omega
    · obtain rfl := List.mem_singleton.1 hc
      refine ((hbd.mono (A' := fun j => wr.heap.size ≤ j ∧ j < w1.heap.size) (fun j hj hA => ⟨hA, hj⟩)).carry (w' := w2) (by omega) (fun j hj hA => hcar j hj (fun e2 => by have := hrow j e2; omega))).mono (fun j hj hA => ?_)
      have := hA.1
      refine ⟨by omega, fun e2 => ?_⟩
      have e3 : g2 = j := by simpa [Value.ownBlock] using e2
      rcases hat with h | h
      · have := hrow g2 h
        omega
      · have := hA.2
        omega
  · refine (hb.trans (hB1.mono hW)).grown hgr (by omega) (fun j h => (hrow j h).1)

set_option maxRecDepth 20000 in
set_option maxHeartbeats 4000000 in
/-- copied: each item with a body of its own. -/
theorem copied_any (W : World) (A : Nat → Prop) (g : Nat) (L : List Bd) (ao : Option Addr) (cap : Nat) (hr : RowV A W ao cap L.length 2 (itC g L)) (hB : ∀ b ∈ L, BodyV A W b) (hl : L.length ≤ 1000) (hs : ∀ b ∈ L, b.s.size ≤ 1000000) :
    Calls Try.prog 44 #[.slice ao L.length cap] W (CopPost W g (L.map Bd.s)) := by
  obtain ⟨i0, hi0, hz0, hz1, hz2⟩ := info_g Try.infoIt
  have R := Lib.hid hr
  have B := Lib.hid hB
  have S := Lib.hid hs
  clear hr hB hs
  go_enter Try.func44, Try.ntmps44
  go_wp2_with fail
  go_loopw [3, 8] (fun c i wr => CopRel W g (L.map Bd.s) c i wr) (fun _ i _ => L.length - (intOf i).toNat)
  case atStart => exact ⟨0, none, 0, [], Nat.zero_le _, rfl, rfl, rfl, World.ownsRow_nil .., (fun b h => by cases h), Below.refl _ _⟩
  case round =>
    obtain ⟨k, a, c, M, hk, rfl, rfl, e, hO, hM, hb⟩ := hrel
    have hlm : M.length = k := by
      have := congrArg List.length e
      rw [List.length_map, List.length_take] at this
      omega
    by_cases hlt : k < L.length
    · obtain ⟨x0, x1⟩ := itC_at k g L hlt
      obtain ⟨bk, off, rfl, hbW, _, k0⟩ := R.out.cell _ _ x0
      obtain ⟨b2, off2, e2, _, _, k1⟩ := R.out.cell _ _ x1
      cases e2
      have y0 : wr.cell? ⟨bk, off + k * 2, none⟩ = some (.int .u64 ((g + k + 1 : Nat) : Int)) := (hb.cell (p := ⟨bk, off + k * 2, none⟩) hbW).trans k0
      have y1 : wr.cell? ⟨bk, off + k * 2 + 1, none⟩ = some (.slice L[k].a L[k].s.size L[k].c) := (hb.cell (p := ⟨bk, off + k * 2 + 1, none⟩) hbW).trans k1
      have HB := Lib.hid hb
      have BK := Lib.hid ((B.out L[k] (List.getElem_mem _)).below hb)
      have SK := Lib.hid (S.out L[k] (List.getElem_mem _))
      have E := Lib.hid e
      have O := Lib.hid hO
      have HM := Lib.hid hM
      have LM := Lib.hid hlm
      have kb : (k : Int) < (L.length : Int) := by omega
      have k0' : (0 : Int) ≤ (k : Int) := by omega
      clear hb e hO hM x0 x1 k0 k1 hlm
      obtain ⟨m, hm⟩ : ∃ m, g + k + 1 = m := ⟨_, rfl⟩
      rw [hm] at y0
      have MM := Lib.hid hm
      clear hm
      obtain ⟨wa, hwa⟩ : ∃ wa, wa = wr.alloc (.cells #[.int .u64 (m : Int), .slice L[k].a L[k].s.size L[k].c] 80) := ⟨_, rfl⟩
      have hba : Below wr.heap.size wr wa := by rw [hwa]; exact (Below.refl _ _).alloc (Nat.le_refl _) _
      have z0 : wa.cell? ⟨wr.heap.size, 0, none⟩ = some (.int .u64 (m : Int)) := by rw [hwa]; simp
      have z1 : wa.cell? ⟨wr.heap.size, 1, none⟩ = some (.slice L[k].a L[k].s.size L[k].c) := by rw [hwa]; simp
      have HA := Lib.hid hba
      have hlw : wr.heap.size < wa.heap.size := by rw [hwa]; simp
      go_wp2_with fail
      rw [← hwa]
      clear hwa hba y0 y1
      have q0 : wa.drew.cell? ⟨wr.heap.size, 0, none⟩ = some (.int .u64 (m : Int)) := z0
      have q1 : wa.drew.cell? ⟨wr.heap.size, 1, none⟩ = some (.slice L[k].a L[k].s.size L[k].c) := z1
      go_region_law (first
        | (refine step_append_lies _ rfl (.tmp 12) (.tmp 19) 56 rfl W.heap.size 80 i0 _ 2 32 Try.underlying56 hi0 hz0 hz1 hz2 rfl (by decide) _ _ _ (by simp [Act.eval]) (World.ownsRow.alloc O1.out _) ⟨w1.heap.size, 0, none⟩ 1 1 [.int .u64 (m : Int), .slice b.a L[k].s.size b.c] (by simp [Act.eval]) rfl (World.news_of_block (heap_alloc_new _ _)) (by simp [Value.oneCell']) (by omega) (by unfold maxLen; omega) (by omega) (by have := B1.out.size; simp; omega) _ rfl ?_
           intro g2 cap2 w2 hown2 hgr2 hat2 hlt2
           have R2 := Lib.hid (cop_step (ss := L.map Bd.s) (by simpa using hlt) E.out LM.out HM.out HB.out O.out C1.out (by simpa using HS1.out) BD.out (by rw [MM.out]; simpa using hown2) hgr2 (by simpa using hat2))
           clear hown2 hgr2 hat2 hlt2)
        | (go_simp; go_at_call 41; refine (bclone_any wa.drew A L[k] (BK.out.below (HA.out.drew)) (Nat.le_trans SK.out (by decide))).mono ?_
           rintro e w1 ⟨b, hs1, rfl, hbd, hb1⟩
           have hb1' : Below wa.heap.size wa w1 := ⟨hb1.os, hb1.tape, hb1.output, hb1.size, hb1.block⟩
           have HS1 := Lib.hid hs1
           have x0 : w1.cell? ⟨wr.heap.size, 0, none⟩ = some (.int .u64 (m : Int)) := (hb1'.cell (p := ⟨wr.heap.size, 0, none⟩) hlw).trans z0
           have hc1 : Below wr.heap.size wr w1 := HA.out.trans (hb1'.mono (Nat.le_of_lt hlw))
           have C1 := Lib.hid hc1
           have O1 := Lib.hid (own_below O.out hc1)
           have B1 := Lib.hid (HB.out.trans (hc1.mono HB.out.size))
           have BD := Lib.hid (hbd.mono (A' := fun j => wr.heap.size ≤ j) (fun j _ h => Nat.le_trans (Nat.le_of_lt hlw) h))
           clear hs1 hbd hb1 hb1' hc1))
      all_goals go_wp2_with fail
      all_goals go_roundw
      all_goals try (exact R2.out)
      all_goals (simp only [intOf]; omega)
    · obtain rfl : k = L.length := by simp at hk; omega
      have dk : decide ((L.length : Int) < (L.length : Int)) = false := decide_eq_false (by omega)
      have P := Lib.hid (cop_done (ss := L.map Bd.s) (a := a) (cap := c) (by rw [e, ← List.length_map (f := Bd.s), List.take_length]) (by rw [List.length_map]; exact hO) (by rw [List.length_map]; exact hM) hb)
      rw [List.length_map] at P
      clear e hO hM hb
      go_wp2_with fail
      go_ret
      exact P.out

end Go.Proofs.Ytfbojcaedcimcaa

/-
  Strings that come in; one of them as bytes of its own.
-/
namespace Go.Proofs.Ytfbojcaedcimcaa
open Go.RowKit

/-- Strings that came in, none too long. -/
def StrsB (W : World) (a : Option Addr) (cap : Nat) (l : List ByteArray) : Prop := SlV W a cap (l.map Value.string) ∧ ∀ s ∈ l, s.size ≤ 140737488355328

theorem body_new (w : World) (s : ByteArray) (hs : s.size ≤ 140737488355328) : BodyV (fun k => k = w.heap.size) (Lib.bytesWorld w 5 s) ⟨some ⟨w.heap.size, 0, none⟩, grownCap w s.size 0 5, s⟩ :=
  body_of_string w _ s (grownCap_le_maxLen _ _ _ _ (by unfold maxLen; omega))
theorem below_new (w : World) (s : ByteArray) : Below w.heap.size w (Lib.bytesWorld w 5 s) := Joins.below_bytesWorld w.heap.size w 5 s (Nat.le_refl _)

end Go.Proofs.Ytfbojcaedcimcaa
