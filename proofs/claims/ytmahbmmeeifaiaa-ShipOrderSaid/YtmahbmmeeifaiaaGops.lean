/-
  Push and Ack.
-/
import Derived.Test.YtmahbmmeeifaiaaGsend
namespace Go.Proofs.Ytmahbmmeeifaiaa
open Go.RowKit

section
variable {W : World} {N p q : Nat} {F : Nat → Prop} {win que g last : Nat} {P : Pa} {vo vw : Value} {LO LW : List Bd}

/-- One more waits. -/
theorem ShR.join {w w1 w2 : World} {b : Bd} {o : Obj} {v2 : Value} (h : ShR w N p q F win que g last P vo vw LO LW) (hb : Below w.heap.size w w1) (hbd : BodyV (fun j => w.heap.size ≤ j) w1 b)
    (hown : w2.ownsRow N 30 1 v2 (LW.length + 1) (LW.map bdV ++ [bdV b])) (hgr : (w1.alloc o).grownBy w2 vw.ownBlock) (hat : ∀ j, v2.ownBlock = some j → vw.ownBlock = some j ∨ (w1.alloc o).heap.size ≤ j) :
    ShR (w2.setCell ⟨p, 3, none⟩ v2) N p q (fun k => F k ∨ (w.heap.size ≤ k ∧ k < (w2.setCell ⟨p, 3, none⟩ v2).heap.size)) win que g last P vo v2 LO (LW ++ [b]) ∧ Keep F w (w2.setCell ⟨p, 3, none⟩ v2) := by
  have hal : (w1.alloc o).heap.size = w1.heap.size + 1 := World.size_alloc ..
  have hsz := hb.size
  have hsz2 := hgr.size
  have hpl := (h.low p h.inp).2
  have hat2 : ∀ j, v2.ownBlock = some j → vw.ownBlock = some j ∨ w.heap.size ≤ j := fun j e => (hat j e).imp id (fun l => by omega)
  have kb : Keep (fun k => k = p ∨ vw.ownBlock = some k) w (w1.alloc o) := (Keep.ofBelow hb).alloc o
  have k1 : Keep (fun k => k = p ∨ vw.ownBlock = some k) w w2 := kb.grown hgr (fun j e => Or.inl (Or.inr e))
  have k0 : Keep (fun k => k = p ∨ vw.ownBlock = some k) w (w2.setCell ⟨p, 3, none⟩ v2) := k1.setCell (p := ⟨p, 3, none⟩) (Or.inl rfl) _
  have k2 : Keep (Turns p vo vw) w (w2.setCell ⟨p, 3, none⟩ v2) := k0.mono (fun j e => e.elim Or.inl (fun e => Or.inr (Or.inr e)))
  have hc1 : Cel 6 (w1.alloc o) p (shC win que vo vw last q) := (h.c.below hb).below ((Below.refl _ _).alloc (Nat.le_refl _) o)
  have hc : Cel 6 w2 p (shC win que vo vw last q) := hc1.keep (F := fun j => vw.ownBlock = some j) ⟨hgr.os, hgr.tape, hgr.output, hgr.size, fun j hj hn => hgr.block j hj (fun e => hn e.symm)⟩ h.wp.1
  have hp2 : v2.ownBlock ≠ some p := fun e => (hat2 p e).elim h.wp.1 (fun l => by omega)
  have hrow : ∀ j, vw.ownBlock = some j → j < w.heap.size := fun j e => (h.ow.lt j e).2
  have hset : (w2.setCell ⟨p, 3, none⟩ v2).heap.size = w2.heap.size := by simp [World.setCell]
  refine ⟨h.turn k2 ((hc.put 3 v2).conv (six rfl rfl rfl rfl rfl rfl)) ?_ ?_ (fun j e => Or.inl e) hat2 (fun j e e2 => ?_) (fun c hc' => ?_), k2.mono h.turns⟩
  · exact own_carry h.oo (fun j hj => k0.block j (h.oo.lt j hj).2 (fun e => by
      rcases e with e | e
      · exact h.op.1 (e ▸ hj)
      · exact h.ap j hj e))
  · rw [List.map_append, List.length_append]
    exact own_carry hown (fun j hj => heap_setCell_other w2 ⟨p, 3, none⟩ j v2 (fun (e : j = p) => hp2 (e ▸ hj)))
  · rcases hat2 j e2 with e3 | e3
    · exact h.ap j e e3
    · have := (h.oo.lt j e).2
      omega
  · rw [← List.append_assoc] at hc'
    rcases List.mem_append.1 hc' with hc' | hc'
    · exact Or.inl hc'
    · obtain rfl := List.mem_singleton.1 hc'
      refine Or.inr (((hbd.mono (A' := fun j => w.heap.size ≤ j ∧ j < w1.heap.size) (fun j hj hA => ⟨hA, hj⟩)).carry (w' := w2.setCell ⟨p, 3, none⟩ v2) (by omega) (fun j hj hA => ?_)).mono (fun j hj hA => ⟨hA.1, fun e => ?_, fun e => ?_⟩))
      · have := hA.1
        refine (heap_setCell_other w2 ⟨p, 3, none⟩ j v2 (fun (e : j = p) => by omega)).trans ((hgr.block j (by omega) (fun e => by have := hrow j e.symm; omega)).trans (Below.heap_alloc _ _ _ hj))
      · have := (h.oo.lt j e).2
        have := hA.1
        omega
      · have := hA.1
        have := hA.2
        rcases hat j e with e3 | e3
        · have := hrow j e3
          omega
        · omega

theorem join_at {w w1 w2 : World} {o : Obj} (h : ShR w N p q F win que g last P vo vw LO LW) (hb : Below w.heap.size w w1) (hgr : (w1.alloc o).grownBy w2 vw.ownBlock) : w2.cell? ⟨p, 3, none⟩ = some vw ∧ w2.frozen? ⟨p, 3, none⟩ = false := by
  have hc1 : Cel 6 (w1.alloc o) p (shC win que vo vw last q) := (h.c.below hb).below ((Below.refl _ _).alloc (Nat.le_refl _) o)
  have hc : Cel 6 w2 p (shC win que vo vw last q) := hc1.keep (F := fun j => vw.ownBlock = some j) ⟨hgr.os, hgr.tape, hgr.output, hgr.size, fun j hj hn => hgr.block j hj (fun e => hn e.symm)⟩ h.wp.1
  exact ⟨hc.c 3 (by decide), hc.fz 3⟩

/-- The first k that were out are no more. -/
theorem ShR.acked {w w2 : World} {k : Nat} {v2 : Value} (h : ShR w N p q F win que g last P vo vw LO LW) (hk : k ≤ LO.length) (hown : w2.ownsRow N 61 2 v2 (LO.length - k) ((itC g LO).drop (k * 2))) (hgr : w.grownBy w2 vo.ownBlock) (hat : v2.ownBlock = vo.ownBlock) :
    ShR (w2.setCell ⟨p, 2, none⟩ v2) N p q (fun j => F j ∨ (w.heap.size ≤ j ∧ j < (w2.setCell ⟨p, 2, none⟩ v2).heap.size)) win que (g + k) last P v2 vw (LO.drop k) LW ∧ Keep F w (w2.setCell ⟨p, 2, none⟩ v2) := by
  have k1 : Keep (fun k => k = p ∨ vo.ownBlock = some k) w w2 := (Keep.refl (fun k => k = p ∨ vo.ownBlock = some k) w).grown hgr (fun j e => Or.inl (Or.inr e))
  have k0 : Keep (fun k => k = p ∨ vo.ownBlock = some k) w (w2.setCell ⟨p, 2, none⟩ v2) := k1.setCell (p := ⟨p, 2, none⟩) (Or.inl rfl) _
  have k2 : Keep (Turns p vo vw) w (w2.setCell ⟨p, 2, none⟩ v2) := k0.mono (fun j e => e.elim Or.inl (fun e => Or.inr (Or.inl e)))
  have hc : Cel 6 w2 p (shC win que vo vw last q) := h.c.keep (F := fun j => vo.ownBlock = some j) ⟨hgr.os, hgr.tape, hgr.output, hgr.size, fun j hj hn => hgr.block j hj (fun e => hn e.symm)⟩ h.op.1
  refine ⟨h.turn k2 ((hc.put 2 v2).conv (six rfl rfl rfl rfl rfl rfl)) ?_ ?_ (fun j e => Or.inl (hat ▸ e)) (fun j e => Or.inl e) (fun j e e2 => h.ap j (hat ▸ e) e2) (fun b hb => Or.inl ?_), k2.mono h.turns⟩
  · rw [itC_drop _ _ _ hk] at hown
    rw [List.length_drop]
    exact own_carry hown (fun j hj => heap_setCell_other w2 ⟨p, 2, none⟩ j v2 (fun (e : j = p) => h.op.1 (by rw [← hat, ← e]; exact hj)))
  · exact own_carry h.ow (fun j hj => k0.block j (h.ow.lt j hj).2 (fun e => by
      rcases e with e | e
      · exact h.wp.1 (e ▸ hj)
      · exact h.ap j e hj))
  · rcases List.mem_append.1 hb with hb | hb
    · exact List.mem_append_left _ (List.mem_of_mem_drop hb)
    · exact List.mem_append_right _ hb
theorem ack_at {w w2 : World} (h : ShR w N p q F win que g last P vo vw LO LW) (hgr : w.grownBy w2 vo.ownBlock) : w2.cell? ⟨p, 2, none⟩ = some vo ∧ w2.frozen? ⟨p, 2, none⟩ = false := by
  have hc : Cel 6 w2 p (shC win que vo vw last q) := h.c.keep (F := fun j => vo.ownBlock = some j) ⟨hgr.os, hgr.tape, hgr.output, hgr.size, fun j hj hn => hgr.block j hj (fun e => hn e.symm)⟩ h.op.1
  exact ⟨hc.c 2 (by decide), hc.fz 2⟩
end

/-! The same by what it does, without its memory. -/

/-- A call's outcome: the ship as it then is, items in new memory; all else as it was. -/
def OpPost (W : World) (N p : Nat) (F : Nat → Prop) (S : Sh) (r : Value → Value) (g : Nat) (ss : List ByteArray) (E : Ending) (w' : World) : Prop :=
  ∃ F' a cap, E = .returned (r (.slice a ss.length cap)) ∧ ShAt w' N p F' S ∧ Keep F W w' ∧ (∀ j, F' j → F j ∨ W.heap.size ≤ j) ∧ ItR (fun j => W.heap.size ≤ j ∧ ¬ F' j) w' (.slice a ss.length cap) g ss

theorem Sh.parts {S : Sh} {LO LQ : List Bd} {m : Nat} (h : (LO ++ LQ).map Bd.s = S.all.drop S.g) (hm : LO.length + m = S.n) : (LO ++ LQ.take m).map Bd.s = S.out ∧ (LQ.drop m).map Bd.s = S.waits := by
  constructor
  · unfold Sh.out
    rw [← h, ← hm, ← List.map_take, List.take_length_add_append]
  · unfold Sh.waits
    rw [← List.drop_drop, ← h, ← hm, ← List.map_drop, List.drop_length_add_append]

theorem send_post {W : World} {N p q : Nat} {F : Nat → Prop} {S T : Sh} {last m : Nat} {P : Pa} {LO LQ : List Bd} {E : Ending} {w' : World} {r : Value → Value} {v : Value} (h : SendPost W N p q F T.win T.que T.g last P LO LQ m (.returned v) w') (hE : E = .returned (r v))
    (hall : (LO ++ LQ).map Bd.s = T.all.drop T.g) (hm : LO.length + m = T.n) (hml : m ≤ LQ.length) (hlast : last = T.g + LO.length) (hS : S.last = last) (hpa : T.pa = if LO.length + m = 0 then P else P.start) :
    OpPost W N p F T r S.last (S.went T) E w' := by
  obtain ⟨F1, v1, v2, a, cap, e, hR, hK, hF, hi⟩ := h
  cases e
  obtain ⟨e1, e2⟩ := Sh.parts hall hm
  have hl : T.last = last + m := by unfold Sh.last; omega
  have hw : (LQ.take m).map Bd.s = S.went T := by
    unfold Sh.went
    rw [hS, hl, Nat.add_sub_cancel_left, hlast, ← List.drop_drop, ← hall, List.map_append, List.drop_left' (by rw [List.length_map]), List.map_take]
  have hlen : (S.went T).length = m := by rw [← hw, List.length_map, List.length_take]; omega
  refine ⟨F1, a, cap, by rw [hlen]; exact hE, ⟨q, v1, v2, _, _, ?_, e1, e2⟩, hK, hF, ?_⟩
  · rw [hl, hpa]; exact hR
  · rw [hlen, hS, ← hw]; exact hi

section
variable {W : World} {N p n : Nat} {F : Nat → Prop} {S : Sh}

theorem Sh.room_eq (S : Sh) (r : Bool) : S.room r = decide ((S.waits.length : Int) < if r then (S.que : Int) else (S.que : Int) - 1) := rfl

set_option maxRecDepth 20000 in
set_option maxHeartbeats 8000000 in
theorem push_no {b : Bd} {r : Bool} (h : ShAt W N p F S) (ho : S.ok n) (hr : S.room r = false) :
    Calls Try.prog 10 #[.pointer (some ⟨p, 0, none⟩), .slice b.a b.s.size b.c, .bool r] W (OpPost W N p F S (fun v => .tuple #[v, .bool false]) S.last []) := by
  have H := Lib.hid h
  obtain ⟨q, vo, vw, LO, LW, hR, e1, e2⟩ := h
  have RM := Lib.hid (show Calls Try.prog 17 #[.pointer (some ⟨p, 0, none⟩), .bool r] W fun E w' => E = .returned (.bool false) ∧ ∃ n, w' = W.drewN n by
    have := sh_room hR r ho.que
    rw [show (LW.length : Int) = (S.waits.length : Int) by rw [← e2, List.length_map], ← Sh.room_eq, hr] at this
    exact this)
  clear hR e1 e2 hr
  go_enter Try.func10, Try.ntmps10
  go_wp2_with (go_at_call 17; refine RM.out.mono ?_; rintro e w' ⟨rfl, k, rfl⟩)
  go_ret2
  exact ⟨F, none, 0, rfl, H.out.drewN k, (Keep.refl _ _).drewN k, fun j hj => Or.inl hj, ⟨none, 0, [], rfl, rfl, RowV.none _ _ _, fun b hb => by cases hb⟩⟩

theorem OpPost.trans {w w' : World} {F1 : Nat → Prop} {T : Sh} {r : Value → Value} {g : Nat} {ss : List ByteArray} {E : Ending} (hk : Keep F W w) (hF : ∀ k, F1 k → F k ∨ W.heap.size ≤ k) (h : OpPost w N p F1 T r g ss E w') : OpPost W N p F T r g ss E w' := by
  obtain ⟨F2, a, cap, he, hA, hk2, hF2, hi⟩ := h
  refine ⟨F2, a, cap, he, hA, hk.trans hk2 (fun k hk f => (hF k f).elim id (fun l => by omega)), fun k f => ?_, hi.mono (fun j _ hj => ⟨Nat.le_trans hk.size hj.1, hj.2⟩)⟩
  rcases hF2 k f with g | g
  · exact hF k g
  · exact Or.inr (Nat.le_trans hk.size g)

theorem push_done {w w' : World} {q : Nat} {F2 : Nat → Prop} {LO LW : List Bd} {b b2 : Bd} {v : Value} (ho : S.ok n) (e1 : LO.map Bd.s = S.out) (e2 : LW.map Bd.s = S.waits) (hs : b2.s = b.s) (hk : Keep F W w) (hF : ∀ k, F2 k → F k ∨ W.heap.size ≤ k)
    (h : SendPost w N p q F2 S.win S.que S.g S.last S.pa LO (LW ++ [b2]) (min (S.win - LO.length) (LW ++ [b2]).length) (.returned v) w') : OpPost W N p F (S.push b.s) (fun v => .tuple #[v, .bool true]) S.last (S.went (S.push b.s)) (.returned (.tuple #[v, .bool true])) w' := by
  have hLO : LO.length = S.n := by rw [← S.out_len, ← e1, List.length_map]
  have hLW : LW.length = S.all.length - S.g - S.n := by rw [← S.waits_len, ← e2, List.length_map]
  have hn := S.n_le
  have hg := ho.g
  have hw := ho.win
  have hal : (S.push b.s).all.length = S.all.length + 1 := by show (S.all ++ [b.s]).length = _; simp
  have hSn : S.n = min S.win (S.all.length - S.g) := rfl
  have hTn : (S.push b.s).n = min S.win (S.all.length + 1 - S.g) := by
    show min S.win ((S.push b.s).all.length - S.g) = _
    rw [hal]
  have hlw : (LW ++ [b2]).length = LW.length + 1 := by simp
  refine OpPost.trans hk hF (send_post (T := S.push b.s) h rfl ?_ ?_ (Nat.min_le_right _ _) (by show S.last = S.g + _; unfold Sh.last; rw [hLO]) rfl ?_)
  · show _ = (S.all ++ [b.s]).drop S.g
    rw [List.drop_append_of_le_length hg, ← List.append_assoc, List.map_append, List.map_append, e1, e2, List.map_singleton, hs]
    congr 1
    unfold Sh.out Sh.waits
    rw [← List.drop_drop, List.take_append_drop]
  · rw [hlw, hTn]
    omega
  · rw [if_neg (by rw [hlw]; omega)]
    rfl

set_option maxRecDepth 20000 in
set_option maxHeartbeats 8000000 in
theorem push_ok {A : Nat → Prop} {b : Bd} {r : Bool} (h : ShAt W N p F S) (ho : S.ok n) (hn : n ≤ 500) (hr : S.room r = true) (hb : BodyV A W b) (hbs : b.s.size ≤ 1000) :
    Calls Try.prog 10 #[.pointer (some ⟨p, 0, none⟩), .slice b.a b.s.size b.c, .bool r] W (OpPost W N p F (S.push b.s) (fun v => .tuple #[v, .bool true]) S.last (S.went (S.push b.s))) := by
  obtain ⟨i0, hi0, hz0, hz1, hz2⟩ := info_g Try.infoBs
  obtain ⟨q, vo, vw, LO, LW, hR, e1, e2⟩ := h
  have RM := Lib.hid (show Calls Try.prog 17 #[.pointer (some ⟨p, 0, none⟩), .bool r] W fun E w' => E = .returned (.bool true) ∧ ∃ n, w' = W.drewN n by
    have := sh_room hR r ho.que
    rw [show (LW.length : Int) = (S.waits.length : Int) by rw [← e2, List.length_map], ← Sh.room_eq, hr] at this
    exact this)
  have hLO : LO.length = S.n := by rw [← S.out_len, ← e1, List.length_map]
  have hLW : LW.length = S.all.length - S.g - S.n := by rw [← S.waits_len, ← e2, List.length_map]
  have hLW2 : LW.length ≤ 500 := by have := ho.all; omega
  obtain ⟨aw, cw, rfl, hrw⟩ := own_row hR.ow
  have R := Lib.hid hR
  have B := Lib.hid hb
  have E1 := Lib.hid e1
  have E2 := Lib.hid e2
  have HO := Lib.hid ho
  have LLO := Lib.hid hLO
  have LLW := Lib.hid hLW
  clear hR e1 e2 hr hb ho hLO hLW hrw
  go_enter Try.func10, Try.ntmps10
  go_wp2_with fail
  refine RM.out.mono ?_
  rintro e w' ⟨rfl, k0, rfl⟩
  have R1 := Lib.hid (R.out.drewN k0)
  have B1 := Lib.hid (show BodyV A (W.drewN k0) b from B.out.below ⟨rfl, rfl, rfl, Nat.le_refl _, fun _ _ => rfl⟩)
  have K1 := Lib.hid ((Keep.refl F W).drewN k0)
  generalize W.drewN k0 = W1 at *
  clear R B
  go_upto_region 3 with fail
  go_cut [] from 12 to 22 (fun wx => ∃ F2 v2 b2, ShR wx N p q F2 S.win S.que S.g S.last S.pa vo v2 LO (LW ++ [b2]) ∧ b2.s = b.s ∧ Keep F W wx ∧ ∀ j, F2 j → F j ∨ W.heap.size ≤ j)
  case first =>
    have c3 := R1.out.cells.2.2.2.1
    have c3' : W1.drew.cell? ⟨p, 3, none⟩ = some (.slice aw LW.length cw) := c3
    go_region_law (first
      | (refine step_append_lies _ rfl (.tmp 16) (.tmp 19) 40 rfl N 30 i0 _ 1 24 Try.underlying40 hi0 hz0 hz1 hz2 rfl (by decide) _ _ _ (by simp [Act.eval]) (World.ownsRow.alloc O1.out _) ⟨w1.heap.size, 0, none⟩ 1 1 [.slice b2.a b.s.size b2.c] (by simp [Act.eval]) rfl (World.news_of_block (heap_alloc_new _ _)) (by simp [Value.oneCell']) (by omega) (by unfold maxLen; omega) (by omega) (by have := N1.out; simp; omega) _ rfl ?_
         intro g2 cap2 w2 hown2 hgr2 hat2 hlt2
         obtain ⟨r1, r2⟩ := R1.out.join (b := b2) C1.out BD.out (v2 := .slice (some ⟨g2, 0, none⟩) (LW.length + 1) cap2) (by unfold bdV; rw [HS1.out]; exact hown2) hgr2 (fun j e => by
           have e2 : g2 = j := by simpa [Value.ownBlock] using e
           subst e2
           exact hat2.imp id (fun e => Nat.le_of_eq e.symm))
         obtain ⟨u2, v2⟩ := join_at R1.out C1.out hgr2
         have R2 := Lib.hid r1
         have K2 := Lib.hid r2
         clear hown2 hgr2 hat2 hlt2 r1 r2)
      | (go_simp; go_at_call 25; refine (bclone_any W1.drew A b (B1.out.below (drew_below W1)) (by omega)).mono ?_
         rintro e w1 ⟨b2, hs1, rfl, hbd, hb1⟩
         have hb1' : Below W1.heap.size W1 w1 := ⟨hb1.os, hb1.tape, hb1.output, hb1.size, hb1.block⟩
         have HS1 := Lib.hid hs1
         have C1 := Lib.hid hb1'
         have x3 : w1.cell? ⟨p, 3, none⟩ = some (.slice aw LW.length cw) := cell_go c3 hb1'
         have x3a : (w1.alloc (.cells #[.slice b2.a b.s.size b2.c] 30)).cell? ⟨p, 3, none⟩ = some (.slice aw LW.length cw) := cell_go x3 ((Below.refl _ _).alloc (Nat.le_refl _) _)
         have O1 := Lib.hid (own_below R1.out.ow hb1')
         have N1 := Lib.hid (Nat.le_trans R1.out.nle hb1'.size)
         have BD := Lib.hid (show BodyV (fun j => W1.heap.size ≤ j) w1 b2 from hbd)
         clear hs1 hbd hb1 hb1'))
    all_goals go_wp2_with fail
    all_goals go_meet
    all_goals exact ⟨_, _, b2, R2.out, HS1.out, K1.out.trans K2.out (fun _ _ f => f), fun j hj => hj.imp id (fun l => by have := K1.out.size; omega)⟩
  case rest =>
    obtain ⟨F2, v2, b2, r1, hs2, hk2, hF2⟩ := hcut
    have R2 := Lib.hid r1
    have HS2 := Lib.hid hs2
    have K2 := Lib.hid hk2
    have HF2 := Lib.hid hF2
    have SN := Lib.hid (send_any r1 (by unfold Sh.last; rw [LLO.out]) HO.out.win.2 (by rw [LLO.out]; exact S.n_le.1) (by rw [List.length_append, List.length_singleton]; omega) (by have := HO.out.last_le; omega) (fun c hc => by
      rcases List.mem_append.1 hc with hc | hc
      · have := HO.out.small c.s (Sh.mem_waits (by rw [← E2.out]; exact List.mem_map_of_mem hc))
        omega
      · rw [List.mem_singleton.1 hc, hs2]
        omega))
    clear r1 hs2 hk2 hF2 R1
    go_wp2_with fail
    refine SN.out.mono ?_
    intro E w3 hp
    obtain ⟨F3, v3, v4, a3, c3, rfl, q3⟩ := hp
    have PP := Lib.hid (push_done (b := b) HO.out E1.out E2.out HS2.out K2.out HF2.out (show SendPost wc N p q F2 S.win S.que S.g S.last S.pa LO (LW ++ [b2]) _ (.returned (.slice a3 _ c3)) w3 from ⟨F3, v3, v4, a3, c3, rfl, q3⟩))
    clear q3
    generalize min (S.win - LO.length) (LW ++ [b2]).length = mm at *
    go_wp2_with fail
    go_ret2
    exact PP.out

theorem Sh.acks_spec {k : Nat} : S.acks k = true ↔ S.g < k ∧ k ≤ S.last := by unfold Sh.acks; simp

set_option maxRecDepth 20000 in
set_option maxHeartbeats 8000000 in
theorem ack_no {k : Nat} (h : ShAt W N p F S) (hr : S.acks k = false) :
    Calls Try.prog 11 #[.pointer (some ⟨p, 0, none⟩), .int .u64 (k : Int)] W (OpPost W N p F S (fun v => v) S.last []) := by
  have PP := Lib.hid (show OpPost W N p F S (fun v => v) S.last [] (.returned (.slice none 0 0)) W from ⟨F, none, 0, rfl, h, Keep.refl _ _, fun j hj => Or.inl hj, ⟨none, 0, [], rfl, rfl, RowV.none _ _ _, fun b hb => by cases hb⟩⟩)
  obtain ⟨q, vo, vw, LO, LW, hR, e1, e2⟩ := h
  have hLO : LO.length = S.n := by rw [← S.out_len, ← e1, List.length_map]
  obtain ⟨c0, c1, c2, c3, c4, c5⟩ := hR.cells
  obtain ⟨ao, co, rfl, hro⟩ := own_row hR.oo
  have hr2 : ¬ (S.g < k ∧ k ≤ S.last) := fun h => by rw [Sh.acks_spec.2 h] at hr; cases hr
  by_cases h0 : LO.length = 0
  · rw [h0] at c2
    clear hR e1 e2 hLO hro hr hr2 h0
    go_enter Try.func11, Try.ntmps11
    go_wp2_with fail
    go_ret
    exact PP.out
  · obtain ⟨x0, -⟩ := itC_at 0 S.g LO (by omega)
    obtain ⟨bk, off, rfl, hbW, -, k0⟩ := hro.cell _ _ x0
    obtain ⟨g1, hg1⟩ : ∃ g1, S.g + 0 + 1 = g1 := ⟨_, rfl⟩
    rw [hg1] at k0
    obtain ⟨nO, hnO⟩ : ∃ nO, LO.length = nO := ⟨_, rfl⟩
    obtain ⟨la, hla⟩ : ∃ la, S.last = la := ⟨_, rfl⟩
    rw [hnO] at c2
    rw [hla] at c4
    have y0 : W.cell? ⟨bk, off, none⟩ = some (.int .u64 (g1 : Int)) := by simpa using k0
    have d0 : ((nO : Int) == 0) = false := by simp; omega
    have d0' : (nO == 0) = false := by simp; omega
    have d0n : (0 : Int) < (nO : Int) := by omega
    by_cases h1 : k < g1
    · have d1 : decide ((k : Int) < (g1 : Int)) = true := decide_eq_true (by omega)
      have d1' : decide (k < g1) = true := decide_eq_true (by omega)
      clear hR e1 e2 hLO hro hr hr2 h0 x0 k0 hg1 hnO hla h1
      go_enter Try.func11, Try.ntmps11
      go_wp2_with fail
      go_ret
      exact PP.out
    · have d1 : decide ((k : Int) < (g1 : Int)) = false := decide_eq_false (by omega)
      have d1' : decide (k < g1) = false := decide_eq_false (by omega)
      have d2 : decide ((k : Int) > (la : Int)) = true := decide_eq_true (by omega)
      have d2' : decide (la < k) = true := decide_eq_true (by omega)
      clear hR e1 e2 hLO hro hr hr2 h0 x0 k0 hg1 hnO hla h1
      go_enter Try.func11, Try.ntmps11
      go_wp2_with fail
      go_ret
      exact PP.out

theorem ack_done {w w' : World} {q k : Nat} {F2 : Nat → Prop} {LO LW : List Bd} {v : Value} (ho : S.ok n) (hr : S.acks k = true) (e1 : LO.map Bd.s = S.out) (e2 : LW.map Bd.s = S.waits) (hk : Keep F W w) (hF : ∀ k, F2 k → F k ∨ W.heap.size ≤ k)
    (h : SendPost w N p q F2 S.win S.que k S.last S.pa.stop (LO.drop (k - S.g)) LW (min (S.win - (LO.drop (k - S.g)).length) LW.length) (.returned v) w') : OpPost W N p F (S.ack k) (fun v => v) S.last (S.went (S.ack k)) (.returned v) w' := by
  obtain ⟨hg1, hg2⟩ := Sh.acks_spec.1 hr
  have hLO : LO.length = S.n := by rw [← S.out_len, ← e1, List.length_map]
  have hLW : LW.length = S.all.length - S.g - S.n := by rw [← S.waits_len, ← e2, List.length_map]
  have hn := S.n_le
  have hg := ho.g
  have hw := ho.win
  have hla : S.last = S.g + S.n := rfl
  have hSn : S.n = min S.win (S.all.length - S.g) := rfl
  have hTn : (S.ack k).n = min S.win (S.all.length - k) := rfl
  have hld : (LO.drop (k - S.g)).length = S.n - (k - S.g) := by rw [List.length_drop, hLO]
  refine OpPost.trans hk hF (send_post (T := S.ack k) h rfl ?_ ?_ (Nat.min_le_right _ _) (by show S.last = k + _; rw [hld]; omega) rfl ?_)
  · show _ = S.all.drop k
    rw [List.map_append, List.map_drop, e1, e2]
    unfold Sh.out Sh.waits
    rw [List.drop_take, List.drop_drop, show S.g + (k - S.g) = k by omega]
    have := List.take_append_drop (S.n - (k - S.g)) (S.all.drop k)
    rw [List.drop_drop] at this
    rw [show S.g + S.n = k + (S.n - (k - S.g)) by omega]
    exact this
  · rw [hld, hTn, hLW]
    omega
  · show (if S.all.length ≤ k then S.pa.stop else S.pa.stop.start) = _
    rw [hld, hLW]
    by_cases hc : S.all.length ≤ k
    · rw [if_pos hc, if_pos (by omega)]
    · rw [if_neg hc, if_neg (by omega)]

set_option maxRecDepth 20000 in
set_option maxHeartbeats 8000000 in
theorem ack_ok {k : Nat} (h : ShAt W N p F S) (ho : S.ok n) (hn : n ≤ 500) (hr : S.acks k = true) :
    Calls Try.prog 11 #[.pointer (some ⟨p, 0, none⟩), .int .u64 (k : Int)] W (OpPost W N p F (S.ack k) (fun v => v) S.last (S.went (S.ack k))) := by
  obtain ⟨q, vo, vw, LO, LW, hR, e1, e2⟩ := h
  have hLO : LO.length = S.n := by rw [← S.out_len, ← e1, List.length_map]
  have hLW : LW.length = S.all.length - S.g - S.n := by rw [← S.waits_len, ← e2, List.length_map]
  obtain ⟨hg1, hg2⟩ := Sh.acks_spec.1 hr
  have hla0 : S.last = S.g + S.n := rfl
  have hln := ho.last_le
  have hoa := ho.all
  obtain ⟨c0, c1, c2, c3, c4, c5⟩ := hR.cells
  have f2 := hR.c.fz 2
  obtain ⟨ao, co, rfl, hro⟩ := own_row hR.oo
  obtain ⟨x0, -⟩ := itC_at 0 S.g LO (by omega)
  obtain ⟨bk, off, rfl, hbW, -, k0⟩ := hro.cell _ _ x0
  obtain ⟨g1, hg1'⟩ : ∃ g1, S.g + 0 + 1 = g1 := ⟨_, rfl⟩
  rw [hg1'] at k0
  obtain ⟨nO, hnO⟩ : ∃ nO, LO.length = nO := ⟨_, rfl⟩
  obtain ⟨la, hla⟩ : ∃ la, S.last = la := ⟨_, rfl⟩
  obtain ⟨d, hd⟩ : ∃ d, k - g1 = d := ⟨_, rfl⟩
  obtain ⟨e, he⟩ : ∃ e, k - S.g = e := ⟨_, rfl⟩
  rw [hnO] at c2
  rw [hla] at c4
  have y0 : W.cell? ⟨bk, off, none⟩ = some (.int .u64 (g1 : Int)) := by simpa using k0
  have d0 : ((nO : Int) == 0) = false := by simp; omega
  have d0' : (nO == 0) = false := by simp; omega
  have d0n : (0 : Int) < (nO : Int) := by omega
  have d1 : decide ((k : Int) < (g1 : Int)) = false := decide_eq_false (by omega)
  have d1' : decide (k < g1) = false := decide_eq_false (by omega)
  have d2 : decide ((k : Int) > (la : Int)) = false := decide_eq_false (by omega)
  have d2' : decide (la < k) = false := decide_eq_false (by omega)
  have w1 : IntKind.u64.wrap ((k : Int) - (g1 : Int)) = (d : Int) := by rw [wrap_q (by omega)]; omega
  have w2 : IntKind.i64.wrap (d : Int) = (d : Int) := wrap_i (by omega)
  have w3 : IntKind.i64.wrap ((d : Int) + 1) = (e : Int) := by rw [wrap_i (by omega)]; omega
  have DL := Lib.hid (del_items W N _ nO e (itC S.g LO) (by omega) (by omega) (itC_one _ _) (hnO ▸ hR.oo))
  have R := Lib.hid hR
  have HD := Lib.hid (fun (wx : World) (F2 : Nat → Prop) (hk : Keep F W wx) (hF : ∀ k, F2 k → F k ∨ W.heap.size ≤ k) (v : Value) (w' : World) (h : SendPost wx N p q F2 S.win S.que k S.last S.pa.stop (LO.drop (k - S.g)) LW (min (S.win - (LO.drop (k - S.g)).length) LW.length) (.returned v) w') => ack_done ho hr e1 e2 hk hF h)
  have SZ := Lib.hid (show ∀ b ∈ LW, b.s.size ≤ 1000000 from fun c hc => by
    have := ho.small c.s (Sh.mem_waits (by rw [← e2]; exact List.mem_map_of_mem hc))
    omega)
  have hwin := ho.win
  have hnw := S.n_le
  have X1 := Lib.hid hnO
  have X2 := Lib.hid hla
  have X3 := Lib.hid he
  have X4 := Lib.hid hla0
  have X5 := Lib.hid hLO
  have X6 := Lib.hid hLW
  clear hR hro x0 k0 hg1' hnO hla hd he hla0 e1 e2 hLO hLW hr
  go_enter Try.func11, Try.ntmps11
  go_wp2_with (first
    | (go_at_call 27; refine DL.out.mono ?_
       rintro E w4 ⟨a3, c3, rfl, hown, hgr, hat⟩
       have hgr2 : W.grownBy w4 (Value.slice (some ⟨bk, off, none⟩) LO.length co).ownBlock := by rw [X1.out]; exact hgr
       obtain ⟨u2, v2⟩ := ack_at R.out hgr2
       rw [X1.out] at u2
       obtain ⟨r1, r2⟩ := R.out.acked (k := e) (v2 := .slice a3 (nO - e) c3) (by rw [X1.out]; have := X3.out; have := X4.out; have := X5.out; have := X1.out; omega) (by rw [X1.out]; exact hown) hgr2 (by rw [X1.out]; exact hat)
       have R3 := Lib.hid r1
       have K3 := Lib.hid r2
       have t5 := r1.cells.2.2.2.2.2
       clear hown hgr hat r1 r2 hgr2))
  refine (pa_stop R3.out.pa).mono ?_
  intro E w5 hp
  obtain ⟨rfl, h1, hk⟩ := R3.out.alarm hp
  rw [show S.g + e = k by have := X3.out; omega, ← X3.out] at h1
  obtain ⟨F2, h1, hf5⟩ : ∃ F2, ShR w5 N p q F2 S.win S.que k S.last S.pa.stop (.slice a3 (nO - (k - S.g)) c3) vw (LO.drop (k - S.g)) LW ∧ ∀ j, F2 j → F j ∨ W.heap.size ≤ j := ⟨_, h1, fun j hj => hj.imp id (fun l => l.1)⟩
  have K5 := Lib.hid (K3.out.trans hk (fun i hi hf => hf.elim id (fun l => by omega)))
  have F5 := Lib.hid hf5
  have SN := Lib.hid (send_any h1 (by have := X4.out; have := X5.out; have := X3.out; rw [List.length_drop]; omega) hwin.2 (by have := X5.out; rw [List.length_drop]; omega) (by have := X6.out; omega) (by omega) SZ.out)
  clear hp h1 hk hf5 R3 K3
  go_wp2_with fail
  refine SN.out.mono ?_
  intro E w3 hp
  obtain ⟨F3, v3, v4, a4, c4, rfl, q3⟩ := hp
  have PP := Lib.hid (HD.out w5 _ K5.out F5.out _ w3 (show SendPost w5 N p q _ S.win S.que k S.last S.pa.stop (LO.drop (k - S.g)) LW _ (.returned (.slice a4 _ c4)) w3 from ⟨F3, v3, v4, a4, c4, rfl, q3⟩))
  clear q3
  generalize min (S.win - (LO.drop (k - S.g)).length) LW.length = mm at *
  go_wp2_with fail
  go_ret
  exact PP.out
end

end Go.Proofs.Ytmahbmmeeifaiaa
