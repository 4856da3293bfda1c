/-
  send: as many go out as the window has room for.
-/
import Derived.Test.YtmahbmmeeifaiaaGcal
import Derived.Test.YtmahbmmeeifaiaaGdel
import Derived.Deep.Cut
import Derived.Deep.CutRange
namespace Go.Proofs.Ytmahbmmeeifaiaa
open Go.RowKit

theorem wrap_q {z : Int} (h : 0 ≤ z ∧ z ≤ 18446744073709551615) : IntKind.u64.wrap z = z := by
  simp only [IntKind.wrap, IntKind.signed, IntKind.bits]
  simp
  omega

section
variable {W : World} {N p q : Nat} {F : Nat → Prop} {win que g last : Nat} {P : Pa} {vo vw : Value} {LO LW : List Bd}

theorem ShR.more_cel {w w1 w2 : World} {l2 : Nat} {o : Obj} (h : ShR w N p q F win que g last P vo vw LO LW) (hw1 : w1 = (w.setCell ⟨p, 4, none⟩ (.int .u64 (l2 : Int))).drew) (hgr : (w1.alloc o).grownBy w2 vo.ownBlock) :
    Cel 6 w2 p (updc (shC win que vo vw last q) 4 (.int .u64 (l2 : Int))) := by
  subst hw1
  exact Cel.keep (F := fun j => vo.ownBlock = some j) ((((h.c.put 4 (.int .u64 (l2 : Int))).drew).below ((Below.refl _ _).alloc (Nat.le_refl _) o))) ⟨hgr.os, hgr.tape, hgr.output, hgr.size, fun j hj hn => hgr.block j hj (fun e => hn e.symm)⟩ h.op.1

/-- One more goes out. -/
theorem ShR.more {w w1 w2 : World} {k : Nat} {v2 : Value} {o : Obj} (h : ShR w N p q F win que g last P vo vw LO LW) (hlast : last = g + LO.length) (hk : k < LW.length)
    (hw1 : w1 = (w.setCell ⟨p, 4, none⟩ (.int .u64 ((last + 1 : Nat) : Int))).drew)
    (hown : w2.ownsRow N 61 2 v2 (LO.length + 1) (itC g LO ++ [.int .u64 ((last + 1 : Nat) : Int), bdV LW[k]])) (hgr : (w1.alloc o).grownBy w2 vo.ownBlock) (hat : ∀ j, v2.ownBlock = some j → vo.ownBlock = some j ∨ (w1.alloc o).heap.size ≤ j) :
    ShR (w2.setCell ⟨p, 2, none⟩ v2) N p q (fun k => F k ∨ (w.heap.size ≤ k ∧ k < (w2.setCell ⟨p, 2, none⟩ v2).heap.size)) win que g (last + 1) P v2 vw (LO ++ [LW[k]]) LW ∧ Keep F w (w2.setCell ⟨p, 2, none⟩ v2) := by
  subst hw1
  have hal : (((w.setCell ⟨p, 4, none⟩ (.int .u64 ((last + 1 : Nat) : Int))).drew).alloc o).heap.size = w.heap.size + 1 := by simp [World.setCell]
  have hat2 : ∀ j, v2.ownBlock = some j → vo.ownBlock = some j ∨ w.heap.size ≤ j := fun j e => (hat j e).imp id (fun l => by omega)
  have k1 : Keep (fun k => k = p ∨ vo.ownBlock = some k) w w2 := (((Keep.refl (fun k => k = p ∨ vo.ownBlock = some k) w).setCell (p := ⟨p, 4, none⟩) (Or.inl rfl) _).drew.alloc o).grown hgr (fun j e => Or.inl (Or.inr e))
  have k0 : Keep (fun k => k = p ∨ vo.ownBlock = some k) w (w2.setCell ⟨p, 2, none⟩ v2) := k1.setCell (p := ⟨p, 2, none⟩) (Or.inl rfl) _
  have k2 : Keep (Turns p vo vw) w (w2.setCell ⟨p, 2, none⟩ v2) := k0.mono (fun j e => e.elim Or.inl (fun e => Or.inr (Or.inl e)))
  have hpl := (h.low p h.inp).2
  have hp2 : v2.ownBlock ≠ some p := fun e => (hat2 p e).elim h.op.1 (fun l => by omega)
  have hc : Cel 6 w2 p (updc (shC win que vo vw last q) 4 (.int .u64 ((last + 1 : Nat) : Int))) := h.more_cel rfl hgr
  refine ⟨h.turn k2 ((hc.put 2 v2).conv (six rfl rfl rfl rfl rfl rfl)) ?_ ?_ hat2 (fun j e => Or.inl e) (fun j e e2 => ?_) (fun b hb => Or.inl ?_), k2.mono h.turns⟩
  · rw [itC_append, List.length_append, ← hlast]
    refine own_carry ?_ (fun j hj => heap_setCell_other w2 ⟨p, 2, none⟩ j v2 (fun (e : j = p) => hp2 (e ▸ hj)))
    exact hown
  · exact own_carry h.ow (fun j hj => k0.block j (h.ow.lt j hj).2 (fun e => by
      rcases e with e | e
      · exact h.wp.1 (e ▸ hj)
      · exact h.ap j e hj))
  · rcases hat2 j e with e3 | e3
    · exact h.ap j e3 e2
    · have := (h.ow.lt j e2).2
      omega
  · rcases List.mem_append.1 hb with hb | hb
    · rcases List.mem_append.1 hb with hb | hb
      · exact List.mem_append_left _ hb
      · rw [List.mem_singleton.1 hb]
        exact List.mem_append_right _ (List.getElem_mem hk)
    · exact List.mem_append_right _ hb

/-- What has gone out is no longer waiting. -/
theorem ShR.cut {w w2 : World} {m : Nat} {v2 : Value} (h : ShR w N p q F win que g last P vo vw LO LW) (hown : w2.ownsRow N 30 1 v2 (LW.length - m) ((LW.drop m).map bdV)) (hgr : w.grownBy w2 vw.ownBlock) (hat : v2.ownBlock = vw.ownBlock) :
    ShR (w2.setCell ⟨p, 3, none⟩ v2) N p q (fun k => F k ∨ (w.heap.size ≤ k ∧ k < (w2.setCell ⟨p, 3, none⟩ v2).heap.size)) win que g last P vo v2 LO (LW.drop m) ∧ Keep F w (w2.setCell ⟨p, 3, none⟩ v2) := by
  have k1 : Keep (fun k => k = p ∨ vw.ownBlock = some k) w w2 := (Keep.refl (fun k => k = p ∨ vw.ownBlock = some k) w).grown hgr (fun j e => Or.inl (Or.inr e))
  have k0 : Keep (fun k => k = p ∨ vw.ownBlock = some k) w (w2.setCell ⟨p, 3, none⟩ v2) := k1.setCell (p := ⟨p, 3, none⟩) (Or.inl rfl) _
  have k2 : Keep (Turns p vo vw) w (w2.setCell ⟨p, 3, none⟩ v2) := k0.mono (fun j e => e.elim Or.inl (fun e => Or.inr (Or.inr e)))
  have hc : Cel 6 w2 p (shC win que vo vw last q) := h.c.keep (F := fun j => vw.ownBlock = some j) ⟨hgr.os, hgr.tape, hgr.output, hgr.size, fun j hj hn => hgr.block j hj (fun e => hn e.symm)⟩ h.wp.1
  refine ⟨h.turn k2 ((hc.put 3 v2).conv (six rfl rfl rfl rfl rfl rfl)) ?_ ?_ (fun j e => Or.inl e) (fun j e => Or.inl (hat ▸ e)) (fun j e e2 => h.ap j e (hat ▸ e2)) (fun b hb => Or.inl ?_), k2.mono h.turns⟩
  · exact own_carry h.oo (fun j hj => k0.block j (h.oo.lt j hj).2 (fun e => by
      rcases e with e | e
      · exact h.op.1 (e ▸ hj)
      · exact h.ap j hj e))
  · rw [List.length_drop]
    exact own_carry hown (fun j hj => heap_setCell_other w2 ⟨p, 3, none⟩ j v2 (fun (e : j = p) => h.wp.1 (by rw [← hat, ← e]; exact hj)))
  · rcases List.mem_append.1 hb with hb | hb
    · exact List.mem_append_left _ hb
    · exact List.mem_append_right _ (List.mem_of_mem_drop hb)

theorem cut_at {w w2 : World} (h : ShR w N p q F win que g last P vo vw LO LW) (hgr : w.grownBy w2 vw.ownBlock) : w2.cell? ⟨p, 3, none⟩ = some vw ∧ w2.frozen? ⟨p, 3, none⟩ = false ∧ w2.cell? ⟨p, 2, none⟩ = some vo := by
  have hc : Cel 6 w2 p (shC win que vo vw last q) := h.c.keep (F := fun j => vw.ownBlock = some j) ⟨hgr.os, hgr.tape, hgr.output, hgr.size, fun j hj hn => hgr.block j hj (fun e => hn e.symm)⟩ h.wp.1
  exact ⟨hc.c 3 (by decide), hc.fz 3, hc.c 2 (by decide)⟩

theorem send_copy {wc : World} {F2 : Nat → Prop} {k n2 cap : Nat} {v1 v2 : Value} {A : Nat → Prop} {ad : Option Addr} (hlast : last = g + LO.length) (h : ShR wc N p q F2 win que g (last + k) P v1 v2 (LO ++ LW.take k) (LW.drop k)) (hr : RowV A wc ad cap n2 2 (itC (g + LO.length) (LW.take k)))
    (hs : ∀ b ∈ LW.take k, b.s.size ≤ 1000000) (hn : n2 ≤ 1000) : Calls Try.prog 31 #[.slice ad n2 cap] wc (CopPost wc last ((LW.take k).map Bd.s)) := by
  have hl : n2 = (LW.take k).length := by
    have := hr.len
    rw [itC_len] at this
    omega
  subst hl
  rw [← hlast] at hr
  exact copied_any wc (fun _ => True) last (LW.take k) ad cap (hr.mono (fun _ _ _ => trivial)) (fun b hb => (h.bo b (List.mem_append_left _ (List.mem_append_right _ hb))).mono (fun _ _ _ => trivial)) hn hs

def SendRel (W : World) (N p q : Nat) (F : Nat → Prop) (win que g last : Nat) (P : Pa) (vw : Value) (LO LW : List Bd) (m : Nat) (i : Value) (wr : World) : Prop :=
  ∃ (k : Nat) (F1 : Nat → Prop) (v1 : Value), k ≤ m ∧ i = .int .i64 ((k : Nat) : Int) ∧ ShR wr N p q F1 win que g (last + k) P v1 vw (LO ++ LW.take k) LW ∧ Keep F W wr ∧ ∀ j, F1 j → F j ∨ W.heap.size ≤ j

/-- As many as there is room for are out; these, in new memory. -/
def SendPost (W : World) (N p q : Nat) (F : Nat → Prop) (win que g last : Nat) (P : Pa) (LO LW : List Bd) (m : Nat) (E : Ending) (w' : World) : Prop :=
  ∃ F1 v1 v2 a cap, E = .returned (.slice a m cap) ∧ ShR w' N p q F1 win que g (last + m) (if LO.length + m = 0 then P else P.start) v1 v2 (LO ++ LW.take m) (LW.drop m) ∧ Keep F W w' ∧ (∀ j, F1 j → F j ∨ W.heap.size ≤ j) ∧
    ItR (fun k => W.heap.size ≤ k ∧ ¬ F1 k) w' (.slice a m cap) last ((LW.take m).map Bd.s)

theorem send_step {wr w2 : World} {F1 : Nat → Prop} {m k l1 l2 : Nat} {v1 v2 : Value} {o : Obj} (h : ShR wr N p q F1 win que g l1 P v1 vw (LO ++ LW.take k) LW) (hl1 : last + k = l1) (hl2 : l1 + 1 = l2) (hlast : last = g + LO.length) (hk : k < LW.length) (hkm : k < m)
    (hK : Keep F W wr) (hF : ∀ j, F1 j → F j ∨ W.heap.size ≤ j)
    (hown : w2.ownsRow N 61 2 v2 ((LO ++ LW.take k).length + 1) (itC g (LO ++ LW.take k) ++ [.int .u64 (l2 : Int), .slice LW[k].a LW[k].s.size LW[k].c])) (hgr : (((wr.setCell ⟨p, 4, none⟩ (.int .u64 (l2 : Int))).drew).alloc o).grownBy w2 v1.ownBlock)
    (hat : ∀ j, v2.ownBlock = some j → v1.ownBlock = some j ∨ (((wr.setCell ⟨p, 4, none⟩ (.int .u64 (l2 : Int))).drew).alloc o).heap.size ≤ j) :
    SendRel W N p q F win que g last P vw LO LW m (.int .i64 ((k + 1 : Nat) : Int)) (w2.setCell ⟨p, 2, none⟩ v2) := by
  subst hl2
  have hlen : (LO ++ LW.take k).length = LO.length + k := by rw [List.length_append, List.length_take]; omega
  obtain ⟨r1, r2⟩ := h.more (by rw [hlen]; omega) hk rfl hown hgr hat
  have hs := hK.size
  refine ⟨k + 1, (fun j => F1 j ∨ (wr.heap.size ≤ j ∧ j < (w2.setCell ⟨p, 2, none⟩ v2).heap.size)), v2, by omega, rfl, ?_, hK.trans r2 (fun i hi hf => (hF i hf).elim id (fun l => by omega)), fun j hj => ?_⟩
  · rw [show last + (k + 1) = l1 + 1 by omega, List.take_succ_eq_append_getElem hk, ← List.append_assoc]
    exact r1
  · rcases hj with hj | hj
    · exact hF j hj
    · exact Or.inr (by omega)

theorem send_step2 {wr w2 w5 : World} {F1 : Nat → Prop} {m k l1 l2 nn g2 cap2 c1 : Nat} {a1 : Option Addr} {o : Obj} (h : ShR wr N p q F1 win que g l1 P (.slice a1 (LO ++ LW.take k).length c1) vw (LO ++ LW.take k) LW) (hl1 : last + k = l1) (hl2 : l1 + 1 = l2) (hlast : last = g + LO.length) (hk : k < LW.length) (hkm : k < m)
    (hK : Keep F W wr) (hF : ∀ j, F1 j → F j ∨ W.heap.size ≤ j) (hnn : (LO ++ LW.take k).length = nn) (h5 : w5 = wr.setCell ⟨p, 4, none⟩ (.int .u64 (l2 : Int)))
    (hown : w2.ownsRow N 61 2 (.slice (some ⟨g2, 0, none⟩) (nn + 1) cap2) (nn + 1) (itC g (LO ++ LW.take k) ++ [.int .u64 (l2 : Int), .slice LW[k].a LW[k].s.size LW[k].c])) (hgr : (w5.drew.alloc o).grownBy w2 (Value.slice a1 nn c1).ownBlock)
    (hat : (Value.slice a1 nn c1).ownBlock = some g2 ∨ w5.heap.size + 1 ≤ g2) :
    SendRel W N p q F win que g last P vw LO LW m (.int .i64 ((k + 1 : Nat) : Int)) (w2.setCell ⟨p, 2, none⟩ (.slice (some ⟨g2, 0, none⟩) (nn + 1) cap2)) := by
  subst hnn h5
  refine send_step h hl1 hl2 hlast hk hkm hK hF hown hgr (fun j e => ?_)
  have e2 : g2 = j := by simpa [Value.ownBlock] using e
  subst e2
  rcases hat with h | h
  · exact Or.inl h
  · exact Or.inr (by simpa [World.setCell] using h)
theorem send_at {wr w2 w5 : World} {F1 : Nat → Prop} {k l1 l2 nn c1 : Nat} {a1 : Option Addr} {o : Obj} (h : ShR wr N p q F1 win que g l1 P (.slice a1 (LO ++ LW.take k).length c1) vw (LO ++ LW.take k) LW) (hnn : (LO ++ LW.take k).length = nn) (h5 : w5 = wr.setCell ⟨p, 4, none⟩ (.int .u64 (l2 : Int)))
    (hgr : (w5.drew.alloc o).grownBy w2 (Value.slice a1 nn c1).ownBlock) : w2.cell? ⟨p, 2, none⟩ = some (.slice a1 nn c1) ∧ w2.frozen? ⟨p, 2, none⟩ = false := by
  subst hnn h5
  have C2 := h.more_cel rfl hgr
  exact ⟨C2.c 2 (by decide), C2.fz 2⟩

theorem send_done {wc w9 : World} {F2 : Nat → Prop} {k n9 c9 : Nat} {a9 : Option Addr} {v1 v2 : Value} (h : ShR wc N p q F2 win que g (last + k) (if LO.length + k = 0 then P else P.start) v1 v2 (LO ++ LW.take k) (LW.drop k)) (hK : Keep F W wc) (hF : ∀ j, F2 j → F j ∨ W.heap.size ≤ j)
    (hi : ItR (fun j => wc.heap.size ≤ j) w9 (.slice a9 n9 c9) last ((LW.take k).map Bd.s)) (hb : Below wc.heap.size wc w9) (hn : n9 = k) : SendPost W N p q F win que g last P LO LW k (.returned (.slice a9 n9 c9)) w9 := by
  subst hn
  exact ⟨F2, v1, v2, a9, c9, rfl, h.below hb, hK.trans (Keep.ofBelow (F := fun _ => False) hb) (fun _ _ f => f.elim), hF, hi.mono (fun j _ hj => ⟨Nat.le_trans hK.size hj, fun f => by have := (h.low j f).2; omega⟩)⟩

set_option maxRecDepth 20000 in
set_option maxHeartbeats 8000000 in
theorem send_any (h : ShR W N p q F win que g last P vo vw LO LW) (hlast : last = g + LO.length) (hwin : win ≤ 16) (hfit : LO.length ≤ win) (hLW : LW.length ≤ 1000) (hbig : last ≤ 1000000000) (hs : ∀ b ∈ LW, b.s.size ≤ 1000000) :
    Calls Try.prog 26 #[.pointer (some ⟨p, 0, none⟩)] W (SendPost W N p q F win que g last P LO LW (min (win - LO.length) LW.length)) := by
  obtain ⟨i0, hi0, hz0, hz1, hz2⟩ := info_g Try.infoIt
  obtain ⟨c0, c1, c2, c3, c4, c5⟩ := h.cells
  obtain ⟨ao, co, rfl, hro⟩ := own_row h.oo
  obtain ⟨aw, cw, rfl, hrw⟩ := own_row h.ow
  obtain ⟨m, hm⟩ : ∃ m, min (win - LO.length) LW.length = m := ⟨_, rfl⟩
  obtain ⟨d, hd⟩ : ∃ d, win - LO.length = d := ⟨_, rfl⟩
  have hmw : m ≤ LW.length := by omega
  have hcw := hrw.fit
  have hcm := hrw.max
  have hw : IntKind.i64.wrap ((win : Int) - (LO.length : Int)) = (d : Int) := by rw [wrap_i (by omega)]; omega
  have H := Lib.hid h
  have RW := Lib.hid hrw
  have HL := Lib.hid hlast
  have S := Lib.hid hs
  have M := Lib.hid hm
  have D := Lib.hid hd
  rw [hm]
  clear h hro hrw hlast hs hm hd
  go_enter Try.func26, Try.ntmps26
  go_upto_region 2 with fail
  go_cut [4] from 12 to 23 (fun v wx => v = .int .i64 (m : Int) ∧ wx = W.drew)
  case first =>
    go_region
    go_wp2_with fail
    go_meet
    exact ⟨congrArg (Value.int .i64) (by have := D.out; have := M.out; omega), rfl⟩
  case rest =>
    obtain ⟨rfl, rfl⟩ := hcut
    have H0 := Lib.hid H.out.drew
    have K0 := Lib.hid ((Keep.refl F W).drew)
    generalize W.drew = W1 at *
    obtain ⟨x0, x1, x2, x3, x4, x5⟩ := H0.out.cells
    clear hw c0 c1 c2 c3 c4 c5
    have m0 : (0 : Int) ≤ (m : Int) := by omega
    have m1 : (m : Int) ≤ (cw : Int) := by omega
    go_wp2_with fail
    go_loopw [31] (fun i wr => SendRel W N p q F win que g last P (.slice aw LW.length cw) LO LW m i wr) (fun i _ => m - (intOf i).toNat)
    case atStart => exact ⟨0, F, _, Nat.zero_le _, rfl, by rw [List.take_zero, List.append_nil]; exact H0.out, K0.out, fun j h => Or.inl h⟩
    case round =>
      obtain ⟨k, F1, v1, hk, rfl, hR, hK, hF⟩ := hrel
      by_cases hlt : k < m
      · have hkw : k < LW.length := by omega
        obtain ⟨l1, hl1⟩ : ∃ l1, last + k = l1 := ⟨_, rfl⟩
        obtain ⟨l2, hl2⟩ : ∃ l2, l1 + 1 = l2 := ⟨_, rfl⟩
        rw [hl1] at hR
        obtain ⟨y0, y1, y2, y3, y4, y5⟩ := hR.cells
        have f2 := hR.c.fz 2
        have f4 := hR.c.fz 4
        obtain ⟨aw2, cw2, e2, hrw2⟩ := own_row hR.ow
        cases e2
        obtain ⟨bk, off, rfl, hbk, hown, k0⟩ := hrw2.cell k (bdV LW[k]) (by rw [List.getElem?_map, List.getElem?_eq_getElem hkw]; rfl)
        have y6 : wr.cell? ⟨bk, off + k, none⟩ = some (.slice LW[k].a LW[k].s.size LW[k].c) := k0
        obtain ⟨a1, c1, rfl, _⟩ := own_row hR.oo
        have hw1 : IntKind.u64.wrap ((l1 : Int) + 1) = (l2 : Int) := by rw [wrap_q (by omega)]; omega
        have hll : (LO ++ LW.take k).length ≤ 16 := by rw [List.length_append, List.length_take]; have := D.out; have := M.out; omega
        have R := Lib.hid hR
        have L1 := Lib.hid hl1
        have L2 := Lib.hid hl2
        have K := Lib.hid hK
        have HF := Lib.hid hF
        have kb : (k : Int) < (m : Int) := by omega
        have k0' : (0 : Int) ≤ (k : Int) := by omega
        have hnb := hR.nle
        clear hR hl1 hl2 hK hF hrw2 k0 hown H0 K0 x0 x1 x2 x3 x4 x5
        obtain ⟨nn, hnn⟩ : ∃ nn, (LO ++ LW.take k).length = nn := ⟨_, rfl⟩
        have NN := Lib.hid hnn
        rw [hnn] at y2 hll
        clear hnn
        go_wp2_with fail
        obtain ⟨w5, hw5⟩ : ∃ w5, w5 = wr.setCell ⟨p, 4, none⟩ (.int .u64 (l2 : Int)) := ⟨_, rfl⟩
        have C5 := (R.out.c.put 4 (.int .u64 (l2 : Int)))
        rw [← hw5] at C5 ⊢
        have z2 : w5.cell? ⟨p, 2, none⟩ = some (.slice a1 nn c1) := by rw [C5.c 2 (by decide)]; show some (Value.slice a1 _ c1) = _; rw [NN.out]
        have z4 : w5.cell? ⟨p, 4, none⟩ = some (.int .u64 (l2 : Int)) := C5.c 4 (by decide)
        have z2' : w5.drew.cell? ⟨p, 2, none⟩ = some (.slice a1 nn c1) := z2
        have z4' : w5.drew.cell? ⟨p, 4, none⟩ = some (.int .u64 (l2 : Int)) := z4
        have O5 := Lib.hid (show w5.drew.ownsRow N 61 2 (.slice a1 nn c1) nn (itC g (LO ++ LW.take k)) by
          have := own_carry (w' := w5.drew) R.out.oo (fun j hj => by rw [hw5]; exact heap_setCell_other wr ⟨p, 4, none⟩ j _ (fun e : j = p => R.out.op.1 (e ▸ hj)))
          rw [NN.out] at this
          exact this)
        have z2a : (w5.alloc (.cells #[.int .u64 (l2 : Int), .slice LW[k].a LW[k].s.size LW[k].c] 61)).cell? ⟨p, 2, none⟩ = some (.slice a1 nn c1) := cell_go z2 ((Below.refl _ _).alloc (Nat.le_refl _) _)
        have hs5 : wr.heap.size = w5.heap.size := by rw [hw5]; simp [World.setCell]
        have HW := Lib.hid hw5
        clear C5 hw5 y0 y1 y2 y3 y4 y5 y6 f2 f4 hw1
        go_region_law (refine step_append_lies _ rfl (.tmp 46) (.tmp 53) 27 rfl N 61 i0 _ 2 32 Try.underlying27 hi0 hz0 hz1 hz2 rfl (by decide) _ _ _ (by simp [Act.eval]) (World.ownsRow.alloc O5.out _) ⟨w5.heap.size, 0, none⟩ 1 1 [.int .u64 (l2 : Int), .slice LW[k].a LW[k].s.size LW[k].c] (by simp [Act.eval]) rfl (World.news_of_block (heap_alloc_new _ _)) (by simp [Value.oneCell']) (by omega) (by unfold maxLen; omega) (by omega) (by simp; omega) _ rfl ?_
                       intro g2 cap2 w2 hown2 hgr2 hat2 hlt2
                       have hat3 : (Value.slice a1 nn c1).ownBlock = some g2 ∨ w5.heap.size + 1 ≤ g2 := hat2.imp id (fun e => by simp at e; omega)
                       have R2 := Lib.hid (send_step2 R.out L1.out L2.out HL.out hkw hlt K.out HF.out NN.out HW.out hown2 hgr2 hat3)
                       obtain ⟨u2, v2⟩ := send_at R.out NN.out HW.out hgr2
                       clear hown2 hgr2 hat2 hlt2 hat3)
        all_goals go_wp2_with fail
        all_goals go_roundw
        all_goals try (exact R2.out)
        all_goals (simp only [intOf]; omega)
      · obtain rfl : k = m := by omega
        obtain ⟨y0, y1, y2, y3, y4, y5⟩ := hR.cells
        obtain ⟨nO, hnO⟩ : ∃ nO, (LO ++ LW.take k).length = nO := ⟨_, rfl⟩
        have hnO2 : nO = LO.length + k := by rw [← hnO, List.length_append, List.length_take]; omega
        have dk : decide ((k : Int) < (k : Int)) = false := decide_eq_false (by omega)
        have R := Lib.hid hR
        have K := Lib.hid hK
        have HF := Lib.hid hF
        have NO := Lib.hid hnO
        have NO2 := Lib.hid hnO2
        clear hR hK hF hnO hnO2 H0 K0 x0 x1 x2 x3 x4 x5 y0 y1 y2 y4 y5
        go_upto_if 72 with (go_at_call 37; refine (del_waits wr N _ LW k hmw R.out.ow).mono ?_
                            rintro E w2 ⟨a3, c3, rfl, hown, hgr, hat⟩
                            have u3 := cut_at R.out hgr
                            obtain ⟨u2, v2, u4⟩ := u3
                            obtain ⟨r1, r2⟩ := R.out.cut hown hgr hat
                            obtain ⟨a1, c1, e1, hro⟩ := own_row r1.oo
                            have t2 := r1.cells.2.2.1
                            have R3 := Lib.hid r1
                            have K3 := Lib.hid r2
                            subst e1
                            rw [NO.out] at t2
                            clear hown hgr hat r1 r2 hro)
        obtain ⟨w3, hw3⟩ : ∃ w3, w3 = w2.setCell ⟨p, 3, none⟩ (.slice a3 (LW.length - k) c3) := ⟨_, rfl⟩
        rw [← hw3] at R3 K3 t2 ⊢
        have K4 := Lib.hid (K.out.trans K3.out (fun i hi hf => (HF.out i hf).elim id (fun l => by omega)))
        have F4 := Lib.hid (show ∀ j, (F1 j ∨ (wr.heap.size ≤ j ∧ j < w3.heap.size)) → F j ∨ W.heap.size ≤ j from fun j hj => hj.elim (HF.out j) (fun l => Or.inr (by have := K.out.size; omega)))
        clear K K3 HF hw3 u2 v2 u4
        have t5 := R3.out.cells.2.2.2.2.2
        obtain ⟨bb, hbb⟩ : ∃ bb, decide (0 < nO) = bb := ⟨_, rfl⟩
        rw [hbb]
        have BB := Lib.hid hbb
        clear hbb
        go_cut [] from 73 to 77 (fun wx => ∃ F2 v1 v2, ShR wx N p q F2 win que g (last + k) (if LO.length + k = 0 then P else P.start) v1 v2 (LO ++ LW.take k) (LW.drop k) ∧ Keep F W wx ∧ ∀ j, F2 j → F j ∨ W.heap.size ≤ j)
        case first =>
          cases bb
          · go_wp2_with fail
            go_meet
            exact ⟨_, _, _, by rw [if_pos (by have := of_decide_eq_false BB.out; have := NO2.out; omega)]; exact R3.out, K4.out, F4.out⟩
          · go_wp2_with fail
            refine (pa_start R3.out.pa).mono ?_
            intro e w' hp
            obtain ⟨rfl, h1, hk⟩ := R3.out.alarm hp
            have R5 := Lib.hid h1
            have K5 := Lib.hid hk
            clear h1 hk hp
            go_wp2_with fail
            go_meet
            exact ⟨_, _, _, by rw [if_neg (by have := of_decide_eq_true BB.out; have := NO2.out; omega)]; exact R5.out, K4.out.trans K5.out (fun i hi hf => (F4.out i hf).elim id (fun l => by omega)), F4.out⟩
        case rest =>
          obtain ⟨F2, v1, v2, hR, hK, hF⟩ := hcut
          clear R3 K4 F4 t2 t5 R
          have t2 := hR.cells.2.2.1
          obtain ⟨a1, c1, rfl, hro⟩ := own_row hR.oo
          have hro2 := hro.drop LO.length (by rw [NO.out, NO2.out]; omega)
          rw [itC_drop _ _ _ (by rw [NO.out, NO2.out]; omega), List.drop_left, NO.out] at hro2
          have hcn := hro.fit
          have hcm1 := hro.max
          rw [NO.out] at t2 hcn
          have hnn := Nat.le_of_eq NO2.out
          have hnn2 := Nat.le_of_eq NO2.out.symm
          have RO := Lib.hid hro2
          have R := Lib.hid hR
          have K := Lib.hid hK
          have HF := Lib.hid hF
          clear hR hK hF hro hro2
          have g0 : (0 : Int) ≤ (LO.length : Int) := by omega
          have g1 : (LO.length : Int) ≤ (nO : Int) := by omega
          have g2 : (nO : Int) ≤ (c1 : Int) := by omega
          go_wp2_with fail
          case inl =>
            rename_i h
            have RO2 := RO.out
            rw [if_pos h, show c1 - LO.length = 0 by omega] at RO2
            clear h
            refine (send_copy HL.out R.out RO2 (fun b hb => S.out b (List.mem_of_mem_take hb)) (by omega)).mono ?_
            rintro E w9 ⟨a9, c9, rfl, hi, hb⟩
            have r0 := send_done R.out K.out HF.out hi hb (by rw [List.length_map, List.length_take]; omega)
            rw [show ((LW.take k).map Bd.s).length = k by rw [List.length_map, List.length_take]; omega] at r0
            have RR := Lib.hid r0
            clear hi hb RO2 r0
            go_wp2_with fail
            go_ret
            exact RR.out
          case inr =>
            rename_i h
            have RO2 := RO.out
            rw [if_neg h] at RO2
            clear h
            refine (send_copy HL.out R.out RO2 (fun b hb => S.out b (List.mem_of_mem_take hb)) (by omega)).mono ?_
            rintro E w9 ⟨a9, c9, rfl, hi, hb⟩
            have r0 := send_done R.out K.out HF.out hi hb (by rw [List.length_map, List.length_take]; omega)
            rw [show ((LW.take k).map Bd.s).length = k by rw [List.length_map, List.length_take]; omega] at r0
            have RR := Lib.hid r0
            clear hi hb RO2 r0
            go_wp2_with fail
            go_ret
            exact RR.out
end

end Go.Proofs.Ytmahbmmeeifaiaa
