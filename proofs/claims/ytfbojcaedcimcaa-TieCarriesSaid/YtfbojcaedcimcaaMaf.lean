/-
  Texts of this claim, put together.
-/
import Derived.Test.YtfbojcaedcimcaaMae
import Derived.Test.YtfbojcaedcimcaaGdelm
import Derived.Deep.Cut
import Derived.Deep.CutRange

/-
  send: as many go out as the window has room for.
-/
namespace Go.Proofs.Ytfbojcaedcimcaa
open Go.RowKit

theorem wrap_q {z : Int} (h : 0 ≤ z ∧ z ≤ 18446744073709551615) : IntKind.u64.wrap z = z := by
  simp only [IntKind.wrap, IntKind.signed, IntKind.bits]
  simp
  omega

section
variable {W : World} {N p q : Nat} {F : Nat → Prop} {win que g last : Nat} {P : Pa} {vo vw : Value} {LO LW : List Bd}

theorem ShR.more_cel {w w1 w2 : World} {l2 : Nat} {o : Obj} (h : ShR w N p q F win que g last P vo vw LO LW) (hw1 : w1 = (w.setCell ⟨p, 4, none⟩ (.int .u64 (l2 : Int))).drew) (hgr : (w1.alloc o).grownBy w2 vo.ownBlock) :
    Cel 6 w2 p (updc (shC win que vo vw last q) 4 (.int .u64 (l2 : Int))) := by
  subst hw1
  exact Cel.keep (F := fun j => vo.ownBlock = some j) ((((h.c.put 4 (.int .u64 (l2 : Int))).drew).below ((Below.refl _ _).alloc (Nat.le_refl _) o))) ⟨hgr.os, hgr.tape, hgr.output, hgr.size, fun j hj hn => hgr.block j hj (fun e => hn e.symm)⟩ h.op.1

/-- One more goes out. -/
theorem ShR.more {w w1 w2 : World} {k : Nat} {v2 : Value} {o : Obj} (h : ShR w N p q F win que g last P vo vw LO LW) (hlast : last = g + LO.length) (hk : k < LW.length)
    (hw1 : w1 = (w.setCell ⟨p, 4, none⟩ (.int .u64 ((last + 1 : Nat) : Int))).drew)
    (hown : w2.ownsRow N 80 2 v2 (LO.length + 1) (itC g LO ++ [.int .u64 ((last + 1 : Nat) : Int), bdV LW[k]])) (hgr : (w1.alloc o).grownBy w2 vo.ownBlock) (hat : ∀ j, v2.ownBlock = some j → vo.ownBlock = some j ∨ (w1.alloc o).heap.size ≤ j) :
    ShR (w2.setCell ⟨p, 2, none⟩ v2) N p q (fun k => F k ∨ (w.heap.size ≤ k ∧ k < (w2.setCell ⟨p, 2, none⟩ v2).heap.size)) win que g (last + 1) P v2 vw (LO ++ [LW[k]]) LW ∧ Keep F w (w2.setCell ⟨p, 2, none⟩ v2) := by
  subst hw1
  have hal : (((w.setCell ⟨p, 4, none⟩ (.int .u64 ((last + 1 : Nat) : Int))).drew).alloc o).heap.size = w.heap.size + 1 := by simp [World.setCell]
  have hat2 : ∀ j, v2.ownBlock = some j → vo.ownBlock = some j ∨ w.heap.size ≤ j := fun j e => (hat j e).imp id (fun l => by omega)
  have k1 : Keep (fun k => k = p ∨ vo.ownBlock = some k) w w2 := (((Keep.refl (fun k => k = p ∨ vo.ownBlock = some k) w).setCell (p := ⟨p, 4, none⟩) (Or.inl rfl) _).drew.alloc o).grown hgr (fun j e => Or.inl (Or.inr e))
  have k0 : Keep (fun k => k = p ∨ vo.ownBlock = some k) w (w2.setCell ⟨p, 2, none⟩ v2) := k1.setCell (p := ⟨p, 2, none⟩) (Or.inl rfl) _
  have k2 : Keep (Turns p vo vw) w (w2.setCell ⟨p, 2, none⟩ v2) := k0.mono (fun j e => e.elim Or.inl (fun e => Or.inr (Or.inl e)))
  have hpl := (h.low p h.inp).2
  have hp2 : v2.ownBlock ≠ some p := fun e => (hat2 p e).elim h.op.1 (fun l => by omega)
  have hc : Cel 6 w2 p (updc (shC win que vo vw last q) 4 (.int .u64 ((last + 1 : Nat) : Int))) := h.more_cel rfl hgr
  refine ⟨h.turn k2 ((hc.put 2 v2).conv (six rfl rfl rfl rfl rfl rfl)) ?_ ?_ hat2 (fun j e => Or.inl e) (fun j e e2 => ?_) (fun b hb => Or.inl ?_), k2.mono h.turns⟩
  · rw [itC_append, List.length_append, ← hlast]
    refine own_carry ?_ (fun j hj => heap_setCell_other w2 ⟨p, 2, none⟩ j v2 (fun (e : j = p) => hp2 (e ▸ hj)))
    exact hown
  · exact own_carry h.ow (fun j hj => k0.block j (h.ow.lt j hj).2 (fun e => by
      rcases e with e | e
      · exact h.wp.1 (e ▸ hj)
      · exact h.ap j e hj))
  · rcases hat2 j e with e3 | e3
    · exact h.ap j e3 e2
    · have := (h.ow.lt j e2).2
      omega
  · rcases List.mem_append.1 hb with hb | hb
    · rcases List.mem_append.1 hb with hb | hb
      · exact List.mem_append_left _ hb
      · rw [List.mem_singleton.1 hb]
        exact List.mem_append_right _ (List.getElem_mem hk)
    · exact List.mem_append_right _ hb

/-- What has gone out is no longer waiting. -/
theorem ShR.cut {w w2 : World} {m : Nat} {v2 : Value} (h : ShR w N p q F win que g last P vo vw LO LW) (hown : w2.ownsRow N 30 1 v2 (LW.length - m) ((LW.drop m).map bdV)) (hgr : w.grownBy w2 vw.ownBlock) (hat : v2.ownBlock = vw.ownBlock) :
    ShR (w2.setCell ⟨p, 3, none⟩ v2) N p q (fun k => F k ∨ (w.heap.size ≤ k ∧ k < (w2.setCell ⟨p, 3, none⟩ v2).heap.size)) win que g last P vo v2 LO (LW.drop m) ∧ Keep F w (w2.setCell ⟨p, 3, none⟩ v2) := by
  have k1 : Keep (fun k => k = p ∨ vw.ownBlock = some k) w w2 := (Keep.refl (fun k => k = p ∨ vw.ownBlock = some k) w).grown hgr (fun j e => Or.inl (Or.inr e))
  have k0 : Keep (fun k => k = p ∨ vw.ownBlock = some k) w (w2.setCell ⟨p, 3, none⟩ v2) := k1.setCell (p := ⟨p, 3, none⟩) (Or.inl rfl) _
  have k2 : Keep (Turns p vo vw) w (w2.setCell ⟨p, 3, none⟩ v2) := k0.mono (fun j e => e.elim Or.inl (fun e => Or.inr (Or.inr e)))
  have hc : Cel 6 w2 p (shC win que vo vw last q) := h.c.keep (F := fun j => vw.ownBlock = some j) ⟨hgr.os, hgr.tape, hgr.output, hgr.size, fun j hj hn => hgr.block j hj (fun e => hn e.symm)⟩ h.wp.1
  refine ⟨h.turn k2 ((hc.put 3 v2).conv (six rfl rfl rfl rfl rfl rfl)) ?_ ?_ (fun j e => Or.inl e) (fun j e => Or.inl (hat ▸ e)) (fun j e e2 => h.ap j e (hat ▸ e2)) (fun b hb => Or.inl ?_), k2.mono h.turns⟩
  · exact own_carry h.oo (fun j hj => k0.block j (h.oo.lt j hj).2 (fun e => by
      rcases e with e | e
      · exact h.op.1 (e ▸ hj)
      · exact h.ap j hj e))
  · rw [List.length_drop]
    exact own_carry hown (fun j hj => heap_setCell_other w2 ⟨p, 3, none⟩ j v2 (fun (e : j = p) => h.wp.1 (by rw [← hat, ← e]; exact hj)))
  · rcases List.mem_append.1 hb with hb | hb
    · exact List.mem_append_left _ hb
    · exact List.mem_append_right _ (List.mem_of_mem_drop hb)

theorem cut_at {w w2 : World} (h : ShR w N p q F win que g last P vo vw LO LW) (hgr : w.grownBy w2 vw.ownBlock) : w2.cell? ⟨p, 3, none⟩ = some vw ∧ w2.frozen? ⟨p, 3, none⟩ = false ∧ w2.cell? ⟨p, 2, none⟩ = some vo := by
  have hc : Cel 6 w2 p (shC win que vo vw last q) := h.c.keep (F := fun j => vw.ownBlock = some j) ⟨hgr.os, hgr.tape, hgr.output, hgr.size, fun j hj hn => hgr.block j hj (fun e => hn e.symm)⟩ h.wp.1
  exact ⟨hc.c 3 (by decide), hc.fz 3, hc.c 2 (by decide)⟩

theorem send_copy {wc : World} {F2 : Nat → Prop} {k n2 cap : Nat} {v1 v2 : Value} {A : Nat → Prop} {ad : Option Addr} (hlast : last = g + LO.length) (h : ShR wc N p q F2 win que g (last + k) P v1 v2 (LO ++ LW.take k) (LW.drop k)) (hr : RowV A wc ad cap n2 2 (itC (g + LO.length) (LW.take k)))
    (hs : ∀ b ∈ LW.take k, b.s.size ≤ 1000000) (hn : n2 ≤ 1000) : Calls Try.prog 44 #[.slice ad n2 cap] wc (CopPost wc last ((LW.take k).map Bd.s)) := by
  have hl : n2 = (LW.take k).length := by
    have := hr.len
    rw [itC_len] at this
    omega
  subst hl
  rw [← hlast] at hr
  exact copied_any wc (fun _ => True) last (LW.take k) ad cap (hr.mono (fun _ _ _ => trivial)) (fun b hb => (h.bo b (List.mem_append_left _ (List.mem_append_right _ hb))).mono (fun _ _ _ => trivial)) hn hs

def SendRel (W : World) (N p q : Nat) (F : Nat → Prop) (win que g last : Nat) (P : Pa) (vw : Value) (LO LW : List Bd) (m : Nat) (i : Value) (wr : World) : Prop :=
  ∃ (k : Nat) (F1 : Nat → Prop) (v1 : Value), k ≤ m ∧ i = .int .i64 ((k : Nat) : Int) ∧ ShR wr N p q F1 win que g (last + k) P v1 vw (LO ++ LW.take k) LW ∧ Keep F W wr ∧ ∀ j, F1 j → F j ∨ W.heap.size ≤ j

/-- As many as there is room for are out; these, in new memory. -/
def SendPost (W : World) (N p q : Nat) (F : Nat → Prop) (win que g last : Nat) (P : Pa) (LO LW : List Bd) (m : Nat) (E : Ending) (w' : World) : Prop :=
  ∃ F1 v1 v2 a cap, E = .returned (.slice a m cap) ∧ ShR w' N p q F1 win que g (last + m) (if LO.length + m = 0 then P else P.start) v1 v2 (LO ++ LW.take m) (LW.drop m) ∧ Keep F W w' ∧ (∀ j, F1 j → F j ∨ W.heap.size ≤ j) ∧
    ItR (fun k => W.heap.size ≤ k ∧ ¬ F1 k) w' (.slice a m cap) last ((LW.take m).map Bd.s)

theorem send_step {wr w2 : World} {F1 : Nat → Prop} {m k l1 l2 : Nat} {v1 v2 : Value} {o : Obj} (h : ShR wr N p q F1 win que g l1 P v1 vw (LO ++ LW.take k) LW) (hl1 : last + k = l1) (hl2 : l1 + 1 = l2) (hlast : last = g + LO.length) (hk : k < LW.length) (hkm : k < m)
    (hK : Keep F W wr) (hF : ∀ j, F1 j → F j ∨ W.heap.size ≤ j)
    (hown : w2.ownsRow N 80 2 v2 ((LO ++ LW.take k).length + 1) (itC g (LO ++ LW.take k) ++ [.int .u64 (l2 : Int), .slice LW[k].a LW[k].s.size LW[k].c])) (hgr : (((wr.setCell ⟨p, 4, none⟩ (.int .u64 (l2 : Int))).drew).alloc o).grownBy w2 v1.ownBlock)
    (hat : ∀ j, v2.ownBlock = some j → v1.ownBlock = some j ∨ (((wr.setCell ⟨p, 4, none⟩ (.int .u64 (l2 : Int))).drew).alloc o).heap.size ≤ j) :
    SendRel W N p q F win que g last P vw LO LW m (.int .i64 ((k + 1 : Nat) : Int)) (w2.setCell ⟨p, 2, none⟩ v2) := by
  subst hl2
  have hlen : (LO ++ LW.take k).length = LO.length + k := by rw [List.length_append, List.length_take]; omega
  obtain ⟨r1, r2⟩ := h.more (by rw [hlen]; omega) hk rfl hown hgr hat
  have hs := hK.size
  refine ⟨k + 1, (fun j => F1 j ∨ (wr.heap.size ≤ j ∧ j < (w2.setCell ⟨p, 2, none⟩ v2).heap.size)), v2, by omega, rfl, ?_, hK.trans r2 (fun i hi hf => (hF i hf).elim id (fun l => by omega)), fun j hj => ?_⟩
  · rw [show last + (k + 1) = l1 + 1 by omega, List.take_succ_eq_append_getElem hk, ← List.append_assoc]
    exact r1
  · rcases hj with hj | hj
    · exact hF j hj
    · exact Or.inr (by omega)

theorem send_step2 {wr w2 w5 : World} {F1 : Nat → Prop} {m k l1 l2 nn g2 cap2 c1 : Nat} {a1 : Option Addr} {o : Obj} (h : ShR wr N p q F1 win que g l1 P (.slice a1 (LO ++ LW.take k).length c1) vw (LO ++ LW.take k) LW) (hl1 : last + k = l1) (hl2 : l1 + 1 = l2) (hlast : last = g + LO.length) (hk : k < LW.length) (hkm : k < m)
    (hK : Keep F W wr) (hF : ∀ j, F1 j → F j ∨ W.heap.size ≤ j) (hnn : (LO ++ LW.take k).length = nn) (h5 : w5 = wr.setCell ⟨p, 4, none⟩ (.int .u64 (l2 : Int)))
    (hown : w2.ownsRow N 80 2 (.slice (some ⟨g2, 0, none⟩) (nn + 1) cap2) (nn + 1) (itC g (LO ++ LW.take k) ++ [.int .u64 (l2 : Int), .slice LW[k].a LW[k].s.size LW[k].c])) (hgr : (w5.drew.alloc o).grownBy w2 (Value.slice a1 nn c1).ownBlock)
    (hat : (Value.slice a1 nn c1).ownBlock = some g2 ∨ w5.heap.size + 1 ≤ g2) :
    SendRel W N p q F win que g last P vw LO LW m (.int .i64 ((k + 1 : Nat) : Int)) (w2.setCell ⟨p, 2, none⟩ (.slice (some ⟨g2, 0, none⟩) (nn + 1) cap2)) := by
  subst hnn h5
  refine send_step h hl1 hl2 hlast hk hkm hK hF hown hgr (fun j e => ?_)
  have e2 : g2 = j := by simpa [Value.ownBlock] using e
  subst e2
  rcases hat with h | h
  · exact Or.inl h
  · exact Or.inr (by simpa [World.setCell] using h)
theorem send_at {wr w2 w5 : World} {F1 : Nat → Prop} {k l1 l2 nn c1 : Nat} {a1 : Option Addr} {o : Obj} (h : ShR wr N p q F1 win que g l1 P (.slice a1 (LO ++ LW.take k).length c1) vw (LO ++ LW.take k) LW) (hnn : (LO ++ LW.take k).length = nn) (h5 : w5 = wr.setCell ⟨p, 4, none⟩ (.int .u64 (l2 : Int)))
    (hgr : (w5.drew.alloc o).grownBy w2 (Value.slice a1 nn c1).ownBlock) : w2.cell? ⟨p, 2, none⟩ = some (.slice a1 nn c1) ∧ w2.frozen? ⟨p, 2, none⟩ = false := by
  subst hnn h5
  have C2 := h.more_cel rfl hgr
  exact ⟨C2.c 2 (by decide), C2.fz 2⟩

theorem send_done {wc w9 : World} {F2 : Nat → Prop} {k n9 c9 : Nat} {a9 : Option Addr} {v1 v2 : Value} (h : ShR wc N p q F2 win que g (last + k) (if LO.length + k = 0 then P else P.start) v1 v2 (LO ++ LW.take k) (LW.drop k)) (hK : Keep F W wc) (hF : ∀ j, F2 j → F j ∨ W.heap.size ≤ j)
    (hi : ItR (fun j => wc.heap.size ≤ j) w9 (.slice a9 n9 c9) last ((LW.take k).map Bd.s)) (hb : Below wc.heap.size wc w9) (hn : n9 = k) : SendPost W N p q F win que g last P LO LW k (.returned (.slice a9 n9 c9)) w9 := by
  subst hn
  exact ⟨F2, v1, v2, a9, c9, rfl, h.below hb, hK.trans (Keep.ofBelow (F := fun _ => False) hb) (fun _ _ f => f.elim), hF, hi.mono (fun j _ hj => ⟨Nat.le_trans hK.size hj, fun f => by have := (h.low j f).2; omega⟩)⟩

set_option maxRecDepth 20000 in
set_option maxHeartbeats 8000000 in
theorem send_any (h : ShR W N p q F win que g last P vo vw LO LW) (hlast : last = g + LO.length) (hwin : win ≤ 16) (hfit : LO.length ≤ win) (hLW : LW.length ≤ 1000) (hbig : last ≤ 1000000000) (hs : ∀ b ∈ LW, b.s.size ≤ 1000000) :
    Calls Try.prog 38 #[.pointer (some ⟨p, 0, none⟩)] W (SendPost W N p q F win que g last P LO LW (min (win - LO.length) LW.length)) := by
  obtain ⟨i0, hi0, hz0, hz1, hz2⟩ := info_g Try.infoIt
  obtain ⟨c0, c1, c2, c3, c4, c5⟩ := h.cells
  obtain ⟨ao, co, rfl, hro⟩ := own_row h.oo
  obtain ⟨aw, cw, rfl, hrw⟩ := own_row h.ow
  obtain ⟨m, hm⟩ : ∃ m, min (win - LO.length) LW.length = m := ⟨_, rfl⟩
  obtain ⟨d, hd⟩ : ∃ d, win - LO.length = d := ⟨_, rfl⟩
  have hmw : m ≤ LW.length := by omega
  have hcw := hrw.fit
  have hcm := hrw.max
  have hw : IntKind.i64.wrap ((win : Int) - (LO.length : Int)) = (d : Int) := by rw [wrap_i (by omega)]; omega
  have H := Lib.hid h
  have RW := Lib.hid hrw
  have HL := Lib.hid hlast
  have S := Lib.hid hs
  have M := Lib.hid hm
  have D := Lib.hid hd
  rw [hm]
  clear h hro hrw hlast hs hm hd
  go_enter Try.func38, Try.ntmps38
  go_upto_region 2 with fail
  go_cut [4] from 12 to 23 (fun v wx => v = .int .i64 (m : Int) ∧ wx = W.drew)
  case first =>
    go_region
    go_wp2_with fail
    go_meet
    exact ⟨congrArg (Value.int .i64) (by have := D.out; have := M.out; omega), rfl⟩
  case rest =>
    obtain ⟨rfl, rfl⟩ := hcut
    have H0 := Lib.hid H.out.drew
    have K0 := Lib.hid ((Keep.refl F W).drew)
    generalize W.drew = W1 at *
    obtain ⟨x0, x1, x2, x3, x4, x5⟩ := H0.out.cells
    clear hw c0 c1 c2 c3 c4 c5
    have m0 : (0 : Int) ≤ (m : Int) := by omega
    have m1 : (m : Int) ≤ (cw : Int) := by omega
    go_wp2_with fail
    go_loopw [31] (fun i wr => SendRel W N p q F win que g last P (.slice aw LW.length cw) LO LW m i wr) (fun i _ => m - (intOf i).toNat)
    case atStart => exact ⟨0, F, _, Nat.zero_le _, rfl, by rw [List.take_zero, List.append_nil]; exact H0.out, K0.out, fun j h => Or.inl h⟩
    case round =>
      obtain ⟨k, F1, v1, hk, rfl, hR, hK, hF⟩ := hrel
      by_cases hlt : k < m
      · have hkw : k < LW.length := by omega
        obtain ⟨l1, hl1⟩ : ∃ l1, last + k = l1 := ⟨_, rfl⟩
        obtain ⟨l2, hl2⟩ : ∃ l2, l1 + 1 = l2 := ⟨_, rfl⟩
        rw [hl1] at hR
        obtain ⟨y0, y1, y2, y3, y4, y5⟩ := hR.cells
        have f2 := hR.c.fz 2
        have f4 := hR.c.fz 4
        obtain ⟨aw2, cw2, e2, hrw2⟩ := own_row hR.ow
        cases e2
        obtain ⟨bk, off, rfl, hbk, hown, k0⟩ := hrw2.cell k (bdV LW[k]) (by rw [List.getElem?_map, List.getElem?_eq_getElem hkw]; rfl)
        have y6 : wr.cell? ⟨bk, off + k, none⟩ = some (.slice LW[k].a LW[k].s.size LW[k].c) := k0
        obtain ⟨a1, c1, rfl, _⟩ := own_row hR.oo
        have hw1 : IntKind.u64.wrap ((l1 : Int) + 1) = (l2 : Int) := by rw [wrap_q (by omega)]; omega
        have hll : (LO ++ LW.take k).length ≤ 16 := by rw [List.length_append, List.length_take]; have := D.out; have := M.out; omega
        have R := Lib.hid hR
        have L1 := Lib.hid hl1
        have L2 := Lib.hid hl2
        have K := Lib.hid hK
        have HF := Lib.hid hF
        have kb : (k : Int) < (m : Int) := by omega
        have k0' : (0 : Int) ≤ (k : Int) := by omega
        have hnb := hR.nle
        clear hR hl1 hl2 hK hF hrw2 k0 hown H0 K0 x0 x1 x2 x3 x4 x5
        obtain ⟨nn, hnn⟩ : ∃ nn, (LO ++ LW.take k).length = nn := ⟨_, rfl⟩
        have NN := Lib.hid hnn
        rw [hnn] at y2 hll
        clear hnn
        go_wp2_with fail
        obtain ⟨w5, hw5⟩ : ∃ w5, w5 = wr.setCell ⟨p, 4, none⟩ (.int .u64 (l2 : Int)) := ⟨_, rfl⟩
        have C5 := (R.out.c.put 4 (.int .u64 (l2 : Int)))
        rw [← hw5] at C5 ⊢
        have z2 : w5.cell? ⟨p, 2, none⟩ = some (.slice a1 nn c1) := by rw [C5.c 2 (by decide)]; show some (Value.slice a1 _ c1) = _; rw [NN.out]
        have z4 : w5.cell? ⟨p, 4, none⟩ = some (.int .u64 (l2 : Int)) := C5.c 4 (by decide)
        have z2' : w5.drew.cell? ⟨p, 2, none⟩ = some (.slice a1 nn c1) := z2
        have z4' : w5.drew.cell? ⟨p, 4, none⟩ = some (.int .u64 (l2 : Int)) := z4
        have O5 := Lib.hid (show w5.drew.ownsRow N 80 2 (.slice a1 nn c1) nn (itC g (LO ++ LW.take k)) by
          have := own_carry (w' := w5.drew) R.out.oo (fun j hj => by rw [hw5]; exact heap_setCell_other wr ⟨p, 4, none⟩ j _ (fun e : j = p => R.out.op.1 (e ▸ hj)))
          rw [NN.out] at this
          exact this)
        have z2a : (w5.alloc (.cells #[.int .u64 (l2 : Int), .slice LW[k].a LW[k].s.size LW[k].c] 80)).cell? ⟨p, 2, none⟩ = some (.slice a1 nn c1) := cell_go z2 ((Below.refl _ _).alloc (Nat.le_refl _) _)
        have hs5 : wr.heap.size = w5.heap.size := by rw [hw5]; simp [World.setCell]
        have HW := Lib.hid hw5
        clear C5 hw5 y0 y1 y2 y3 y4 y5 y6 f2 f4 hw1
        go_region_law (refine step_append_lies _ rfl (.tmp 46) (.tmp 53) 56 rfl N 80 i0 _ 2 32 Try.underlying56 hi0 hz0 hz1 hz2 rfl (by decide) _ _ _ (by simp [Act.eval]) (World.ownsRow.alloc O5.out _) ⟨w5.heap.size, 0, none⟩ 1 1 [.int .u64 (l2 : Int), .slice LW[k].a LW[k].s.size LW[k].c] (by simp [Act.eval]) rfl (World.news_of_block (heap_alloc_new _ _)) (by simp [Value.oneCell']) (by omega) (by unfold maxLen; omega) (by omega) (by simp; omega) _ rfl ?_
                       intro g2 cap2 w2 hown2 hgr2 hat2 hlt2
                       have hat3 : (Value.slice a1 nn c1).ownBlock = some g2 ∨ w5.heap.size + 1 ≤ g2 := hat2.imp id (fun e => by simp at e; omega)
                       have R2 := Lib.hid (send_step2 R.out L1.out L2.out HL.out hkw hlt K.out HF.out NN.out HW.out hown2 hgr2 hat3)
                       obtain ⟨u2, v2⟩ := send_at R.out NN.out HW.out hgr2
                       clear hown2 hgr2 hat2 hlt2 hat3)
        all_goals go_wp2_with fail
        all_goals go_roundw
        all_goals try (exact R2.out)
        all_goals (simp only [intOf]; omega)
      · obtain rfl : k = m := by omega
        obtain ⟨y0, y1, y2, y3, y4, y5⟩ := hR.cells
        obtain ⟨nO, hnO⟩ : ∃ nO, (LO ++ LW.take k).length = nO := ⟨_, rfl⟩
        have hnO2 : nO = LO.length + k := by rw [← hnO, List.length_append, List.length_take]; omega
        have dk : decide ((k : Int) < (k : Int)) = false := decide_eq_false (by omega)
        have R := Lib.hid hR
        have K := Lib.hid hK
        have HF := Lib.hid hF
        have NO := Lib.hid hnO
        have NO2 := Lib.hid hnO2
        clear hR hK hF hnO hnO2 H0 K0 x0 x1 x2 x3 x4 x5 y0 y1 y2 y4 y5
        go_upto_if 72 with (go_at_call 55; refine (del_waits wr N _ LW k hmw R.out.ow).mono ?_
                            rintro E w2 ⟨a3, c3, rfl, hown, hgr, hat⟩
                            have u3 := cut_at R.out hgr
                            obtain ⟨u2, v2, u4⟩ := u3
                            obtain ⟨r1, r2⟩ := R.out.cut hown hgr hat
                            obtain ⟨a1, c1, e1, hro⟩ := own_row r1.oo
                            have t2 := r1.cells.2.2.1
                            have R3 := Lib.hid r1
                            have K3 := Lib.hid r2
                            subst e1
                            rw [NO.out] at t2
                            clear hown hgr hat r1 r2 hro)
        obtain ⟨w3, hw3⟩ : ∃ w3, w3 = w2.setCell ⟨p, 3, none⟩ (.slice a3 (LW.length - k) c3) := ⟨_, rfl⟩
        rw [← hw3] at R3 K3 t2 ⊢
        have K4 := Lib.hid (K.out.trans K3.out (fun i hi hf => (HF.out i hf).elim id (fun l => by omega)))
        have F4 := Lib.hid (show ∀ j, (F1 j ∨ (wr.heap.size ≤ j ∧ j < w3.heap.size)) → F j ∨ W.heap.size ≤ j from fun j hj => hj.elim (HF.out j) (fun l => Or.inr (by have := K.out.size; omega)))
        clear K K3 HF hw3 u2 v2 u4
        have t5 := R3.out.cells.2.2.2.2.2
        obtain ⟨bb, hbb⟩ : ∃ bb, decide (0 < nO) = bb := ⟨_, rfl⟩
        rw [hbb]
        have BB := Lib.hid hbb
        clear hbb
        go_cut [] from 73 to 77 (fun wx => ∃ F2 v1 v2, ShR wx N p q F2 win que g (last + k) (if LO.length + k = 0 then P else P.start) v1 v2 (LO ++ LW.take k) (LW.drop k) ∧ Keep F W wx ∧ ∀ j, F2 j → F j ∨ W.heap.size ≤ j)
        case first =>
          cases bb
          · go_wp2_with fail
            go_meet
            exact ⟨_, _, _, by rw [if_pos (by have := of_decide_eq_false BB.out; have := NO2.out; omega)]; exact R3.out, K4.out, F4.out⟩
          · go_wp2_with fail
            refine (pa_start R3.out.pa).mono ?_
            intro e w' hp
            obtain ⟨rfl, h1, hk⟩ := R3.out.alarm hp
            have R5 := Lib.hid h1
            have K5 := Lib.hid hk
            clear h1 hk hp
            go_wp2_with fail
            go_meet
            exact ⟨_, _, _, by rw [if_neg (by have := of_decide_eq_true BB.out; have := NO2.out; omega)]; exact R5.out, K4.out.trans K5.out (fun i hi hf => (F4.out i hf).elim id (fun l => by omega)), F4.out⟩
        case rest =>
          obtain ⟨F2, v1, v2, hR, hK, hF⟩ := hcut
          clear R3 K4 F4 t2 t5 R
          have t2 := hR.cells.2.2.1
          obtain ⟨a1, c1, rfl, hro⟩ := own_row hR.oo
          have hro2 := hro.drop LO.length (by rw [NO.out, NO2.out]; omega)
          rw [itC_drop _ _ _ (by rw [NO.out, NO2.out]; omega), List.drop_left, NO.out] at hro2
          have hcn := hro.fit
          have hcm1 := hro.max
          rw [NO.out] at t2 hcn
          have hnn := Nat.le_of_eq NO2.out
          have hnn2 := Nat.le_of_eq NO2.out.symm
          have RO := Lib.hid hro2
          have R := Lib.hid hR
          have K := Lib.hid hK
          have HF := Lib.hid hF
          clear hR hK hF hro hro2
          have g0 : (0 : Int) ≤ (LO.length : Int) := by omega
          have g1 : (LO.length : Int) ≤ (nO : Int) := by omega
          have g2 : (nO : Int) ≤ (c1 : Int) := by omega
          go_wp2_with fail
          case inl =>
            rename_i h
            have RO2 := RO.out
            rw [if_pos h, show c1 - LO.length = 0 by omega] at RO2
            clear h
            refine (send_copy HL.out R.out RO2 (fun b hb => S.out b (List.mem_of_mem_take hb)) (by omega)).mono ?_
            rintro E w9 ⟨a9, c9, rfl, hi, hb⟩
            have r0 := send_done R.out K.out HF.out hi hb (by rw [List.length_map, List.length_take]; omega)
            rw [show ((LW.take k).map Bd.s).length = k by rw [List.length_map, List.length_take]; omega] at r0
            have RR := Lib.hid r0
            clear hi hb RO2 r0
            go_wp2_with fail
            go_ret
            exact RR.out
          case inr =>
            rename_i h
            have RO2 := RO.out
            rw [if_neg h] at RO2
            clear h
            refine (send_copy HL.out R.out RO2 (fun b hb => S.out b (List.mem_of_mem_take hb)) (by omega)).mono ?_
            rintro E w9 ⟨a9, c9, rfl, hi, hb⟩
            have r0 := send_done R.out K.out HF.out hi hb (by rw [List.length_map, List.length_take]; omega)
            rw [show ((LW.take k).map Bd.s).length = k by rw [List.length_map, List.length_take]; omega] at r0
            have RR := Lib.hid r0
            clear hi hb RO2 r0
            go_wp2_with fail
            go_ret
            exact RR.out
end

end Go.Proofs.Ytfbojcaedcimcaa

/-
  Push and Ack.
-/
namespace Go.Proofs.Ytfbojcaedcimcaa
open Go.RowKit

section
variable {W : World} {N p q : Nat} {F : Nat → Prop} {win que g last : Nat} {P : Pa} {vo vw : Value} {LO LW : List Bd}

/-- One more waits. -/
theorem ShR.join {w w1 w2 : World} {b : Bd} {o : Obj} {v2 : Value} (h : ShR w N p q F win que g last P vo vw LO LW) (hb : Below w.heap.size w w1) (hbd : BodyV (fun j => w.heap.size ≤ j) w1 b)
    (hown : w2.ownsRow N 30 1 v2 (LW.length + 1) (LW.map bdV ++ [bdV b])) (hgr : (w1.alloc o).grownBy w2 vw.ownBlock) (hat : ∀ j, v2.ownBlock = some j → vw.ownBlock = some j ∨ (w1.alloc o).heap.size ≤ j) :
    ShR (w2.setCell ⟨p, 3, none⟩ v2) N p q (fun k => F k ∨ (w.heap.size ≤ k ∧ k < (w2.setCell ⟨p, 3, none⟩ v2).heap.size)) win que g last P vo v2 LO (LW ++ [b]) ∧ Keep F w (w2.setCell ⟨p, 3, none⟩ v2) := by
  have hal : (w1.alloc o).heap.size = w1.heap.size + 1 := World.size_alloc ..
  have hsz := hb.size
  have hsz2 := hgr.size
  have hpl := (h.low p h.inp).2
  have hat2 : ∀ j, v2.ownBlock = some j → vw.ownBlock = some j ∨ w.heap.size ≤ j := fun j e => (hat j e).imp id (fun l => by omega)
  have kb : Keep (fun k => k = p ∨ vw.ownBlock = some k) w (w1.alloc o) := (Keep.ofBelow hb).alloc o
  have k1 : Keep (fun k => k = p ∨ vw.ownBlock = some k) w w2 := kb.grown hgr (fun j e => Or.inl (Or.inr e))
  have k0 : Keep (fun k => k = p ∨ vw.ownBlock = some k) w (w2.setCell ⟨p, 3, none⟩ v2) := k1.setCell (p := ⟨p, 3, none⟩) (Or.inl rfl) _
  have k2 : Keep (Turns p vo vw) w (w2.setCell ⟨p, 3, none⟩ v2) := k0.mono (fun j e => e.elim Or.inl (fun e => Or.inr (Or.inr e)))
  have hc1 : Cel 6 (w1.alloc o) p (shC win que vo vw last q) := (h.c.below hb).below ((Below.refl _ _).alloc (Nat.le_refl _) o)
  have hc : Cel 6 w2 p (shC win que vo vw last q) := hc1.keep (F := fun j => vw.ownBlock = some j) ⟨hgr.os, hgr.tape, hgr.output, hgr.size, fun j hj hn => hgr.block j hj (fun e => hn e.symm)⟩ h.wp.1
  have hp2 : v2.ownBlock ≠ some p := fun e => (hat2 p e).elim h.wp.1 (fun l => by omega)
  have hrow : ∀ j, vw.ownBlock = some j → j < w.heap.size := fun j e => (h.ow.lt j e).2
  have hset : (w2.setCell ⟨p, 3, none⟩ v2).heap.size = w2.heap.size := by simp [World.setCell]
  refine ⟨h.turn k2 ((hc.put 3 v2).conv (six rfl rfl rfl rfl rfl rfl)) ?_ ?_ (fun j e => Or.inl e) hat2 (fun j e e2 => ?_) (fun c hc' => ?_), k2.mono h.turns⟩
  · exact own_carry h.oo (fun j hj => k0.block j (h.oo.lt j hj).2 (fun e => by
      rcases e with e | e
      · exact h.op.1 (e ▸ hj)
      · exact h.ap j hj e))
  · rw [List.map_append, List.length_append]
    exact own_carry hown (fun j hj => heap_setCell_other w2 ⟨p, 3, none⟩ j v2 (fun (e : j = p) => hp2 (e ▸ hj)))
  · rcases hat2 j e2 with e3 | e3
    · exact h.ap j e e3
    · have := (h.oo.lt j e).2
      omega
  · rw [← List.append_assoc] at hc'
    rcases List.mem_append.1 hc' with hc' | hc'
    · exact Or.inl hc'
    · obtain rfl := List.mem_singleton.1 hc'
      refine Or.inr (((hbd.mono (A' := fun j => w.heap.size ≤ j ∧ j < w1.heap.size) (fun j hj hA => ⟨hA, hj⟩)).carry (w' := w2.setCell ⟨p, 3, none⟩ v2) (by omega) (fun j hj hA => ?_)).mono (fun j hj hA => ⟨hA.1, fun e => ?_, fun e => ?_⟩))
      · have := hA.1
        refine (heap_setCell_other w2 ⟨p, 3, none⟩ j v2 (fun (e : j = p) => by omega)).trans ((hgr.block j (by omega) (fun e => by have := hrow j e.symm; omega)).trans (Below.heap_alloc _ _ _ hj))
      · have := (h.oo.lt j e).2
        have := hA.1
        omega
      · have := hA.1
        have := hA.2
        rcases hat j e with e3 | e3
        · have := hrow j e3
          omega
        · omega

theorem join_at {w w1 w2 : World} {o : Obj} (h : ShR w N p q F win que g last P vo vw LO LW) (hb : Below w.heap.size w w1) (hgr : (w1.alloc o).grownBy w2 vw.ownBlock) : w2.cell? ⟨p, 3, none⟩ = some vw ∧ w2.frozen? ⟨p, 3, none⟩ = false := by
  have hc1 : Cel 6 (w1.alloc o) p (shC win que vo vw last q) := (h.c.below hb).below ((Below.refl _ _).alloc (Nat.le_refl _) o)
  have hc : Cel 6 w2 p (shC win que vo vw last q) := hc1.keep (F := fun j => vw.ownBlock = some j) ⟨hgr.os, hgr.tape, hgr.output, hgr.size, fun j hj hn => hgr.block j hj (fun e => hn e.symm)⟩ h.wp.1
  exact ⟨hc.c 3 (by decide), hc.fz 3⟩

/-- The first k that were out are no more. -/
theorem ShR.acked {w w2 : World} {k : Nat} {v2 : Value} (h : ShR w N p q F win que g last P vo vw LO LW) (hk : k ≤ LO.length) (hown : w2.ownsRow N 80 2 v2 (LO.length - k) ((itC g LO).drop (k * 2))) (hgr : w.grownBy w2 vo.ownBlock) (hat : v2.ownBlock = vo.ownBlock) :
    ShR (w2.setCell ⟨p, 2, none⟩ v2) N p q (fun j => F j ∨ (w.heap.size ≤ j ∧ j < (w2.setCell ⟨p, 2, none⟩ v2).heap.size)) win que (g + k) last P v2 vw (LO.drop k) LW ∧ Keep F w (w2.setCell ⟨p, 2, none⟩ v2) := by
  have k1 : Keep (fun k => k = p ∨ vo.ownBlock = some k) w w2 := (Keep.refl (fun k => k = p ∨ vo.ownBlock = some k) w).grown hgr (fun j e => Or.inl (Or.inr e))
  have k0 : Keep (fun k => k = p ∨ vo.ownBlock = some k) w (w2.setCell ⟨p, 2, none⟩ v2) := k1.setCell (p := ⟨p, 2, none⟩) (Or.inl rfl) _
  have k2 : Keep (Turns p vo vw) w (w2.setCell ⟨p, 2, none⟩ v2) := k0.mono (fun j e => e.elim Or.inl (fun e => Or.inr (Or.inl e)))
  have hc : Cel 6 w2 p (shC win que vo vw last q) := h.c.keep (F := fun j => vo.ownBlock = some j) ⟨hgr.os, hgr.tape, hgr.output, hgr.size, fun j hj hn => hgr.block j hj (fun e => hn e.symm)⟩ h.op.1
  refine ⟨h.turn k2 ((hc.put 2 v2).conv (six rfl rfl rfl rfl rfl rfl)) ?_ ?_ (fun j e => Or.inl (hat ▸ e)) (fun j e => Or.inl e) (fun j e e2 => h.ap j (hat ▸ e) e2) (fun b hb => Or.inl ?_), k2.mono h.turns⟩
  · rw [itC_drop _ _ _ hk] at hown
    rw [List.length_drop]
    exact own_carry hown (fun j hj => heap_setCell_other w2 ⟨p, 2, none⟩ j v2 (fun (e : j = p) => h.op.1 (by rw [← hat, ← e]; exact hj)))
  · exact own_carry h.ow (fun j hj => k0.block j (h.ow.lt j hj).2 (fun e => by
      rcases e with e | e
      · exact h.wp.1 (e ▸ hj)
      · exact h.ap j e hj))
  · rcases List.mem_append.1 hb with hb | hb
    · exact List.mem_append_left _ (List.mem_of_mem_drop hb)
    · exact List.mem_append_right _ hb
theorem ack_at {w w2 : World} (h : ShR w N p q F win que g last P vo vw LO LW) (hgr : w.grownBy w2 vo.ownBlock) : w2.cell? ⟨p, 2, none⟩ = some vo ∧ w2.frozen? ⟨p, 2, none⟩ = false := by
  have hc : Cel 6 w2 p (shC win que vo vw last q) := h.c.keep (F := fun j => vo.ownBlock = some j) ⟨hgr.os, hgr.tape, hgr.output, hgr.size, fun j hj hn => hgr.block j hj (fun e => hn e.symm)⟩ h.op.1
  exact ⟨hc.c 2 (by decide), hc.fz 2⟩
end

/-! The same by what it does, without its memory. -/

/-- A call's outcome: the ship as it then is, items in new memory; all else as it was. -/
def OpPost (W : World) (N p : Nat) (F : Nat → Prop) (S : Sh) (r : Value → Value) (g : Nat) (ss : List ByteArray) (E : Ending) (w' : World) : Prop :=
  ∃ F' a cap, E = .returned (r (.slice a ss.length cap)) ∧ ShAt w' N p F' S ∧ Keep F W w' ∧ (∀ j, F' j → F j ∨ W.heap.size ≤ j) ∧ ItR (fun j => W.heap.size ≤ j ∧ ¬ F' j) w' (.slice a ss.length cap) g ss

theorem Sh.parts {S : Sh} {LO LQ : List Bd} {m : Nat} (h : (LO ++ LQ).map Bd.s = S.all.drop S.g) (hm : LO.length + m = S.n) : (LO ++ LQ.take m).map Bd.s = S.out ∧ (LQ.drop m).map Bd.s = S.waits := by
  constructor
  · unfold Sh.out
    rw [← h, ← hm, ← List.map_take, List.take_length_add_append]
  · unfold Sh.waits
    rw [← List.drop_drop, ← h, ← hm, ← List.map_drop, List.drop_length_add_append]

theorem send_post {W : World} {N p q : Nat} {F : Nat → Prop} {S T : Sh} {last m : Nat} {P : Pa} {LO LQ : List Bd} {E : Ending} {w' : World} {r : Value → Value} {v : Value} (h : SendPost W N p q F T.win T.que T.g last P LO LQ m (.returned v) w') (hE : E = .returned (r v))
    (hall : (LO ++ LQ).map Bd.s = T.all.drop T.g) (hm : LO.length + m = T.n) (hml : m ≤ LQ.length) (hlast : last = T.g + LO.length) (hS : S.last = last) (hpa : T.pa = if LO.length + m = 0 then P else P.start) :
    OpPost W N p F T r S.last (S.went T) E w' := by
  obtain ⟨F1, v1, v2, a, cap, e, hR, hK, hF, hi⟩ := h
  cases e
  obtain ⟨e1, e2⟩ := Sh.parts hall hm
  have hl : T.last = last + m := by unfold Sh.last; omega
  have hw : (LQ.take m).map Bd.s = S.went T := by
    unfold Sh.went
    rw [hS, hl, Nat.add_sub_cancel_left, hlast, ← List.drop_drop, ← hall, List.map_append, List.drop_left' (by rw [List.length_map]), List.map_take]
  have hlen : (S.went T).length = m := by rw [← hw, List.length_map, List.length_take]; omega
  refine ⟨F1, a, cap, by rw [hlen]; exact hE, ⟨q, v1, v2, _, _, ?_, e1, e2⟩, hK, hF, ?_⟩
  · rw [hl, hpa]; exact hR
  · rw [hlen, hS, ← hw]; exact hi

section
variable {W : World} {N p n : Nat} {F : Nat → Prop} {S : Sh}

theorem Sh.room_eq (S : Sh) (r : Bool) : S.room r = decide ((S.waits.length : Int) < if r then (S.que : Int) else (S.que : Int) - 1) := rfl

set_option maxRecDepth 20000 in
set_option maxHeartbeats 8000000 in
theorem push_no {b : Bd} {r : Bool} (h : ShAt W N p F S) (ho : S.ok n) (hr : S.room r = false) :
    Calls Try.prog 22 #[.pointer (some ⟨p, 0, none⟩), .slice b.a b.s.size b.c, .bool r] W (OpPost W N p F S (fun v => .tuple #[v, .bool false]) S.last []) := by
  have H := Lib.hid h
  obtain ⟨q, vo, vw, LO, LW, hR, e1, e2⟩ := h
  have RM := Lib.hid (show Calls Try.prog 43 #[.pointer (some ⟨p, 0, none⟩), .bool r] W fun E w' => E = .returned (.bool false) ∧ ∃ n, w' = W.drewN n by
    have := sh_room hR r ho.que
    rw [show (LW.length : Int) = (S.waits.length : Int) by rw [← e2, List.length_map], ← Sh.room_eq, hr] at this
    exact this)
  clear hR e1 e2 hr
  go_enter Try.func22, Try.ntmps22
  go_wp2_with (go_at_call 43; refine RM.out.mono ?_; rintro e w' ⟨rfl, k, rfl⟩)
  go_ret2
  exact ⟨F, none, 0, rfl, H.out.drewN k, (Keep.refl _ _).drewN k, fun j hj => Or.inl hj, ⟨none, 0, [], rfl, rfl, RowV.none _ _ _, fun b hb => by cases hb⟩⟩

theorem OpPost.trans {w w' : World} {F1 : Nat → Prop} {T : Sh} {r : Value → Value} {g : Nat} {ss : List ByteArray} {E : Ending} (hk : Keep F W w) (hF : ∀ k, F1 k → F k ∨ W.heap.size ≤ k) (h : OpPost w N p F1 T r g ss E w') : OpPost W N p F T r g ss E w' := by
  obtain ⟨F2, a, cap, he, hA, hk2, hF2, hi⟩ := h
  refine ⟨F2, a, cap, he, hA, hk.trans hk2 (fun k hk f => (hF k f).elim id (fun l => by omega)), fun k f => ?_, hi.mono (fun j _ hj => ⟨Nat.le_trans hk.size hj.1, hj.2⟩)⟩
  rcases hF2 k f with g | g
  · exact hF k g
  · exact Or.inr (Nat.le_trans hk.size g)

theorem push_done {w w' : World} {q : Nat} {F2 : Nat → Prop} {LO LW : List Bd} {b b2 : Bd} {v : Value} (ho : S.ok n) (e1 : LO.map Bd.s = S.out) (e2 : LW.map Bd.s = S.waits) (hs : b2.s = b.s) (hk : Keep F W w) (hF : ∀ k, F2 k → F k ∨ W.heap.size ≤ k)
    (h : SendPost w N p q F2 S.win S.que S.g S.last S.pa LO (LW ++ [b2]) (min (S.win - LO.length) (LW ++ [b2]).length) (.returned v) w') : OpPost W N p F (S.push b.s) (fun v => .tuple #[v, .bool true]) S.last (S.went (S.push b.s)) (.returned (.tuple #[v, .bool true])) w' := by
  have hLO : LO.length = S.n := by rw [← S.out_len, ← e1, List.length_map]
  have hLW : LW.length = S.all.length - S.g - S.n := by rw [← S.waits_len, ← e2, List.length_map]
  have hn := S.n_le
  have hg := ho.g
  have hw := ho.win
  have hal : (S.push b.s).all.length = S.all.length + 1 := by show (S.all ++ [b.s]).length = _; simp
  have hSn : S.n = min S.win (S.all.length - S.g) := rfl
  have hTn : (S.push b.s).n = min S.win (S.all.length + 1 - S.g) := by
    show min S.win ((S.push b.s).all.length - S.g) = _
    rw [hal]
  have hlw : (LW ++ [b2]).length = LW.length + 1 := by simp
  refine OpPost.trans hk hF (send_post (T := S.push b.s) h rfl ?_ ?_ (Nat.min_le_right _ _) (by show S.last = S.g + _; unfold Sh.last; rw [hLO]) rfl ?_)
  · show _ = (S.all ++ [b.s]).drop S.g
    rw [List.drop_append_of_le_length hg, ← List.append_assoc, List.map_append, List.map_append, e1, e2, List.map_singleton, hs]
    congr 1
    unfold Sh.out Sh.waits
    rw [← List.drop_drop, List.take_append_drop]
  · rw [hlw, hTn]
    omega
  · rw [if_neg (by rw [hlw]; omega)]
    rfl

set_option maxRecDepth 20000 in
set_option maxHeartbeats 8000000 in
theorem push_ok {A : Nat → Prop} {b : Bd} {r : Bool} (h : ShAt W N p F S) (ho : S.ok n) (hn : n ≤ 500) (hr : S.room r = true) (hb : BodyV A W b) (hbs : b.s.size ≤ 30000) :
    Calls Try.prog 22 #[.pointer (some ⟨p, 0, none⟩), .slice b.a b.s.size b.c, .bool r] W (OpPost W N p F (S.push b.s) (fun v => .tuple #[v, .bool true]) S.last (S.went (S.push b.s))) := by
  obtain ⟨i0, hi0, hz0, hz1, hz2⟩ := info_g Try.infoBs
  obtain ⟨q, vo, vw, LO, LW, hR, e1, e2⟩ := h
  have RM := Lib.hid (show Calls Try.prog 43 #[.pointer (some ⟨p, 0, none⟩), .bool r] W fun E w' => E = .returned (.bool true) ∧ ∃ n, w' = W.drewN n by
    have := sh_room hR r ho.que
    rw [show (LW.length : Int) = (S.waits.length : Int) by rw [← e2, List.length_map], ← Sh.room_eq, hr] at this
    exact this)
  have hLO : LO.length = S.n := by rw [← S.out_len, ← e1, List.length_map]
  have hLW : LW.length = S.all.length - S.g - S.n := by rw [← S.waits_len, ← e2, List.length_map]
  have hLW2 : LW.length ≤ 500 := by have := ho.all; omega
  obtain ⟨aw, cw, rfl, hrw⟩ := own_row hR.ow
  have R := Lib.hid hR
  have B := Lib.hid hb
  have E1 := Lib.hid e1
  have E2 := Lib.hid e2
  have HO := Lib.hid ho
  have LLO := Lib.hid hLO
  have LLW := Lib.hid hLW
  clear hR e1 e2 hr hb ho hLO hLW hrw
  go_enter Try.func22, Try.ntmps22
  go_wp2_with fail
  refine RM.out.mono ?_
  rintro e w' ⟨rfl, k0, rfl⟩
  have R1 := Lib.hid (R.out.drewN k0)
  have B1 := Lib.hid (show BodyV A (W.drewN k0) b from B.out.below ⟨rfl, rfl, rfl, Nat.le_refl _, fun _ _ => rfl⟩)
  have K1 := Lib.hid ((Keep.refl F W).drewN k0)
  generalize W.drewN k0 = W1 at *
  clear R B
  go_upto_region 3 with fail
  go_cut [] from 12 to 22 (fun wx => ∃ F2 v2 b2, ShR wx N p q F2 S.win S.que S.g S.last S.pa vo v2 LO (LW ++ [b2]) ∧ b2.s = b.s ∧ Keep F W wx ∧ ∀ j, F2 j → F j ∨ W.heap.size ≤ j)
  case first =>
    have c3 := R1.out.cells.2.2.2.1
    have c3' : W1.drew.cell? ⟨p, 3, none⟩ = some (.slice aw LW.length cw) := c3
    go_region_law (first
      | (refine step_append_lies _ rfl (.tmp 16) (.tmp 19) 27 rfl N 30 i0 _ 1 24 Try.underlying27 hi0 hz0 hz1 hz2 rfl (by decide) _ _ _ (by simp [Act.eval]) (World.ownsRow.alloc O1.out _) ⟨w1.heap.size, 0, none⟩ 1 1 [.slice b2.a b.s.size b2.c] (by simp [Act.eval]) rfl (World.news_of_block (heap_alloc_new _ _)) (by simp [Value.oneCell']) (by omega) (by unfold maxLen; omega) (by omega) (by have := N1.out; simp; omega) _ rfl ?_
         intro g2 cap2 w2 hown2 hgr2 hat2 hlt2
         obtain ⟨r1, r2⟩ := R1.out.join (b := b2) C1.out BD.out (v2 := .slice (some ⟨g2, 0, none⟩) (LW.length + 1) cap2) (by unfold bdV; rw [HS1.out]; exact hown2) hgr2 (fun j e => by
           have e2 : g2 = j := by simpa [Value.ownBlock] using e
           subst e2
           exact hat2.imp id (fun e => Nat.le_of_eq e.symm))
         obtain ⟨u2, v2⟩ := join_at R1.out C1.out hgr2
         have R2 := Lib.hid r1
         have K2 := Lib.hid r2
         clear hown2 hgr2 hat2 hlt2 r1 r2)
      | (go_simp; go_at_call 41; refine (bclone_any W1.drew A b (B1.out.below (drew_below W1)) (by omega)).mono ?_
         rintro e w1 ⟨b2, hs1, rfl, hbd, hb1⟩
         have hb1' : Below W1.heap.size W1 w1 := ⟨hb1.os, hb1.tape, hb1.output, hb1.size, hb1.block⟩
         have HS1 := Lib.hid hs1
         have C1 := Lib.hid hb1'
         have x3 : w1.cell? ⟨p, 3, none⟩ = some (.slice aw LW.length cw) := cell_go c3 hb1'
         have x3a : (w1.alloc (.cells #[.slice b2.a b.s.size b2.c] 30)).cell? ⟨p, 3, none⟩ = some (.slice aw LW.length cw) := cell_go x3 ((Below.refl _ _).alloc (Nat.le_refl _) _)
         have O1 := Lib.hid (own_below R1.out.ow hb1')
         have N1 := Lib.hid (Nat.le_trans R1.out.nle hb1'.size)
         have BD := Lib.hid (show BodyV (fun j => W1.heap.size ≤ j) w1 b2 from hbd)
         clear hs1 hbd hb1 hb1'))
    all_goals go_wp2_with fail
    all_goals go_meet
    all_goals exact ⟨_, _, b2, R2.out, HS1.out, K1.out.trans K2.out (fun _ _ f => f), fun j hj => hj.imp id (fun l => by have := K1.out.size; omega)⟩
  case rest =>
    obtain ⟨F2, v2, b2, r1, hs2, hk2, hF2⟩ := hcut
    have R2 := Lib.hid r1
    have HS2 := Lib.hid hs2
    have K2 := Lib.hid hk2
    have HF2 := Lib.hid hF2
    have SN := Lib.hid (send_any r1 (by unfold Sh.last; rw [LLO.out]) HO.out.win.2 (by rw [LLO.out]; exact S.n_le.1) (by rw [List.length_append, List.length_singleton]; omega) (by have := HO.out.last_le; omega) (fun c hc => by
      rcases List.mem_append.1 hc with hc | hc
      · have := HO.out.small c.s (Sh.mem_waits (by rw [← E2.out]; exact List.mem_map_of_mem hc))
        omega
      · rw [List.mem_singleton.1 hc, hs2]
        omega))
    clear r1 hs2 hk2 hF2 R1
    go_wp2_with fail
    refine SN.out.mono ?_
    intro E w3 hp
    obtain ⟨F3, v3, v4, a3, c3, rfl, q3⟩ := hp
    have PP := Lib.hid (push_done (b := b) HO.out E1.out E2.out HS2.out K2.out HF2.out (show SendPost wc N p q F2 S.win S.que S.g S.last S.pa LO (LW ++ [b2]) _ (.returned (.slice a3 _ c3)) w3 from ⟨F3, v3, v4, a3, c3, rfl, q3⟩))
    clear q3
    generalize min (S.win - LO.length) (LW ++ [b2]).length = mm at *
    go_wp2_with fail
    go_ret2
    exact PP.out

theorem Sh.acks_spec {k : Nat} : S.acks k = true ↔ S.g < k ∧ k ≤ S.last := by unfold Sh.acks; simp

set_option maxRecDepth 20000 in
set_option maxHeartbeats 8000000 in
theorem ack_no {k : Nat} (h : ShAt W N p F S) (hr : S.acks k = false) :
    Calls Try.prog 19 #[.pointer (some ⟨p, 0, none⟩), .int .u64 (k : Int)] W (OpPost W N p F S (fun v => v) S.last []) := by
  have PP := Lib.hid (show OpPost W N p F S (fun v => v) S.last [] (.returned (.slice none 0 0)) W from ⟨F, none, 0, rfl, h, Keep.refl _ _, fun j hj => Or.inl hj, ⟨none, 0, [], rfl, rfl, RowV.none _ _ _, fun b hb => by cases hb⟩⟩)
  obtain ⟨q, vo, vw, LO, LW, hR, e1, e2⟩ := h
  have hLO : LO.length = S.n := by rw [← S.out_len, ← e1, List.length_map]
  obtain ⟨c0, c1, c2, c3, c4, c5⟩ := hR.cells
  obtain ⟨ao, co, rfl, hro⟩ := own_row hR.oo
  have hr2 : ¬ (S.g < k ∧ k ≤ S.last) := fun h => by rw [Sh.acks_spec.2 h] at hr; cases hr
  by_cases h0 : LO.length = 0
  · rw [h0] at c2
    clear hR e1 e2 hLO hro hr hr2 h0
    go_enter Try.func19, Try.ntmps19
    go_wp2_with fail
    go_ret
    exact PP.out
  · obtain ⟨x0, -⟩ := itC_at 0 S.g LO (by omega)
    obtain ⟨bk, off, rfl, hbW, -, k0⟩ := hro.cell _ _ x0
    obtain ⟨g1, hg1⟩ : ∃ g1, S.g + 0 + 1 = g1 := ⟨_, rfl⟩
    rw [hg1] at k0
    obtain ⟨nO, hnO⟩ : ∃ nO, LO.length = nO := ⟨_, rfl⟩
    obtain ⟨la, hla⟩ : ∃ la, S.last = la := ⟨_, rfl⟩
    rw [hnO] at c2
    rw [hla] at c4
    have y0 : W.cell? ⟨bk, off, none⟩ = some (.int .u64 (g1 : Int)) := by simpa using k0
    have d0 : ((nO : Int) == 0) = false := by simp; omega
    have d0' : (nO == 0) = false := by simp; omega
    have d0n : (0 : Int) < (nO : Int) := by omega
    by_cases h1 : k < g1
    · have d1 : decide ((k : Int) < (g1 : Int)) = true := decide_eq_true (by omega)
      have d1' : decide (k < g1) = true := decide_eq_true (by omega)
      clear hR e1 e2 hLO hro hr hr2 h0 x0 k0 hg1 hnO hla h1
      go_enter Try.func19, Try.ntmps19
      go_wp2_with fail
      go_ret
      exact PP.out
    · have d1 : decide ((k : Int) < (g1 : Int)) = false := decide_eq_false (by omega)
      have d1' : decide (k < g1) = false := decide_eq_false (by omega)
      have d2 : decide ((k : Int) > (la : Int)) = true := decide_eq_true (by omega)
      have d2' : decide (la < k) = true := decide_eq_true (by omega)
      clear hR e1 e2 hLO hro hr hr2 h0 x0 k0 hg1 hnO hla h1
      go_enter Try.func19, Try.ntmps19
      go_wp2_with fail
      go_ret
      exact PP.out

theorem ack_done {w w' : World} {q k : Nat} {F2 : Nat → Prop} {LO LW : List Bd} {v : Value} (ho : S.ok n) (hr : S.acks k = true) (e1 : LO.map Bd.s = S.out) (e2 : LW.map Bd.s = S.waits) (hk : Keep F W w) (hF : ∀ k, F2 k → F k ∨ W.heap.size ≤ k)
    (h : SendPost w N p q F2 S.win S.que k S.last S.pa.stop (LO.drop (k - S.g)) LW (min (S.win - (LO.drop (k - S.g)).length) LW.length) (.returned v) w') : OpPost W N p F (S.ack k) (fun v => v) S.last (S.went (S.ack k)) (.returned v) w' := by
  obtain ⟨hg1, hg2⟩ := Sh.acks_spec.1 hr
  have hLO : LO.length = S.n := by rw [← S.out_len, ← e1, List.length_map]
  have hLW : LW.length = S.all.length - S.g - S.n := by rw [← S.waits_len, ← e2, List.length_map]
  have hn := S.n_le
  have hg := ho.g
  have hw := ho.win
  have hla : S.last = S.g + S.n := rfl
  have hSn : S.n = min S.win (S.all.length - S.g) := rfl
  have hTn : (S.ack k).n = min S.win (S.all.length - k) := rfl
  have hld : (LO.drop (k - S.g)).length = S.n - (k - S.g) := by rw [List.length_drop, hLO]
  refine OpPost.trans hk hF (send_post (T := S.ack k) h rfl ?_ ?_ (Nat.min_le_right _ _) (by show S.last = k + _; rw [hld]; omega) rfl ?_)
  · show _ = S.all.drop k
    rw [List.map_append, List.map_drop, e1, e2]
    unfold Sh.out Sh.waits
    rw [List.drop_take, List.drop_drop, show S.g + (k - S.g) = k by omega]
    have := List.take_append_drop (S.n - (k - S.g)) (S.all.drop k)
    rw [List.drop_drop] at this
    rw [show S.g + S.n = k + (S.n - (k - S.g)) by omega]
    exact this
  · rw [hld, hTn, hLW]
    omega
  · show (if S.all.length ≤ k then S.pa.stop else S.pa.stop.start) = _
    rw [hld, hLW]
    by_cases hc : S.all.length ≤ k
    · rw [if_pos hc, if_pos (by omega)]
    · rw [if_neg hc, if_neg (by omega)]

set_option maxRecDepth 20000 in
set_option maxHeartbeats 8000000 in
theorem ack_ok {k : Nat} (h : ShAt W N p F S) (ho : S.ok n) (hn : n ≤ 500) (hr : S.acks k = true) :
    Calls Try.prog 19 #[.pointer (some ⟨p, 0, none⟩), .int .u64 (k : Int)] W (OpPost W N p F (S.ack k) (fun v => v) S.last (S.went (S.ack k))) := by
  obtain ⟨q, vo, vw, LO, LW, hR, e1, e2⟩ := h
  have hLO : LO.length = S.n := by rw [← S.out_len, ← e1, List.length_map]
  have hLW : LW.length = S.all.length - S.g - S.n := by rw [← S.waits_len, ← e2, List.length_map]
  obtain ⟨hg1, hg2⟩ := Sh.acks_spec.1 hr
  have hla0 : S.last = S.g + S.n := rfl
  have hln := ho.last_le
  have hoa := ho.all
  obtain ⟨c0, c1, c2, c3, c4, c5⟩ := hR.cells
  have f2 := hR.c.fz 2
  obtain ⟨ao, co, rfl, hro⟩ := own_row hR.oo
  obtain ⟨x0, -⟩ := itC_at 0 S.g LO (by omega)
  obtain ⟨bk, off, rfl, hbW, -, k0⟩ := hro.cell _ _ x0
  obtain ⟨g1, hg1'⟩ : ∃ g1, S.g + 0 + 1 = g1 := ⟨_, rfl⟩
  rw [hg1'] at k0
  obtain ⟨nO, hnO⟩ : ∃ nO, LO.length = nO := ⟨_, rfl⟩
  obtain ⟨la, hla⟩ : ∃ la, S.last = la := ⟨_, rfl⟩
  obtain ⟨d, hd⟩ : ∃ d, k - g1 = d := ⟨_, rfl⟩
  obtain ⟨e, he⟩ : ∃ e, k - S.g = e := ⟨_, rfl⟩
  rw [hnO] at c2
  rw [hla] at c4
  have y0 : W.cell? ⟨bk, off, none⟩ = some (.int .u64 (g1 : Int)) := by simpa using k0
  have d0 : ((nO : Int) == 0) = false := by simp; omega
  have d0' : (nO == 0) = false := by simp; omega
  have d0n : (0 : Int) < (nO : Int) := by omega
  have d1 : decide ((k : Int) < (g1 : Int)) = false := decide_eq_false (by omega)
  have d1' : decide (k < g1) = false := decide_eq_false (by omega)
  have d2 : decide ((k : Int) > (la : Int)) = false := decide_eq_false (by omega)
  have d2' : decide (la < k) = false := decide_eq_false (by omega)
  have w1 : IntKind.u64.wrap ((k : Int) - (g1 : Int)) = (d : Int) := by rw [wrap_q (by omega)]; omega
  have w2 : IntKind.i64.wrap (d : Int) = (d : Int) := wrap_i (by omega)
  have w3 : IntKind.i64.wrap ((d : Int) + 1) = (e : Int) := by rw [wrap_i (by omega)]; omega
  have DL := Lib.hid (del_items W N _ nO e (itC S.g LO) (by omega) (by omega) (itC_one _ _) (hnO ▸ hR.oo))
  have R := Lib.hid hR
  have HD := Lib.hid (fun (wx : World) (F2 : Nat → Prop) (hk : Keep F W wx) (hF : ∀ k, F2 k → F k ∨ W.heap.size ≤ k) (v : Value) (w' : World) (h : SendPost wx N p q F2 S.win S.que k S.last S.pa.stop (LO.drop (k - S.g)) LW (min (S.win - (LO.drop (k - S.g)).length) LW.length) (.returned v) w') => ack_done ho hr e1 e2 hk hF h)
  have SZ := Lib.hid (show ∀ b ∈ LW, b.s.size ≤ 1000000 from fun c hc => by
    have := ho.small c.s (Sh.mem_waits (by rw [← e2]; exact List.mem_map_of_mem hc))
    omega)
  have hwin := ho.win
  have hnw := S.n_le
  have X1 := Lib.hid hnO
  have X2 := Lib.hid hla
  have X3 := Lib.hid he
  have X4 := Lib.hid hla0
  have X5 := Lib.hid hLO
  have X6 := Lib.hid hLW
  clear hR hro x0 k0 hg1' hnO hla hd he hla0 e1 e2 hLO hLW hr
  go_enter Try.func19, Try.ntmps19
  go_wp2_with (first
    | (go_at_call 36; refine DL.out.mono ?_
       rintro E w4 ⟨a3, c3, rfl, hown, hgr, hat⟩
       have hgr2 : W.grownBy w4 (Value.slice (some ⟨bk, off, none⟩) LO.length co).ownBlock := by rw [X1.out]; exact hgr
       obtain ⟨u2, v2⟩ := ack_at R.out hgr2
       rw [X1.out] at u2
       obtain ⟨r1, r2⟩ := R.out.acked (k := e) (v2 := .slice a3 (nO - e) c3) (by rw [X1.out]; have := X3.out; have := X4.out; have := X5.out; have := X1.out; omega) (by rw [X1.out]; exact hown) hgr2 (by rw [X1.out]; exact hat)
       have R3 := Lib.hid r1
       have K3 := Lib.hid r2
       have t5 := r1.cells.2.2.2.2.2
       clear hown hgr hat r1 r2 hgr2))
  refine (pa_stop R3.out.pa).mono ?_
  intro E w5 hp
  obtain ⟨rfl, h1, hk⟩ := R3.out.alarm hp
  rw [show S.g + e = k by have := X3.out; omega, ← X3.out] at h1
  obtain ⟨F2, h1, hf5⟩ : ∃ F2, ShR w5 N p q F2 S.win S.que k S.last S.pa.stop (.slice a3 (nO - (k - S.g)) c3) vw (LO.drop (k - S.g)) LW ∧ ∀ j, F2 j → F j ∨ W.heap.size ≤ j := ⟨_, h1, fun j hj => hj.imp id (fun l => l.1)⟩
  have K5 := Lib.hid (K3.out.trans hk (fun i hi hf => hf.elim id (fun l => by omega)))
  have F5 := Lib.hid hf5
  have SN := Lib.hid (send_any h1 (by have := X4.out; have := X5.out; have := X3.out; rw [List.length_drop]; omega) hwin.2 (by have := X5.out; rw [List.length_drop]; omega) (by have := X6.out; omega) (by omega) SZ.out)
  clear hp h1 hk hf5 R3 K3
  go_wp2_with fail
  refine SN.out.mono ?_
  intro E w3 hp
  obtain ⟨F3, v3, v4, a4, c4, rfl, q3⟩ := hp
  have PP := Lib.hid (HD.out w5 _ K5.out F5.out _ w3 (show SendPost w5 N p q _ S.win S.que k S.last S.pa.stop (LO.drop (k - S.g)) LW _ (.returned (.slice a4 _ c4)) w3 from ⟨F3, v3, v4, a4, c4, rfl, q3⟩))
  clear q3
  generalize min (S.win - (LO.drop (k - S.g)).length) LW.length = mm at *
  go_wp2_with fail
  go_ret
  exact PP.out
end

end Go.Proofs.Ytfbojcaedcimcaa

/-
  Any call on a ship; what holds of it always; a ship made by the call itself, and what it gave.
-/
namespace Go.Proofs.Ytfbojcaedcimcaa
open Go.RowKit

/-- What a Push, an Ack does, and what goes out. -/
def Sh.pushed (S : Sh) (r : Bool) (s : ByteArray) : Sh := if S.room r then S.push s else S
def Sh.pushI (S : Sh) (r : Bool) (s : ByteArray) : List ByteArray := if S.room r then S.went (S.push s) else []
def Sh.acked (S : Sh) (k : Nat) : Sh := if S.acks k then S.ack k else S
def Sh.ackI (S : Sh) (k : Nat) : List ByteArray := if S.acks k then S.went (S.ack k) else []
def Sh.tickI (S : Sh) : List ByteArray := if S.pa.rings then S.out else []

section
variable {S : Sh} {n : Nat}
theorem Sh.ok.push {s : ByteArray} {r : Bool} (h : S.ok n) (hr : S.room r = true) (hs : s.size ≤ 30000) : (S.push s).ok (n + 1) := by
  have hr2 := of_decide_eq_true (show decide ((S.waits.length : Int) < if r then (S.que : Int) else (S.que : Int) - 1) = true from hr)
  have hr3 : S.waits.length + 1 ≤ S.que := by
    have := h.que
    cases r
    · simp at hr2; omega
    · simp at hr2; omega
  have hal : (S.push s).all.length = S.all.length + 1 := by show (S.all ++ [s]).length = _; simp
  have hg := h.g
  have hpa := h.pa
  refine ⟨h.win, h.que, by show S.g ≤ _; omega, by have := h.all; omega, ?_, h.pa.start.more (by omega), ?_, fun x hx => ?_⟩
  · have h1 := (S.push s).waits_len
    have h2 := S.waits_len
    have h3 : (S.push s).n = min S.win ((S.push s).all.length - S.g) := rfl
    have h4 : S.n = min S.win (S.all.length - S.g) := rfl
    have h5 : (S.push s).g = S.g := rfl
    show (S.push s).waits.length ≤ S.que
    rw [hal] at h1 h3
    omega
  · show 0 < S.pa.start.l ↔ S.g < (S.push s).all.length
    rw [hal]
    refine ⟨fun _ => by omega, fun _ => ?_⟩
    have := hpa.f
    unfold Pa.start
    split
    · show 0 < S.pa.s
      omega
    · omega
  · rcases List.mem_append.1 (show x ∈ S.all ++ [s] from hx) with hx | hx
    · exact h.small x hx
    · rw [List.mem_singleton.1 hx]; exact hs
theorem Sh.ok.ack {k : Nat} (h : S.ok n) (hk : S.acks k = true) : (S.ack k).ok n := by
  obtain ⟨h1, h2⟩ := Sh.acks_spec.1 hk
  have h3 : S.last = S.g + S.n := rfl
  have h4 := S.n_le
  have hg := h.g
  refine ⟨h.win, h.que, by show k ≤ S.all.length; omega, h.all, ?_, ?_, ?_, h.small⟩
  · have e1 := (S.ack k).waits_len
    have e2 := S.waits_len
    have e3 : (S.ack k).n = min S.win (S.all.length - k) := rfl
    have e4 : S.n = min S.win (S.all.length - S.g) := rfl
    have e5 : (S.ack k).g = k := rfl
    have e6 : (S.ack k).all = S.all := rfl
    have e7 := h.low
    show (S.ack k).waits.length ≤ S.que
    rw [e6] at e1
    omega
  · show (if S.all.length ≤ k then S.pa.stop else S.pa.stop.start).ok n
    split
    · exact h.pa.stop
    · exact h.pa.stop.start
  · show 0 < (if S.all.length ≤ k then S.pa.stop else S.pa.stop.start).l ↔ k < S.all.length
    have := h.pa.f
    split
    · refine ⟨fun f => absurd f (Nat.lt_irrefl 0), fun f => by omega⟩
    · refine ⟨fun _ => by omega, fun _ => ?_⟩
      show 0 < S.pa.f
      omega
theorem Sh.ok.tick (h : S.ok n) : S.tick.ok (n + 1) := by
  refine ⟨h.win, h.que, h.g, by show S.all.length ≤ _; have := h.all; omega, h.low, h.pa.tick, ?_, h.small⟩
  show 0 < S.pa.tick.l ↔ S.g < S.all.length
  rw [← h.runs]
  have h1 := h.pa.next
  have h2 := h.pa.f
  unfold Pa.tick
  split
  · exact Iff.rfl
  · split
    · show 0 < S.pa.next ↔ _
      omega
    · show 0 < S.pa.l - 1 ↔ _
      omega
theorem Sh.ok.pushed {s : ByteArray} {r : Bool} (h : S.ok n) (hs : s.size ≤ 30000) : (S.pushed r s).ok (n + 1) := by
  unfold Sh.pushed
  cases hr : S.room r
  · exact h.more (by omega)
  · exact h.push hr hs
theorem Sh.ok.acked {k : Nat} (h : S.ok n) : (S.acked k).ok n := by
  unfold Sh.acked
  cases hr : S.acks k
  · exact h
  · exact h.ack hr
theorem Sh.new_ok {w q f m : Nat} (hw : 1 ≤ w ∧ w ≤ 16) (hq : 2 ≤ q ∧ q ≤ 32) (hf : 1 ≤ f ∧ f ≤ m ∧ m ≤ 1000) : (Sh.new w q f m).ok 0 :=
  ⟨hw, hq, Nat.le_refl _, Nat.le_refl _, by simp [Sh.new, Sh.waits], Pa.new_ok hf, ⟨fun f => absurd f (Nat.lt_irrefl 0), fun f => absurd f (Nat.lt_irrefl 0)⟩, fun s h => by cases h⟩
end

section
variable {W : World} {N p n : Nat} {F : Nat → Prop} {S : Sh}
theorem push_any {A : Nat → Prop} {b : Bd} {r : Bool} (h : ShAt W N p F S) (ho : S.ok n) (hn : n ≤ 500) (hb : BodyV A W b) (hbs : b.s.size ≤ 30000) :
    Calls Try.prog 22 #[.pointer (some ⟨p, 0, none⟩), .slice b.a b.s.size b.c, .bool r] W (OpPost W N p F (S.pushed r b.s) (fun v => .tuple #[v, .bool (S.room r)]) S.last (S.pushI r b.s)) := by
  unfold Sh.pushed Sh.pushI
  cases hr : S.room r
  · exact push_no h ho hr
  · exact push_ok h ho hn hr hb hbs
theorem ack_any {k : Nat} (h : ShAt W N p F S) (ho : S.ok n) (hn : n ≤ 500) :
    Calls Try.prog 19 #[.pointer (some ⟨p, 0, none⟩), .int .u64 (k : Int)] W (OpPost W N p F (S.acked k) (fun v => v) S.last (S.ackI k)) := by
  unfold Sh.acked Sh.ackI
  cases hr : S.acks k
  · exact ack_no h hr
  · exact ack_ok h ho hn hr
theorem tick_any (h : ShAt W N p F S) (ho : S.ok n) (hn : n ≤ 500) :
    Calls Try.prog 28 #[.pointer (some ⟨p, 0, none⟩)] W (OpPost W N p F S.tick (fun v => v) S.g S.tickI) := by
  obtain ⟨q, vo, vw, LO, LW, hR, e1, e2⟩ := h
  have hLO : LO.length = S.n := by rw [← S.out_len, ← e1, List.length_map]
  refine (sh_tick hR (by rw [hLO]; have := S.n_le; have := ho.all; omega) (fun b hb => by
    have := ho.small b.s (Sh.mem_out (by rw [← e1]; exact List.mem_map_of_mem hb))
    omega) ho.pa (by omega)).mono ?_
  rintro E w' ⟨a, cap, w1, h1, h2, rfl, h3, h4⟩
  have hl : (if S.pa.rings = true then LO.length else 0) = S.tickI.length := by
    unfold Sh.tickI
    split
    · rw [hLO, S.out_len]
    · rfl
  have hs : (if S.pa.rings = true then LO.map Bd.s else []) = S.tickI := by unfold Sh.tickI; rw [e1]
  rw [hl] at h4 ⊢
  rw [hs] at h4
  refine ⟨F, a, cap, rfl, ⟨q, vo, vw, LO, LW, h1.below h3, e1, e2⟩, h2.trans (Keep.ofBelow (F := fun _ => False) h3) (fun _ _ f => f.elim), fun j f => Or.inl f, h4.mono (fun j _ hj => ⟨Nat.le_trans h2.size hj, fun f => ?_⟩)⟩
  have := (h1.low j f).2
  omega
theorem out_any (h : ShAt W N p F S) (ho : S.ok n) (hn : n ≤ 500) : Calls Try.prog 23 #[.pointer (some ⟨p, 0, none⟩)] W (CopPost W S.g S.out) := by
  obtain ⟨q, vo, vw, LO, LW, hR, e1, e2⟩ := h
  have hLO : LO.length = S.n := by rw [← S.out_len, ← e1, List.length_map]
  have := sh_out hR (by rw [hLO]; have := S.n_le; have := ho.all; omega) (fun b hb => by
    have := ho.small b.s (Sh.mem_out (by rw [← e1]; exact List.mem_map_of_mem hb))
    omega)
  rwa [e1] at this
theorem waits_any (h : ShAt W N p F S) (ho : S.ok n) (hn : n ≤ 500) : Calls Try.prog 24 #[.pointer (some ⟨p, 0, none⟩)] W (WtPost W S.waits) := by
  obtain ⟨q, vo, vw, LO, LW, hR, e1, e2⟩ := h
  have hLW : LW.length = S.all.length - S.g - S.n := by rw [← S.waits_len, ← e2, List.length_map]
  have := sh_waits hR (by rw [hLW]; have := ho.all; omega) (fun b hb => by
    have := ho.small b.s (Sh.mem_waits (by rw [← e2]; exact List.mem_map_of_mem hb))
    omega)
  rwa [e2] at this
theorem room_any (h : ShAt W N p F S) (ho : S.ok n) (r : Bool) : Calls Try.prog 43 #[.pointer (some ⟨p, 0, none⟩), .bool r] W fun E w' => E = .returned (.bool (S.room r)) ∧ ∃ n, w' = W.drewN n := by
  obtain ⟨q, vo, vw, LO, LW, hR, e1, e2⟩ := h
  have := sh_room hR r ho.que
  rwa [show (LW.length : Int) = (S.waits.length : Int) by rw [← e2, List.length_map], ← Sh.room_eq] at this
theorem last_any (h : ShAt W N p F S) : Calls Try.prog 27 #[.pointer (some ⟨p, 0, none⟩)] W fun E w' => E = .returned (.int .u64 (S.last : Nat)) ∧ w' = W := by
  obtain ⟨q, vo, vw, LO, LW, hR, _⟩ := h
  exact sh_last hR
end

/-! One ship, made by the call; all else below N as it was; and items that it gave. -/
structure Its where
  v : Value
  g : Nat
  ss : List ByteArray
def ShOn (W : World) (N p : Nat) (S : Sh) (L : List Its) (w : World) : Prop := ∃ F, ShAt w N p F S ∧ Below N W w ∧ ∀ x ∈ L, ItR (fun k => ¬ F k) w x.v x.g x.ss

section
variable {W w w' : World} {N p n : Nat} {S T : Sh} {L : List Its}
theorem ShOn.below (h : ShOn W N p S L w) (hb : Below w.heap.size w w') : ShOn W N p S L w' := by
  obtain ⟨F, hA, hB, hI⟩ := h
  exact ⟨F, hA.below hb, hB.trans (hb.mono hA.size.1), fun x hx => (hI x hx).below hb⟩
theorem ShOn.drewN (h : ShOn W N p S L w) (q : Nat) : ShOn W N p S L (w.drewN q) := h.below ⟨rfl, rfl, rfl, Nat.le_refl _, fun _ _ => rfl⟩
theorem ShOn.be (h : ShOn W N p S L w) : Below N W w := h.elim fun _ h => h.2.1
theorem ShOn.nle (h : ShOn W N p S L w) : N ≤ w.heap.size := h.elim fun _ h => h.1.size.1
theorem ShOn.it (h : ShOn W N p S L w) {x : Its} (hx : x ∈ L) : ItR (fun _ => True) w x.v x.g x.ss := h.elim fun _ h => (h.2.2 x hx).mono (fun _ _ _ => trivial)
theorem ShOn.fewer {L' : List Its} (h : ShOn W N p S L w) (hl : ∀ x ∈ L', x ∈ L) : ShOn W N p S L' w := by
  obtain ⟨F, hA, hB, hI⟩ := h
  exact ⟨F, hA, hB, fun x hx => hI x (hl x hx)⟩
theorem ShOn.op {F : Nat → Prop} {r : Value → Value} {g : Nat} {ss : List ByteArray} {E : Ending} (hA : ShAt w N p F S) (hB : Below N W w) (hI : ∀ x ∈ L, ItR (fun k => ¬ F k) w x.v x.g x.ss) (h : OpPost w N p F T r g ss E w') :
    ∃ a cap, E = .returned (r (.slice a ss.length cap)) ∧ ShOn W N p T (⟨.slice a ss.length cap, g, ss⟩ :: L) w' := by
  obtain ⟨F', a, cap, he, hA', hK, hF, hi⟩ := h
  have hs := hA.size
  refine ⟨a, cap, he, F', hA', hB.trans (hK.below hs.1 (fun k f => (hs.2.2 k f).1)), fun x hx => ?_⟩
  rcases List.mem_cons.1 hx with rfl | hx
  · exact hi.mono (fun k _ hk => hk.2)
  · exact (((hI x hx).mono (A' := fun k => ¬ F k ∧ k < w.heap.size) (fun k hk hn => ⟨hn, hk⟩)).carry hK.size (fun k hk hn => hK.block k hk hn.1)).mono (fun k _ hn f => (hF k f).elim hn.1 (fun l => by have := hn.2; omega))

theorem so_push {A : Nat → Prop} {b : Bd} {r : Bool} (h : ShOn W N p S L w) (ho : S.ok n) (hn : n ≤ 500) (hb : BodyV A w b) (hbs : b.s.size ≤ 30000) :
    Calls Try.prog 22 #[.pointer (some ⟨p, 0, none⟩), .slice b.a b.s.size b.c, .bool r] w fun E w' => ∃ a cap, E = .returned (.tuple #[.slice a (S.pushI r b.s).length cap, .bool (S.room r)]) ∧ ShOn W N p (S.pushed r b.s) (⟨.slice a (S.pushI r b.s).length cap, S.last, S.pushI r b.s⟩ :: L) w' := by
  obtain ⟨F, hA, hB, hI⟩ := h
  exact (push_any hA ho hn hb hbs).mono fun E w' hp => ShOn.op hA hB hI hp
theorem so_ack {k : Nat} (h : ShOn W N p S L w) (ho : S.ok n) (hn : n ≤ 500) :
    Calls Try.prog 19 #[.pointer (some ⟨p, 0, none⟩), .int .u64 (k : Int)] w fun E w' => ∃ a cap, E = .returned (.slice a (S.ackI k).length cap) ∧ ShOn W N p (S.acked k) (⟨.slice a (S.ackI k).length cap, S.last, S.ackI k⟩ :: L) w' := by
  obtain ⟨F, hA, hB, hI⟩ := h
  exact (ack_any hA ho hn).mono fun E w' hp => ShOn.op hA hB hI hp
theorem so_tick (h : ShOn W N p S L w) (ho : S.ok n) (hn : n ≤ 500) :
    Calls Try.prog 28 #[.pointer (some ⟨p, 0, none⟩)] w fun E w' => ∃ a cap, E = .returned (.slice a S.tickI.length cap) ∧ ShOn W N p S.tick (⟨.slice a S.tickI.length cap, S.g, S.tickI⟩ :: L) w' := by
  obtain ⟨F, hA, hB, hI⟩ := h
  exact (tick_any hA ho hn).mono fun E w' hp => ShOn.op hA hB hI hp
theorem so_out (h : ShOn W N p S L w) (ho : S.ok n) (hn : n ≤ 500) :
    Calls Try.prog 23 #[.pointer (some ⟨p, 0, none⟩)] w fun E w' => ∃ a cap, E = .returned (.slice a S.out.length cap) ∧ ShOn W N p S (⟨.slice a S.out.length cap, S.g, S.out⟩ :: L) w' ∧ Below w.heap.size w w' := by
  have h0 := h
  obtain ⟨F, hA, hB, hI⟩ := h
  refine (out_any hA ho hn).mono fun E w' hp => ?_
  obtain ⟨a, cap, he, hi, hb⟩ := hp
  refine ⟨a, cap, he, ⟨F, hA.below hb, hB.trans (hb.mono hA.size.1), fun x hx => ?_⟩, hb⟩
  rcases List.mem_cons.1 hx with rfl | hx
  · exact hi.mono (fun k _ hk f => by have := (hA.size.2.2 k f).2; omega)
  · exact (hI x hx).below hb
theorem so_waits (h : ShOn W N p S L w) (ho : S.ok n) (hn : n ≤ 500) :
    Calls Try.prog 24 #[.pointer (some ⟨p, 0, none⟩)] w fun E w' => ∃ a cap, E = .returned (.slice a S.waits.length cap) ∧ ShOn W N p S L w' ∧ Below w.heap.size w w' := by
  have h0 := h
  obtain ⟨F, hA, hB, hI⟩ := h
  exact (waits_any hA ho hn).mono fun E w' ⟨a, cap, he, _, hb⟩ => ⟨a, cap, he, h0.below hb, hb⟩
theorem so_room (h : ShOn W N p S L w) (ho : S.ok n) (r : Bool) : Calls Try.prog 43 #[.pointer (some ⟨p, 0, none⟩), .bool r] w fun E w' => E = .returned (.bool (S.room r)) ∧ ∃ n, w' = w.drewN n := by
  obtain ⟨F, hA, _⟩ := h
  exact room_any hA ho r
theorem so_last (h : ShOn W N p S L w) : Calls Try.prog 27 #[.pointer (some ⟨p, 0, none⟩)] w fun E w' => E = .returned (.int .u64 (S.last : Nat)) ∧ w' = w := by
  obtain ⟨F, hA, _⟩ := h
  exact last_any hA
theorem so_new {a q f m : Nat} (hw : 1 ≤ a ∧ a ≤ 16) (hq : 2 ≤ q ∧ q ≤ 32) (hf : 1 ≤ f ∧ f ≤ m ∧ m ≤ 1000) (hB : Below N W w) (hN : N ≤ w.heap.size) :
    Calls Try.prog 15 #[.int .i64 (a : Int), .int .i64 (q : Int), .int .i64 (f : Int), .int .i64 (m : Int)] w fun E w' => ∃ p, E = .returned (.tuple #[.pointer (some ⟨p, 0, none⟩), .int .i64 0]) ∧ ShOn W N p (Sh.new a q f m) [] w' :=
  (sh_new w N a q f m hN hw hq hf).mono fun _ _ ⟨p, F, he, hA, hb, _⟩ => ⟨p, he, F, hA, hB.trans (hb.mono hN), fun x hx => by cases hx⟩
end

end Go.Proofs.Ytfbojcaedcimcaa

/-
  What goes out between two states of a ship.
-/
namespace Go.Proofs.Ytfbojcaedcimcaa

/-- What goes out between two states is what was pushed, from the one's last on. -/
def Goes (S T : Sh) (ss : List ByteArray) : Prop := T.last = S.last + ss.length ∧ ss = (T.all.drop S.last).take ss.length
theorem goes_none {S T : Sh} (h : T.last = S.last) : Goes S T [] := ⟨h, rfl⟩
theorem goes_went {S T : Sh} {n : Nat} (ho : T.ok n) (h : S.last ≤ T.last) : Goes S T (S.went T) := by
  have h1 := T.n_le
  have h2 := ho.g
  have h3 : T.last = T.g + T.n := rfl
  have hl : (S.went T).length = T.last - S.last := by
    unfold Sh.went
    rw [List.length_take, List.length_drop]
    omega
  exact ⟨by omega, by rw [hl]; rfl⟩
theorem last_push {S : Sh} {s : ByteArray} : S.last ≤ (S.push s).last := by
  have h1 : (S.push s).last = S.g + min S.win ((S.push s).all.length - S.g) := rfl
  have h2 : S.last = S.g + min S.win (S.all.length - S.g) := rfl
  have h3 : (S.push s).all.length = S.all.length + 1 := by show (S.all ++ [s]).length = _; simp
  omega
theorem last_ack {S : Sh} {k n : Nat} (ho : S.ok n) (h : S.acks k = true) : S.last ≤ (S.ack k).last := by
  obtain ⟨h1, h2⟩ := Sh.acks_spec.1 h
  have h3 : (S.ack k).last = k + min S.win (S.all.length - k) := rfl
  have h4 : S.last = S.g + min S.win (S.all.length - S.g) := rfl
  have h5 := ho.g
  omega
theorem goes_pushed {S : Sh} {n : Nat} {r : Bool} {s : ByteArray} (ho : S.ok n) (hs : s.size ≤ 30000) : Goes S (S.pushed r s) (S.pushI r s) := by
  have h1 := ho.pushed (r := r) hs
  unfold Sh.pushed Sh.pushI at *
  cases hr : S.room r
  · exact goes_none rfl
  · rw [hr] at h1
    exact goes_went h1 last_push
theorem goes_acked {S : Sh} {n k : Nat} (ho : S.ok n) : Goes S (S.acked k) (S.ackI k) := by
  have h1 := ho.acked (k := k)
  unfold Sh.acked Sh.ackI at *
  cases hr : S.acks k
  · exact goes_none rfl
  · rw [hr] at h1
    exact goes_went h1 (last_ack ho hr)
theorem all_pushed {S : Sh} {r : Bool} {s : ByteArray} : (S.pushed r s).all = if S.room r then S.all ++ [s] else S.all := by
  unfold Sh.pushed
  cases hr : S.room r
  · rfl
  · rfl
theorem all_acked {S : Sh} {k : Nat} : (S.acked k).all = S.all := by
  unfold Sh.acked
  cases hr : S.acks k
  · rfl
  · rfl
theorem Sh.sum {S : Sh} {n : Nat} (ho : S.ok n) : S.last + S.waits.length = S.all.length := by
  have h1 := S.waits_len
  have h2 := S.n_le
  have h3 := ho.g
  have h4 : S.last = S.g + S.n := rfl
  omega

end Go.Proofs.Ytfbojcaedcimcaa
