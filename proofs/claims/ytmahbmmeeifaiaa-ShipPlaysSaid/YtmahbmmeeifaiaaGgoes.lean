/-
  The document's own ship: as many as there is room for go out.
-/
import Derived.Test.YtmahbmmeeifaiaaGrf
import Derived.Deep.RegionLaw
import Derived.Deep.RegionHeld3
namespace Go.Proofs.Ytmahbmmeeifaiaa
open Go.RowKit

def lenZ : Value → Nat
  | .slice _ n _ => n
  | _ => 0

section
variable {W : World} {N p q : Nat} {X : Nat → Prop} {win que g last : Nat} {P : Pa} {ao aw : Option Addr} {co cw : Nat} {LO LW : List ByteArray}

/-- A longer row of what is out is stored. -/
theorem ReR.longer {w w3 : World} {l2 cap : Nat} {a : Option Addr} {s : ByteArray} (h : ReR w N p q X win que g last P ao co LO aw cw LW) (hl : g + LO.length + 1 = l2) (hb : Below w.heap.size w w3)
    (hown : w3.ownsRow w.heap.size 38 2 (.slice a (LO.length + 1) cap) (LO.length + 1) (itS g LO ++ [.int .u64 (l2 : Int), .string s])) :
    ReR (w3.setCell ⟨p, 3, none⟩ (.slice a (LO.length + 1) cap)) N p q X win que g last P a cap (LO ++ [s]) aw cw LW ∧ Keep (fun k => k = p) w (w3.setCell ⟨p, 3, none⟩ (.slice a (LO.length + 1) cap)) := by
  subst hl
  have hk : Keep (fun k => k = p) w (w3.setCell ⟨p, 3, none⟩ (.slice a (LO.length + 1) cap)) := (Keep.ofBelow (F := fun k => k = p) hb).setCell (p := ⟨p, 3, none⟩) rfl _
  obtain ⟨a', cap', e, hr⟩ := own_row hown
  cases e
  have hlt := hown.lt
  have hpl := h.lt
  have e1 : itS g (LO ++ [s]) = itS g LO ++ [.int .u64 ((g + LO.length + 1 : Nat) : Int), .string s] := by rw [itS_append]; rfl
  have e2 : (LO ++ [s]).length = LO.length + 1 := by simp
  have hr2 : RowV (Free X p q) w3 a cap (LO ++ [s]).length 2 (itS g (LO ++ [s])) := by
    rw [e1, e2]
    exact hr.mono (fun k _ e => by
      have := (hlt k e).1
      exact ⟨by omega, by omega, fun f => by have := h.xs k f; omega⟩)
  refine ⟨h.turn hk ?_ ?_ (h.ow.past hk), hk⟩
  · rw [e2]
    exact ((h.c.below hb).put 3 _).conv (six rfl rfl rfl rfl rfl rfl)
  · exact hr2.carry (by simp [World.setCell]) (fun k _ hA => heap_setCell_other w3 ⟨p, 3, none⟩ k _ hA.1)

/-- The first that waits is taken; its number is the last one's. -/
theorem ReR.shift {w1 w4 : World} {l1 l2 : Nat} {A : Addr} {s : ByteArray} {T : List ByteArray} (h : ReR w1 N p q X win que g l1 P ao co LO aw cw (s :: T)) (hb : Below w1.heap.size (w1.setCell ⟨p, 5, none⟩ (.int .u64 (l2 : Int))) w4)
    (hT : RowV (Free X p q) w4 (some A) (cw - 1) T.length 1 (T.map Value.string)) :
    ReR (w4.setCell ⟨p, 4, none⟩ (.slice (some A) T.length (cw - 1))) N p q X win que g l2 P ao co LO (some A) (cw - 1) T ∧ Keep (fun k => k = p) w1 (w4.setCell ⟨p, 4, none⟩ (.slice (some A) T.length (cw - 1))) := by
  have hs : (w1.setCell ⟨p, 5, none⟩ (.int .u64 (l2 : Int))).heap.size = w1.heap.size := by simp [World.setCell]
  have k1 : Keep (fun k => k = p) w1 (w1.setCell ⟨p, 5, none⟩ (.int .u64 (l2 : Int))) := (Keep.refl (fun k => k = p) _).setCell (p := ⟨p, 5, none⟩) rfl _
  have k2 : Keep (fun k => k = p) w1 w4 := k1.trans (Keep.ofBelow (F := fun _ => False) (by rw [hs]; exact hb)) (fun _ _ f => f.elim)
  have k3 : Keep (fun k => k = p) w1 (w4.setCell ⟨p, 4, none⟩ (.slice (some A) T.length (cw - 1))) := k2.setCell (p := ⟨p, 4, none⟩) rfl _
  have hc : Cel 6 w4 p (updc (reC win que (.slice ao LO.length co) (.slice aw (s :: T).length cw) l1 q) 5 (.int .u64 (l2 : Int))) := (h.c.put 5 _).below (by rw [hs]; exact hb)
  refine ⟨h.turn k3 ((hc.put 4 _).conv (six rfl rfl rfl rfl rfl rfl)) (h.oo.past k3) (hT.carry (by simp [World.setCell]) (fun k _ hA => heap_setCell_other w4 ⟨p, 4, none⟩ k _ hA.1)), k3⟩

/-- What went out, by now. -/
def GoesRel (W : World) (N p q : Nat) (X : Nat → Prop) (win que g last : Nat) (P : Pa) (LO LW : List ByteArray) (m : Nat) (r : Value) (wr : World) : Prop :=
  ∃ (k : Nat) (a : Option Addr) (cap : Nat) (ao : Option Addr) (co : Nat) (aw : Option Addr) (cw : Nat), k ≤ m ∧ r = .slice a k cap ∧ wr.ownsRow W.heap.size 38 2 r k (itS last (LW.take k)) ∧
    ReR wr N p q (fun j => X j ∨ (Value.slice a k cap).ownBlock = some j) win que g (last + k) P ao co (LO ++ LW.take k) aw cw (LW.drop k) ∧ Keep (fun k => k = p) W wr

/-- As many as there is room for are out; these. -/
def GoesPost (W : World) (N p q : Nat) (X : Nat → Prop) (win que g last : Nat) (P : Pa) (LO LW : List ByteArray) (m : Nat) (E : Ending) (w' : World) : Prop :=
  ∃ a cap ao co aw cw, E = .returned (.slice a m cap) ∧ ReR w' N p q X win que g (last + m) P ao co (LO ++ LW.take m) aw cw (LW.drop m) ∧ Keep (fun k => k = p) W w' ∧ RtR (fun k => W.heap.size ≤ k) w' (.slice a m cap) last (LW.take m)

theorem goes_done {w' : World} {m cap : Nat} {a : Option Addr} {ao aw : Option Addr} {co cw : Nat} (hm : m ≤ LW.length) (hO : w'.ownsRow W.heap.size 38 2 (.slice a m cap) m (itS last (LW.take m)))
    (hR : ReR w' N p q (fun j => X j ∨ (Value.slice a m cap).ownBlock = some j) win que g (last + m) P ao co (LO ++ LW.take m) aw cw (LW.drop m)) (hK : Keep (fun k => k = p) W w') : GoesPost W N p q X win que g last P LO LW m (.returned (.slice a m cap)) w' := by
  obtain ⟨a2, c2, e, hr⟩ := own_row hO
  cases e
  have hl : (LW.take m).length = m := by rw [List.length_take]; omega
  exact ⟨a, cap, ao, co, aw, cw, rfl, hR.less (fun k f => Or.inl f), hK, ⟨a, cap, by rw [hl], by rw [hl]; exact hr.mono (fun k _ e => (hO.lt k e).1)⟩⟩

theorem goes_step {w7 w8 : World} {m k l2 g8 cap cap8 c3 cw3 : Nat} {a a3 aw3 : Option Addr} {s : ByteArray} {o : Obj} (hR : ReR w7 N p q (fun j => X j ∨ (Value.slice a k cap).ownBlock = some j) win que g l2 P a3 c3 (LO ++ LW.take k ++ [s]) aw3 cw3 (LW.drop (k + 1))) (hK : Keep (fun k => k = p) W w7)
    (hlo : ∀ j, (Value.slice a k cap).ownBlock = some j → W.heap.size ≤ j) (hl : last + k + 1 = l2) (hk : k < LW.length) (hs : LW[k]'hk = s) (hkm : k < m)
    (hown : w8.ownsRow W.heap.size 38 2 (.slice (some ⟨g8, 0, none⟩) (k + 1) cap8) (k + 1) (itS last (LW.take k) ++ [.int .u64 (l2 : Int), .string s])) (hgr : (w7.alloc o).grownBy w8 (Value.slice a k cap).ownBlock) (hat : (Value.slice a k cap).ownBlock = some g8 ∨ (w7.alloc o).heap.size ≤ g8) :
    GoesRel W N p q X win que g last P LO LW m (.slice (some ⟨g8, 0, none⟩) (k + 1) cap8) w8 := by
  subst hs hl
  have hal : (w7.alloc o).heap.size = w7.heap.size + 1 := World.size_alloc ..
  have hsz := hgr.size
  have hlt := hown.lt
  have hlk : (LW.take k).length = k := by rw [List.length_take]; omega
  have hxs := hR.xs
  have ht : LW.take (k + 1) = LW.take k ++ [LW[k]] := List.take_succ_eq_append_getElem hk
  refine ⟨k + 1, some ⟨g8, 0, none⟩, cap8, a3, c3, aw3, cw3, by omega, rfl, ?_, ?_, ?_⟩
  · rw [ht, itS_append, hlk]
    exact hown
  · rw [show last + (k + 1) = last + k + 1 by omega, ht, ← List.append_assoc]
    refine hR.carry (by omega) (fun j hj hn => (hgr.block j (by omega) (fun e => hn (Or.inr e.symm))).trans (Below.heap_alloc _ _ _ hj)) (fun j f => ?_) (fun j f => ?_)
    · rcases f with f | f
      · exact Or.inl (Or.inl f)
      · have e : g8 = j := by simpa [Value.ownBlock] using f
        subst e
        exact hat.imp Or.inr (fun l => by omega)
    · rcases f with f | f
      · have := hxs j (Or.inl f)
        omega
      · exact (hlt j f).2
  · exact (hK.alloc o).grown hgr (fun j e => Or.inr (hlo j e))

set_option maxRecDepth 20000 in
set_option maxHeartbeats 8000000 in
theorem goes_any (h : ReR W N p q X win que g last P ao co LO aw cw LW) (hlast : last = g + LO.length) (hwin : win ≤ 16) (hfit : LO.length ≤ win) (hLW : LW.length ≤ 1000) (hbig : last ≤ 1000000000) :
    Calls Try.prog 33 #[.pointer (some ⟨p, 0, none⟩)] W (GoesPost W N p q X win que g last P LO LW (min (win - LO.length) LW.length)) := by
  obtain ⟨i0, hi0, hz0, hz1, hz2⟩ := info_g Try.infoRt
  obtain ⟨m, hm⟩ : ∃ m, min (win - LO.length) LW.length = m := ⟨_, rfl⟩
  have hmw : m ≤ LW.length := by omega
  have H := Lib.hid h
  have HL := Lib.hid hlast
  have M := Lib.hid hm
  rw [hm]
  clear h hlast hm
  go_enter Try.func33, Try.ntmps33
  go_wp2_with fail
  go_loopw [3] (fun r wr => GoesRel W N p q X win que g last P LO LW m r wr) (fun r _ => m - lenZ r)
  case atStart => exact ⟨0, none, 0, ao, co, aw, cw, Nat.zero_le _, rfl, World.ownsRow_nil .., by rw [List.take_zero, List.append_nil, List.drop_zero]; exact H.out.carry (Nat.le_refl _) (fun _ _ _ => rfl) (fun k f => f.imp id (fun e => by cases e)) (fun k f => f.elim (H.out.xs k) (fun e => by cases e)), Keep.refl _ _⟩
  case round =>
    obtain ⟨k, a, cap, ao1, co1, aw1, cw1, hk, rfl, hO, hR, hK⟩ := hrel
    obtain ⟨nO, hnO⟩ : ∃ nO, (LO ++ LW.take k).length = nO := ⟨_, rfl⟩
    obtain ⟨nw, hnw⟩ : ∃ nw, (LW.drop k).length = nw := ⟨_, rfl⟩
    have eO : nO = LO.length + k := by rw [← hnO, List.length_append, List.length_take]; omega
    have eW : nw = LW.length - k := by rw [← hnw, List.length_drop]
    obtain ⟨c0, c1, c2, c3, c4, c5⟩ := hR.cells
    rw [hnO] at c3
    rw [hnw] at c4
    have R := Lib.hid hR
    have O := Lib.hid hO
    have K := Lib.hid hK
    have NO := Lib.hid hnO
    have NW := Lib.hid hnw
    have EO := Lib.hid eO
    have EW := Lib.hid eW
    have HK := Lib.hid hk
    clear hR hO hK hnO hnw eO eW H c1 c2 c5
    go_upto_region 2 with fail
    go_cut [22] from 5 to 22 (fun v wx => v = .bool (decide (k < m)) ∧ ∃ n, wx = wr.drewN n)
    case first =>
      have e1 := EO.out
      have e2 := EW.out
      have e3 := M.out
      by_cases h1 : 0 < nw
      · have d1 : decide ((nw : Int) > 0) = true := decide_eq_true (by omega)
        have d1' : decide (0 < nw) = true := decide_eq_true h1
        by_cases h2 : nO < win
        · have d2 : decide ((nO : Int) < (win : Int)) = true := decide_eq_true (by omega)
          have d2' : decide (nO < win) = true := decide_eq_true h2
          have D := Lib.hid (show decide (k < m) = true from decide_eq_true (by omega))
          clear e1 e2 e3 h1 h2
          go_quiet (fail)
          go_wp2_with fail
          go_meet
          exact ⟨by rw [D.out], _, rfl⟩
        · have d2 : decide ((nO : Int) < (win : Int)) = false := decide_eq_false (by omega)
          have d2' : decide (nO < win) = false := decide_eq_false h2
          have D := Lib.hid (show decide (k < m) = false from decide_eq_false (by have := HK.out; omega))
          clear e1 e2 e3 h1 h2
          go_quiet (fail)
          go_wp2_with fail
          go_meet
          exact ⟨by rw [D.out], _, rfl⟩
      · have d1 : decide ((nw : Int) > 0) = false := decide_eq_false (by omega)
        have d1' : decide (0 < nw) = false := decide_eq_false h1
        have D := Lib.hid (show decide (k < m) = false from decide_eq_false (by have := HK.out; omega))
        clear e1 e2 e3 h1
        go_quiet (fail)
        go_wp2_with fail
        go_meet
        exact ⟨by rw [D.out], _, rfl⟩
    case rest =>
      obtain ⟨rfl, n, rfl⟩ := hcut
      have R1 := Lib.hid (R.out.drewN n)
      have O1 := Lib.hid (own_below O.out (w' := wr.drewN n) ⟨rfl, rfl, rfl, Nat.le_refl _, fun _ _ => rfl⟩)
      have K1 := Lib.hid (K.out.drewN n)
      generalize wr.drewN n = w1 at *
      clear R O K c0 c3 c4
      have hk := HK.out
      by_cases hlt : k < m
      · have dk : decide (k < m) = true := decide_eq_true hlt
        rw [dk]
        have hkw : k < LW.length := by omega
        obtain ⟨s, hs⟩ : ∃ s, LW[k] = s := ⟨_, rfl⟩
        obtain ⟨l2, hl2⟩ : ∃ l2, last + k + 1 = l2 := ⟨_, rfl⟩
        obtain ⟨l1, hl1⟩ : ∃ l1, last + k = l1 := ⟨_, rfl⟩
        obtain ⟨t1, ht1⟩ : ∃ t1, (LW.drop (k + 1)).length = t1 := ⟨_, rfl⟩
        have hr1 := R1.out
        rw [List.drop_eq_getElem_cons hkw, hs, hl1] at hr1
        obtain ⟨b, off, rfl, hbW, hbF, k0⟩ := hr1.ow.cell 0 (.string s) rfl
        obtain ⟨A, hA⟩ : ∃ A : Addr, (if cw1 = 1 then some (⟨b, off, none⟩ : Addr) else some ⟨b, off + 1, none⟩) = some A := by split <;> exact ⟨_, rfl⟩
        have hD := hr1.ow.drop 1 (by simp)
        have hD2 : RowV (Free (fun j => X j ∨ (Value.slice a k cap).ownBlock = some j) p q) w1 (some A) (cw1 - 1) (LW.drop (k + 1)).length 1 ((LW.drop (k + 1)).map Value.string) := by
          have e : (if cw1 = 1 then some (⟨b, off, none⟩ : Addr) else (some (⟨b, off, none⟩ : Addr)).map (·.add (1 * 1))) = some A := by rw [← hA]; simp [Addr.add_lit]
          rw [e] at hD
          exact hD
        have hfit := hr1.ow.fit
        have hmax := hr1.ow.max
        unfold maxLen at hmax
        rw [List.length_cons, ht1] at hfit
        obtain ⟨c0, c1, c2, c3, c4, c5⟩ := hr1.cells
        rw [List.length_cons, ht1] at c4
        have f5 := hr1.c.fz 5
        have hbp : b ≠ p := hbF.1
        have y0 : w1.cell? ⟨b, off, none⟩ = some (.string s) := by simpa using k0
        have hw : IntKind.u64.wrap ((l1 : Int) + 1) = (l2 : Int) := by rw [wrap_qr (by omega)]; omega
        have r1p : (Value.slice a k cap).ownBlock ≠ some p := fun e => hr1.nx.1 (Or.inr e)
        have R2 := Lib.hid hr1
        have D2 := Lib.hid hD2
        have HS := Lib.hid hs
        have L1 := Lib.hid hl1
        have L2 := Lib.hid hl2
        have T1 := Lib.hid ht1
        have RP := Lib.hid r1p
        have hlt0 := hlt
        clear hr1 hbF k0 hD hD2 hs hl1 hl2 ht1 r1p R1 hk hlt
        go_upto_region 4 with fail
        obtain ⟨w2, hw2⟩ : ∃ w2, w2 = w1.setCell ⟨p, 5, none⟩ (.int .u64 (l2 : Int)) := ⟨_, rfl⟩
        have C2 := R2.out.c.put 5 (.int .u64 (l2 : Int))
        rw [← hw2] at C2 ⊢
        have z5 : w2.cell? ⟨p, 5, none⟩ = some (.int .u64 (l2 : Int)) := C2.c 5 (by decide)
        have z4 : w2.cell? ⟨p, 4, none⟩ = some (.slice (some ⟨b, off, none⟩) (t1 + 1) cw1) := by rw [C2.c 4 (by decide), ← T1.out]; rfl
        have z0 : w2.cell? ⟨b, off, none⟩ = some (.string s) := by rw [hw2]; exact (World.cell?_setCell_other w1 _ _ _ (fun e => by cases e; exact hbp rfl)).trans y0
        have hsz : w2.heap.size = w1.heap.size := by rw [hw2]; simp [World.setCell]
        have HW2 := Lib.hid hw2
        have SZ := Lib.hid hsz
        clear C2 hw2 hsz c0 c1 c2 c3 c4 c5 f5 y0 hw
        have t0 : (0 : Int) < (t1 : Int) + 1 := by omega
        have ba : Below w2.heap.size w2 (w2.alloc (.cells #[.int .u64 0, .string ⟨#[]⟩] 38)) := (Below.refl _ _).alloc (Nat.le_refl _) _
        have z5a := cell_go z5 ba
        have z4a := cell_go z4 ba
        have z0a := cell_go z0 ba
        clear ba
        go_cut [4] from 30 to 40 (fun v wx => ∃ xb, v = .pointer (some ⟨xb, 0, none⟩) ∧ w2.heap.size ≤ xb ∧ Below w2.heap.size w2 wx ∧ wx.cell? ⟨xb, 0, none⟩ = some (.int .u64 (l2 : Int)) ∧ wx.cell? ⟨xb, 1, none⟩ = some (.string s))
        case first =>
          go_region
          all_goals go_wp2_with fail
          all_goals go_meet
          all_goals exact ⟨_, rfl, Nat.le_refl _, ((Below.refl _ _).alloc (Nat.le_refl _) _).drew, by simp, by simp⟩
        case rest =>
          obtain ⟨xb, rfl, hxb, hbe, x0, x1⟩ := hcut
          have hbe1 : Below w1.heap.size (w1.setCell ⟨p, 5, none⟩ (.int .u64 (l2 : Int))) wc := by rw [← HW2.out, ← SZ.out]; exact hbe
          have hk14 : Keep (fun k => k = p) w1 wc := ((Keep.refl (fun k => k = p) w1).setCell (p := ⟨p, 5, none⟩) rfl (.int .u64 (l2 : Int))).trans (Keep.ofBelow (F := fun _ => False) (by rw [← HW2.out] at hbe1 ⊢; rw [SZ.out]; exact hbe1)) (fun _ _ f => f.elim)
          obtain ⟨r5, k5⟩ := R2.out.shift hbe1 (D2.out.past hk14)
          have y4 : wc.cell? ⟨p, 4, none⟩ = some (.slice (some ⟨b, off, none⟩) (t1 + 1) cw1) := cell_go z4 hbe
          have f4 : wc.frozen? ⟨p, 4, none⟩ = false := by
            have : w2.frozen? ⟨p, 4, none⟩ = false := by rw [HW2.out]; exact (R2.out.c.put 5 _).fz 4
            exact (World.frozen?_of_block (a := ⟨p, 4, none⟩) (hbe.block p (cell_lt z4))).trans this
          rw [T1.out] at r5 k5
          have R5a := Lib.hid r5
          have K5 := Lib.hid (K1.out.trans k5 (fun _ _ f => f))
          have X0 := Lib.hid ((Keep.refl (fun k => k = p) wc).setCell (p := ⟨p, 4, none⟩) rfl (.slice (some A) t1 (cw1 - 1)))
          have XL := Lib.hid (show xb < wc.heap.size from cell_lt x0)
          have XP := Lib.hid (show xb ≠ p from fun e => by have := R2.out.lt.1; have := SZ.out; omega)
          have O5a := Lib.hid (own_carry (w' := wc.setCell ⟨p, 4, none⟩ (.slice (some A) t1 (cw1 - 1))) O1.out (fun j hj => k5.block j (O1.out.lt j hj).2 (fun e => RP.out (e ▸ hj))))
          have j1 : (1 : Int) ≤ (t1 : Int) + 1 := by omega
          have j2 : (t1 : Int) + 1 ≤ (cw1 : Int) := by omega
          have j3 : 1 ≤ cw1 := by omega
          have i1 : (1 : Int) ≤ ((t1 + 1 : Nat) : Int) := by omega
          have i2 : ((t1 + 1 : Nat) : Int) ≤ (cw1 : Int) := by omega
          clear hbe1 hk14 r5 k5 z4 z5 z0 z4a z5a z0a hbe O1 K1 D2 R2
          go_upto_region 6 with fail
          obtain ⟨w5, hw5⟩ : ∃ w5, w5 = wc.setCell ⟨p, 4, none⟩ (.slice (some A) t1 (cw1 - 1)) := ⟨_, rfl⟩
          rw [← hw5] at R5a K5 X0 O5a ⊢
          have HC := Lib.hid (show w5.cell? ⟨p, 3, none⟩ = some (.slice ao1 nO co1) by rw [R5a.out.cells.2.2.2.1, NO.out])
          have HX0 := Lib.hid (show w5.cell? ⟨xb, 0, none⟩ = some (.int .u64 (l2 : Int)) from (X0.out.cell (p := ⟨xb, 0, none⟩) XL.out XP.out).trans x0)
          have HX1 := Lib.hid (show w5.cell? ⟨xb, 1, none⟩ = some (.string s) from (X0.out.cell (p := ⟨xb, 1, none⟩) XL.out XP.out).trans x1)
          have hpW := R5a.out.lt.1
          have hx5 : xb < w5.heap.size := Nat.lt_of_lt_of_le XL.out X0.out.size
          obtain ⟨csO, hcs⟩ : ∃ csO, itS g (LO ++ LW.take k) = csO := ⟨_, rfl⟩
          have LN := Lib.hid (show csO.length = nO * 2 by rw [← hcs, itS_len, NO.out])
          have ON := Lib.hid (show ∀ u ∈ csO, u.oneCell' = true by rw [← hcs]; exact itS_one _ _)
          have SL := Lib.hid (show RowV (Free (fun j => X j ∨ (Value.slice a k cap).ownBlock = some j) p q) w5 ao1 co1 nO 2 csO by rw [← hcs, ← NO.out]; exact R5a.out.oo)
          have hnO2 : nO ≤ 2000 := by have := NO.out; rw [List.length_append, List.length_take] at this; omega
          have RPF := Lib.hid (show ∀ (w3 : World) (a3 : Option Addr) (cap3 : Nat), Below w5.heap.size w5 w3 → w3.ownsRow w5.heap.size 38 2 (.slice a3 (nO + 1) cap3) (nO + 1) (csO ++ [.int .u64 (l2 : Int), .string s]) →
              ReR (w3.setCell ⟨p, 3, none⟩ (.slice a3 (nO + 1) cap3)) N p q (fun j => X j ∨ (Value.slice a k cap).ownBlock = some j) win que g l2 P a3 cap3 (LO ++ LW.take k ++ [s]) (some A) (cw1 - 1) (LW.drop (k + 1)) ∧ Keep (fun k => k = p) w5 (w3.setCell ⟨p, 3, none⟩ (.slice a3 (nO + 1) cap3)) by
            rw [← NO.out, ← hcs]
            intro w3 a3 cap3 h1 h2
            exact R5a.out.longer (by have := HL.out; have := L2.out; rw [List.length_append, List.length_take]; omega) h1 h2)
          have R5 := R5a
          have OA := Lib.hid (own_below (own_none w5 38 w5.heap.size 2 (Nat.le_refl _)) (drew_below _))
          have OB := Lib.hid (own_below (own_below (own_none w5 38 w5.heap.size 2 (Nat.le_refl _)) ((Below.refl _ _).alloc (Nat.le_refl _) (.cells #[.int .u64 (l2 : Int), .string s] 38))) (drew_below _))
          have OC := Lib.hid (own_below (own_none (w5.alloc (.cells #[.int .u64 (l2 : Int), .string s] 38)) 38 w5.heap.size 2 (by simp)) (drew_below _))
          have LB := Lib.hid ((row_lit2 (w5.alloc (.cells #[] 38)) (.int .u64 (l2 : Int)) (.string s) #[.int .u64 (l2 : Int), .string s] 38 rfl).below (drew_below _))
          have LC := Lib.hid (((row_lit2 w5 (.int .u64 (l2 : Int)) (.string s) #[.int .u64 (l2 : Int), .string s] 38 rfl).below ((Below.refl _ _).alloc (Nat.le_refl _) (.cells #[] 38))).below (drew_below _))
          clear hw5 R5a x0 x1 y4 f4 hcs X0
          go_cut [] from 49 to 60 (fun wx => ∃ a3 c3, ReR wx N p q (fun j => X j ∨ (Value.slice a k cap).ownBlock = some j) win que g l2 P a3 c3 (LO ++ LW.take k ++ [s]) (some A) (cw1 - 1) (LW.drop (k + 1)) ∧ Keep (fun k => k = p) w5 wx)
          case first =>
            refine wp_region_noPanic ?_
            refine wp_region_z (S := (fun w' => w'.cell? ⟨p, 3, none⟩ = some (.slice ao1 nO co1) ∧ w'.cell? ⟨xb, 0, none⟩ = some (.int .u64 (l2 : Int)) ∧ w'.cell? ⟨xb, 1, none⟩ = some (.string s) ∧ Hid (Below w5.heap.size w5 w'))) (z := 12) (by kernel_rfl) ?_ (fun hHeld => ?_)
            · exact ⟨HC.out, HX0.out, HX1.out, Lib.hid (drew_below w5)⟩
            refine anyZ_take (i := 0) (oi := { dst := some 49, op := Op.move (Operand.tmp 0), type := 44, pos := "ref.go:175", after := #[], guard := none }) (v := ?_) rfl (by kernel_rfl) (by kernel_rfl) (by kernel_rfl) (by kernel_rfl) (fun _ _ _ h => h) (Or.inl ⟨by rfl, ?_⟩) (by assumption) ?_
            rotate_left
            · (intro w hSw; (try dsimp only at hSw); go_simp; try with_reducible rfl)
            ((try simp only [Act.put]); (try simp only [List.setIfInBounds_toArray]); (try simp only [List.set_cons_succ]); (try simp only [List.set_cons_zero]))
            refine anyZ_take (i := 2) (oi := { dst := some 51, op := Op.move (Operand.tmp 0), type := 44, pos := "ref.go:175", after := #[], guard := none }) (v := ?_) rfl (by kernel_rfl) (by kernel_rfl) (by kernel_rfl) (by kernel_rfl) (fun _ _ _ h => h) (Or.inl ⟨by rfl, ?_⟩) (by assumption) ?_
            rotate_left
            · (intro w hSw; (try dsimp only at hSw); go_simp; try with_reducible rfl)
            ((try simp only [Act.put]); (try simp only [List.setIfInBounds_toArray]); (try simp only [List.set_cons_succ]); (try simp only [List.set_cons_zero]))
            refine anyZ_take (i := 3) (oi := { dst := some 52, op := Op.nilCheck (Operand.tmp 51), type := 0, pos := "ref.go:175", after := #[{ on := 2, ground := Ground.data }], guard := none }) (v := ?_) rfl (by kernel_rfl) (by kernel_rfl) (by kernel_rfl) (by kernel_rfl) (fun _ _ _ h => h) (Or.inl ⟨by rfl, ?_⟩) (by assumption) ?_
            rotate_left
            · (intro w hSw; (try dsimp only at hSw); go_simp; try with_reducible rfl)
            ((try simp only [Act.put]); (try simp only [List.setIfInBounds_toArray]); (try simp only [List.set_cons_succ]); (try simp only [List.set_cons_zero]))
            refine anyZ_take (i := 4) (oi := { dst := some 53, op := Op.fieldAddr 55 (Operand.tmp 52) 3, type := 0, pos := "ref.go:175", after := #[{ on := 3, ground := Ground.data }], guard := none }) (v := ?_) rfl (by kernel_rfl) (by kernel_rfl) (by kernel_rfl) (by kernel_rfl) (fun _ _ _ h => h) (Or.inl ⟨by rfl, ?_⟩) (by assumption) ?_
            rotate_left
            · (intro w hSw; (try dsimp only at hSw); go_simp; try with_reducible rfl)
            ((try simp only [Act.put]); (try simp only [List.setIfInBounds_toArray]); (try simp only [List.set_cons_succ]); (try simp only [List.set_cons_zero]))
            refine anyZ_take (i := 5) (oi := { dst := some 54, op := Op.load 39 (Operand.tmp 53), type := 39, pos := "ref.go:175", after := #[{ on := 4, ground := Ground.data }], guard := none }) (v := ?_) rfl (by kernel_rfl) (by kernel_rfl) (by kernel_rfl) (by kernel_rfl) (fun _ _ _ h => h) (Or.inl ⟨by rfl, ?_⟩) (by assumption) ?_
            rotate_left
            · (intro w hSw; (try dsimp only at hSw); go_simp; try with_reducible rfl)
            ((try simp only [Act.put]); (try simp only [List.setIfInBounds_toArray]); (try simp only [List.set_cons_succ]); (try simp only [List.set_cons_zero]))
            refine anyZ_take (i := 7) (oi := { dst := some 56, op := Op.load 38 (Operand.tmp 4), type := 38, pos := "ref.go:175", after := #[], guard := none }) (v := ?_) rfl (by kernel_rfl) (by kernel_rfl) (by kernel_rfl) (by kernel_rfl) (fun _ _ _ h => h) (Or.inl ⟨by rfl, ?_⟩) (by assumption) ?_
            rotate_left
            · (intro w hSw; (try dsimp only at hSw); go_simp; try with_reducible rfl)
            ((try simp only [Act.put]); (try simp only [List.setIfInBounds_toArray]); (try simp only [List.set_cons_succ]); (try simp only [List.set_cons_zero]))
            refine anyZ_ready (rs := [1, 8]) (by kernel_rfl) (by simp) ?_
            refine AllZ.cons (o := { dst := some 50, op := Op.buildSlice 39 0 #[], type := 39, pos := "ref.go:175", after := #[], guard := none }) rfl (fun K hK => ?_) (AllZ.cons (o := { dst := some 57, op := Op.buildSlice 39 1 #[(0, Operand.tmp 56)], type := 39, pos := "ref.go:175", after := #[{ on := 7, ground := Ground.data }], guard := none }) rfl (fun K hK => ?_) AllZ.nil)
            · skip
              go_simp
              refine hK.out _ _ ?_ (fun hNew => ?_)
              · first | exact hHeld | exact ⟨cell_go hHeld.1 ((Below.refl _ _).alloc (Nat.le_refl _) _), cell_go hHeld.2.1 ((Below.refl _ _).alloc (Nat.le_refl _) _), cell_go hHeld.2.2.1 ((Below.refl _ _).alloc (Nat.le_refl _) _), Lib.hid ((Hid.out hHeld.2.2.2).alloc (Hid.out hHeld.2.2.2).size _)⟩ | exact ⟨cell_go HC.out B3.out, cell_go HX0.out B3.out, cell_go HX1.out B3.out, B3⟩ | exact ⟨cell_go HC.out B2.out, cell_go HX0.out B2.out, cell_go HX1.out B2.out, B2⟩
              clear hK K
              replace hHeld := hNew
              clear hNew
              ((try simp only [Act.put]); (try simp only [List.setIfInBounds_toArray]); (try simp only [List.set_cons_succ]); (try simp only [List.set_cons_zero]))
              refine anyZ_ready (rs := [6, 8]) (by kernel_rfl) (by simp) ?_
              refine AllZ.cons (o := { dst := some 55, op := Op.call { callee := Callee.builtin Builtin.append, args := #[Operand.tmp 50, Operand.tmp 54], argTypes := #[39, 39] }, type := 39, pos := "ref.go:175", after := #[{ on := 1, ground := Ground.data }, { on := 5, ground := Ground.data }], guard := none }) rfl (fun K hK => ?_) (AllZ.cons (o := { dst := some 57, op := Op.buildSlice 39 1 #[(0, Operand.tmp 56)], type := 39, pos := "ref.go:175", after := #[{ on := 7, ground := Ground.data }], guard := none }) rfl (fun K hK => ?_) AllZ.nil)
              · skip
                refine step_append_at rfl (.tmp 50) (.tmp 54) 39 rfl w5.heap.size 38 i0 _ 2 24 Try.underlying39 hi0 hz0 hz1 hz2 rfl (by decide) _ _ _ (by first | (simp [Act.eval]; done) | (simp [Act.eval, Act.put]; done)) OA.out ao1 nO co1 csO (by first | (simp [Act.eval]; done) | (simp [Act.eval, Act.put]; done)) LN.out (SL.out.below (Hid.out hHeld.2.2.2)).empty (SL.out.below (Hid.out hHeld.2.2.2)).news ON.out (by unfold maxLen; omega) (by omega) (Hid.out hHeld.2.2.2).size ?_
                intro a2 cap2 w2 hown2 hgr2 hat2
                have hb2 := (Hid.out hHeld.2.2.2).grown hgr2 (Hid.out hHeld.2.2.2).size (fun k h => (OA.out.lt k h).1)
                have O2 := Lib.hid (show w2.ownsRow w5.heap.size 38 2 (.slice a2 (0 + nO) cap2) nO csO by rw [Nat.zero_add, List.nil_append] at hown2; rw [Nat.zero_add]; exact hown2)
                have B2 := Lib.hid hb2
                have L2 := Lib.hid (row_lit2 w2 (.int .u64 (l2 : Int)) (.string s) #[.int .u64 (l2 : Int), .string s] 38 rfl)
                have O3 := Lib.hid (own_below O2.out ((Below.refl _ w2).alloc (Nat.le_refl _) (.cells #[.int .u64 (l2 : Int), .string s] 38)))
                clear hown2 hgr2 hat2 hb2
                refine hK.out _ _ ?_ (fun hNew => ?_)
                · first | exact hHeld | exact ⟨cell_go hHeld.1 ((Below.refl _ _).alloc (Nat.le_refl _) _), cell_go hHeld.2.1 ((Below.refl _ _).alloc (Nat.le_refl _) _), cell_go hHeld.2.2.1 ((Below.refl _ _).alloc (Nat.le_refl _) _), Lib.hid ((Hid.out hHeld.2.2.2).alloc (Hid.out hHeld.2.2.2).size _)⟩ | exact ⟨cell_go HC.out B3.out, cell_go HX0.out B3.out, cell_go HX1.out B3.out, B3⟩ | exact ⟨cell_go HC.out B2.out, cell_go HX0.out B2.out, cell_go HX1.out B2.out, B2⟩
                clear hK K
                replace hHeld := hNew
                clear hNew
                ((try simp only [Act.put]); (try simp only [List.setIfInBounds_toArray]); (try simp only [List.set_cons_succ]); (try simp only [List.set_cons_zero]))
                refine anyZ_ready (rs := [8]) (by kernel_rfl) (by simp) ?_
                refine AllZ.cons (o := { dst := some 57, op := Op.buildSlice 39 1 #[(0, Operand.tmp 56)], type := 39, pos := "ref.go:175", after := #[{ on := 7, ground := Ground.data }], guard := none }) rfl (fun K hK => ?_) AllZ.nil
                go_simp
                refine hK.out _ _ ?_ (fun hNew => ?_)
                · first | exact hHeld | exact ⟨cell_go hHeld.1 ((Below.refl _ _).alloc (Nat.le_refl _) _), cell_go hHeld.2.1 ((Below.refl _ _).alloc (Nat.le_refl _) _), cell_go hHeld.2.2.1 ((Below.refl _ _).alloc (Nat.le_refl _) _), Lib.hid ((Hid.out hHeld.2.2.2).alloc (Hid.out hHeld.2.2.2).size _)⟩ | exact ⟨cell_go HC.out B3.out, cell_go HX0.out B3.out, cell_go HX1.out B3.out, B3⟩ | exact ⟨cell_go HC.out B2.out, cell_go HX0.out B2.out, cell_go HX1.out B2.out, B2⟩
                clear hK K
                replace hHeld := hNew
                clear hNew
                ((try simp only [Act.put]); (try simp only [List.setIfInBounds_toArray]); (try simp only [List.set_cons_succ]); (try simp only [List.set_cons_zero]))
                refine anyZ_ready (rs := [9]) (by kernel_rfl) (by simp) ?_
                refine AllZ.cons (o := { dst := some 58, op := Op.call { callee := Callee.builtin Builtin.append, args := #[Operand.tmp 55, Operand.tmp 57], argTypes := #[39, 39] }, type := 39, pos := "ref.go:175", after := #[{ on := 6, ground := Ground.data }, { on := 8, ground := Ground.data }, { on := 6, ground := Ground.chain }], guard := none }) rfl (fun K hK => ?_) AllZ.nil
                refine step_append_at rfl (.tmp 55) (.tmp 57) 39 rfl w5.heap.size 38 i0 _ 2 24 Try.underlying39 hi0 hz0 hz1 hz2 rfl (by decide) _ _ _ (by first | (simp [Act.eval]; done) | (simp [Act.eval, Act.put]; done)) O3.out _ 1 1 [.int .u64 (l2 : Int), .string s] (by first | (simp [Act.eval]; done) | (simp [Act.eval, Act.put]; done)) (by simp) (fun e => by cases e) L2.out.news (by simp [Value.oneCell']) (by unfold maxLen; omega) (by omega) (Hid.out hHeld.2.2.2).size ?_
                intro a3 cap3 w3 hown3 hgr3 hat3
                have hb3 := (Hid.out hHeld.2.2.2).grown hgr3 (Hid.out hHeld.2.2.2).size (fun k h => (O3.out.lt k h).1)
                have f3 : w3.frozen? ⟨p, 3, none⟩ = false := (World.frozen?_of_block (a := ⟨p, 3, none⟩) (hb3.block p hpW)).trans (R5.out.c.fz 3)
                have c3' : w3.cell? ⟨p, 3, none⟩ = some (.slice ao1 nO co1) := cell_go HC.out hb3
                have R := Lib.hid (RPF.out w3 a3 cap3 hb3 hown3)
                have B3 := Lib.hid hb3
                clear hown3 hgr3 hat3 hb3
                refine hK.out _ _ ?_ (fun hNew => ?_)
                · first | exact hHeld | exact ⟨cell_go hHeld.1 ((Below.refl _ _).alloc (Nat.le_refl _) _), cell_go hHeld.2.1 ((Below.refl _ _).alloc (Nat.le_refl _) _), cell_go hHeld.2.2.1 ((Below.refl _ _).alloc (Nat.le_refl _) _), Lib.hid ((Hid.out hHeld.2.2.2).alloc (Hid.out hHeld.2.2.2).size _)⟩ | exact ⟨cell_go HC.out B3.out, cell_go HX0.out B3.out, cell_go HX1.out B3.out, B3⟩ | exact ⟨cell_go HC.out B2.out, cell_go HX0.out B2.out, cell_go HX1.out B2.out, B2⟩
                clear hK K
                replace hHeld := hNew
                clear hNew
                ((try simp only [Act.put]); (try simp only [List.setIfInBounds_toArray]); (try simp only [List.set_cons_succ]); (try simp only [List.set_cons_zero]))
                refine anyZ_ready (rs := [10]) (by kernel_rfl) (by simp) ?_
                refine AllZ.cons (o := { dst := some 59, op := Op.nilCheck (Operand.tmp 49), type := 0, pos := "ref.go:175", after := #[{ on := 0, ground := Ground.data }, { on := 0, ground := Ground.phase }, { on := 1, ground := Ground.phase }, { on := 2, ground := Ground.phase }, { on := 3, ground := Ground.phase }, { on := 4, ground := Ground.phase }, { on := 5, ground := Ground.phase }, { on := 6, ground := Ground.phase }, { on := 7, ground := Ground.phase }, { on := 8, ground := Ground.phase }, { on := 9, ground := Ground.phase }], guard := none }) rfl (fun K hK => ?_) AllZ.nil
                go_simp
                refine hK.out _ _ ?_ (fun hNew => ?_)
                · first | exact hHeld | exact ⟨cell_go hHeld.1 ((Below.refl _ _).alloc (Nat.le_refl _) _), cell_go hHeld.2.1 ((Below.refl _ _).alloc (Nat.le_refl _) _), cell_go hHeld.2.2.1 ((Below.refl _ _).alloc (Nat.le_refl _) _), Lib.hid ((Hid.out hHeld.2.2.2).alloc (Hid.out hHeld.2.2.2).size _)⟩ | exact ⟨cell_go HC.out B3.out, cell_go HX0.out B3.out, cell_go HX1.out B3.out, B3⟩ | exact ⟨cell_go HC.out B2.out, cell_go HX0.out B2.out, cell_go HX1.out B2.out, B2⟩
                clear hK K
                replace hHeld := hNew
                clear hNew
                ((try simp only [Act.put]); (try simp only [List.setIfInBounds_toArray]); (try simp only [List.set_cons_succ]); (try simp only [List.set_cons_zero]))
                refine anyZ_take (i := 11) (oi := { dst := some 60, op := Op.fieldAddr 55 (Operand.tmp 59) 3, type := 0, pos := "ref.go:175", after := #[{ on := 10, ground := Ground.data }, { on := 0, ground := Ground.phase }, { on := 1, ground := Ground.phase }, { on := 2, ground := Ground.phase }, { on := 3, ground := Ground.phase }, { on := 4, ground := Ground.phase }, { on := 5, ground := Ground.phase }, { on := 6, ground := Ground.phase }, { on := 7, ground := Ground.phase }, { on := 8, ground := Ground.phase }, { on := 9, ground := Ground.phase }], guard := none }) (v := ?_) rfl (by kernel_rfl) (by kernel_rfl) (by kernel_rfl) (by kernel_rfl) (fun _ _ _ h => h) (Or.inl ⟨by rfl, ?_⟩) (by assumption) ?_
                rotate_left
                · (intro w hSw; (try dsimp only at hSw); go_simp; try with_reducible rfl)
                ((try simp only [Act.put]); (try simp only [List.setIfInBounds_toArray]); (try simp only [List.set_cons_succ]); (try simp only [List.set_cons_zero]))
                refine anyZ_ready (rs := [12]) (by kernel_rfl) (by simp) ?_
                refine AllZ.last (o := { dst := none, op := Op.store 39 (Operand.tmp 60) (Operand.tmp 58), type := 0, pos := "ref.go:175", after := #[{ on := 11, ground := Ground.data }, { on := 9, ground := Ground.data }, { on := 9, ground := Ground.chain }, { on := 0, ground := Ground.phase }, { on := 1, ground := Ground.phase }, { on := 2, ground := Ground.phase }, { on := 3, ground := Ground.phase }, { on := 4, ground := Ground.phase }, { on := 5, ground := Ground.phase }, { on := 6, ground := Ground.phase }, { on := 7, ground := Ground.phase }, { on := 8, ground := Ground.phase }, { on := 9, ground := Ground.phase }], guard := none }) rfl (fun K hK => ?_)
                go_simp
                refine hK.out _ _ ?_
                clear hK K
                ((try simp only [Act.put]); (try simp only [List.setIfInBounds_toArray]); (try simp only [List.set_cons_succ]); (try simp only [List.set_cons_zero]))
                refine anyZ_done (by kernel_rfl) ?_ _
                refine NoPanic.normal ?_
                go_wp2_with fail
                go_meet
                exact ⟨_, _, R.out.1, R.out.2⟩
              · skip
                go_simp
                refine hK.out _ _ ?_ (fun hNew => ?_)
                · first | exact hHeld | exact ⟨cell_go hHeld.1 ((Below.refl _ _).alloc (Nat.le_refl _) _), cell_go hHeld.2.1 ((Below.refl _ _).alloc (Nat.le_refl _) _), cell_go hHeld.2.2.1 ((Below.refl _ _).alloc (Nat.le_refl _) _), Lib.hid ((Hid.out hHeld.2.2.2).alloc (Hid.out hHeld.2.2.2).size _)⟩ | exact ⟨cell_go HC.out B3.out, cell_go HX0.out B3.out, cell_go HX1.out B3.out, B3⟩ | exact ⟨cell_go HC.out B2.out, cell_go HX0.out B2.out, cell_go HX1.out B2.out, B2⟩
                clear hK K
                replace hHeld := hNew
                clear hNew
                ((try simp only [Act.put]); (try simp only [List.setIfInBounds_toArray]); (try simp only [List.set_cons_succ]); (try simp only [List.set_cons_zero]))
                refine anyZ_ready (rs := [6]) (by kernel_rfl) (by simp) ?_
                refine AllZ.cons (o := { dst := some 55, op := Op.call { callee := Callee.builtin Builtin.append, args := #[Operand.tmp 50, Operand.tmp 54], argTypes := #[39, 39] }, type := 39, pos := "ref.go:175", after := #[{ on := 1, ground := Ground.data }, { on := 5, ground := Ground.data }], guard := none }) rfl (fun K hK => ?_) AllZ.nil
                refine step_append_at rfl (.tmp 50) (.tmp 54) 39 rfl w5.heap.size 38 i0 _ 2 24 Try.underlying39 hi0 hz0 hz1 hz2 rfl (by decide) _ _ _ (by first | (simp [Act.eval]; done) | (simp [Act.eval, Act.put]; done)) OB.out ao1 nO co1 csO (by first | (simp [Act.eval]; done) | (simp [Act.eval, Act.put]; done)) LN.out (SL.out.below (Hid.out hHeld.2.2.2)).empty (SL.out.below (Hid.out hHeld.2.2.2)).news ON.out (by unfold maxLen; omega) (by omega) (Hid.out hHeld.2.2.2).size ?_
                intro a2 cap2 w2 hown2 hgr2 hat2
                have hb2 := (Hid.out hHeld.2.2.2).grown hgr2 (Hid.out hHeld.2.2.2).size (fun k h => (OB.out.lt k h).1)
                have O2 := Lib.hid (show w2.ownsRow w5.heap.size 38 2 (.slice a2 (0 + nO) cap2) nO csO by rw [Nat.zero_add, List.nil_append] at hown2; rw [Nat.zero_add]; exact hown2)
                have B2 := Lib.hid hb2
                have L2 := Lib.hid (show RowV (fun _ => True) w2 _ 1 1 2 [.int .u64 (l2 : Int), .string s] from ((LB.out).carry hgr2.size (fun k hl hk => hgr2.block k hl (fun e2 => by subst hk; simp [Value.ownBlock] at e2))).mono (fun _ _ _ => trivial))
                clear hown2 hgr2 hat2 hb2
                refine hK.out _ _ ?_ (fun hNew => ?_)
                · first | exact hHeld | exact ⟨cell_go hHeld.1 ((Below.refl _ _).alloc (Nat.le_refl _) _), cell_go hHeld.2.1 ((Below.refl _ _).alloc (Nat.le_refl _) _), cell_go hHeld.2.2.1 ((Below.refl _ _).alloc (Nat.le_refl _) _), Lib.hid ((Hid.out hHeld.2.2.2).alloc (Hid.out hHeld.2.2.2).size _)⟩ | exact ⟨cell_go HC.out B3.out, cell_go HX0.out B3.out, cell_go HX1.out B3.out, B3⟩ | exact ⟨cell_go HC.out B2.out, cell_go HX0.out B2.out, cell_go HX1.out B2.out, B2⟩
                clear hK K
                replace hHeld := hNew
                clear hNew
                ((try simp only [Act.put]); (try simp only [List.setIfInBounds_toArray]); (try simp only [List.set_cons_succ]); (try simp only [List.set_cons_zero]))
                refine anyZ_ready (rs := [9]) (by kernel_rfl) (by simp) ?_
                refine AllZ.cons (o := { dst := some 58, op := Op.call { callee := Callee.builtin Builtin.append, args := #[Operand.tmp 55, Operand.tmp 57], argTypes := #[39, 39] }, type := 39, pos := "ref.go:175", after := #[{ on := 6, ground := Ground.data }, { on := 8, ground := Ground.data }, { on := 6, ground := Ground.chain }], guard := none }) rfl (fun K hK => ?_) AllZ.nil
                refine step_append_at rfl (.tmp 55) (.tmp 57) 39 rfl w5.heap.size 38 i0 _ 2 24 Try.underlying39 hi0 hz0 hz1 hz2 rfl (by decide) _ _ _ (by first | (simp [Act.eval]; done) | (simp [Act.eval, Act.put]; done)) O2.out _ 1 1 [.int .u64 (l2 : Int), .string s] (by first | (simp [Act.eval]; done) | (simp [Act.eval, Act.put]; done)) (by simp) (fun e => by cases e) L2.out.news (by simp [Value.oneCell']) (by unfold maxLen; omega) (by omega) (Hid.out hHeld.2.2.2).size ?_
                intro a3 cap3 w3 hown3 hgr3 hat3
                have hb3 := (Hid.out hHeld.2.2.2).grown hgr3 (Hid.out hHeld.2.2.2).size (fun k h => (O2.out.lt k h).1)
                have f3 : w3.frozen? ⟨p, 3, none⟩ = false := (World.frozen?_of_block (a := ⟨p, 3, none⟩) (hb3.block p hpW)).trans (R5.out.c.fz 3)
                have c3' : w3.cell? ⟨p, 3, none⟩ = some (.slice ao1 nO co1) := cell_go HC.out hb3
                have R := Lib.hid (RPF.out w3 a3 cap3 hb3 hown3)
                have B3 := Lib.hid hb3
                clear hown3 hgr3 hat3 hb3
                refine hK.out _ _ ?_ (fun hNew => ?_)
                · first | exact hHeld | exact ⟨cell_go hHeld.1 ((Below.refl _ _).alloc (Nat.le_refl _) _), cell_go hHeld.2.1 ((Below.refl _ _).alloc (Nat.le_refl _) _), cell_go hHeld.2.2.1 ((Below.refl _ _).alloc (Nat.le_refl _) _), Lib.hid ((Hid.out hHeld.2.2.2).alloc (Hid.out hHeld.2.2.2).size _)⟩ | exact ⟨cell_go HC.out B3.out, cell_go HX0.out B3.out, cell_go HX1.out B3.out, B3⟩ | exact ⟨cell_go HC.out B2.out, cell_go HX0.out B2.out, cell_go HX1.out B2.out, B2⟩
                clear hK K
                replace hHeld := hNew
                clear hNew
                ((try simp only [Act.put]); (try simp only [List.setIfInBounds_toArray]); (try simp only [List.set_cons_succ]); (try simp only [List.set_cons_zero]))
                refine anyZ_ready (rs := [10]) (by kernel_rfl) (by simp) ?_
                refine AllZ.cons (o := { dst := some 59, op := Op.nilCheck (Operand.tmp 49), type := 0, pos := "ref.go:175", after := #[{ on := 0, ground := Ground.data }, { on := 0, ground := Ground.phase }, { on := 1, ground := Ground.phase }, { on := 2, ground := Ground.phase }, { on := 3, ground := Ground.phase }, { on := 4, ground := Ground.phase }, { on := 5, ground := Ground.phase }, { on := 6, ground := Ground.phase }, { on := 7, ground := Ground.phase }, { on := 8, ground := Ground.phase }, { on := 9, ground := Ground.phase }], guard := none }) rfl (fun K hK => ?_) AllZ.nil
                go_simp
                refine hK.out _ _ ?_ (fun hNew => ?_)
                · first | exact hHeld | exact ⟨cell_go hHeld.1 ((Below.refl _ _).alloc (Nat.le_refl _) _), cell_go hHeld.2.1 ((Below.refl _ _).alloc (Nat.le_refl _) _), cell_go hHeld.2.2.1 ((Below.refl _ _).alloc (Nat.le_refl _) _), Lib.hid ((Hid.out hHeld.2.2.2).alloc (Hid.out hHeld.2.2.2).size _)⟩ | exact ⟨cell_go HC.out B3.out, cell_go HX0.out B3.out, cell_go HX1.out B3.out, B3⟩ | exact ⟨cell_go HC.out B2.out, cell_go HX0.out B2.out, cell_go HX1.out B2.out, B2⟩
                clear hK K
                replace hHeld := hNew
                clear hNew
                ((try simp only [Act.put]); (try simp only [List.setIfInBounds_toArray]); (try simp only [List.set_cons_succ]); (try simp only [List.set_cons_zero]))
                refine anyZ_take (i := 11) (oi := { dst := some 60, op := Op.fieldAddr 55 (Operand.tmp 59) 3, type := 0, pos := "ref.go:175", after := #[{ on := 10, ground := Ground.data }, { on := 0, ground := Ground.phase }, { on := 1, ground := Ground.phase }, { on := 2, ground := Ground.phase }, { on := 3, ground := Ground.phase }, { on := 4, ground := Ground.phase }, { on := 5, ground := Ground.phase }, { on := 6, ground := Ground.phase }, { on := 7, ground := Ground.phase }, { on := 8, ground := Ground.phase }, { on := 9, ground := Ground.phase }], guard := none }) (v := ?_) rfl (by kernel_rfl) (by kernel_rfl) (by kernel_rfl) (by kernel_rfl) (fun _ _ _ h => h) (Or.inl ⟨by rfl, ?_⟩) (by assumption) ?_
                rotate_left
                · (intro w hSw; (try dsimp only at hSw); go_simp; try with_reducible rfl)
                ((try simp only [Act.put]); (try simp only [List.setIfInBounds_toArray]); (try simp only [List.set_cons_succ]); (try simp only [List.set_cons_zero]))
                refine anyZ_ready (rs := [12]) (by kernel_rfl) (by simp) ?_
                refine AllZ.last (o := { dst := none, op := Op.store 39 (Operand.tmp 60) (Operand.tmp 58), type := 0, pos := "ref.go:175", after := #[{ on := 11, ground := Ground.data }, { on := 9, ground := Ground.data }, { on := 9, ground := Ground.chain }, { on := 0, ground := Ground.phase }, { on := 1, ground := Ground.phase }, { on := 2, ground := Ground.phase }, { on := 3, ground := Ground.phase }, { on := 4, ground := Ground.phase }, { on := 5, ground := Ground.phase }, { on := 6, ground := Ground.phase }, { on := 7, ground := Ground.phase }, { on := 8, ground := Ground.phase }, { on := 9, ground := Ground.phase }], guard := none }) rfl (fun K hK => ?_)
                go_simp
                refine hK.out _ _ ?_
                clear hK K
                ((try simp only [Act.put]); (try simp only [List.setIfInBounds_toArray]); (try simp only [List.set_cons_succ]); (try simp only [List.set_cons_zero]))
                refine anyZ_done (by kernel_rfl) ?_ _
                refine NoPanic.normal ?_
                go_wp2_with fail
                go_meet
                exact ⟨_, _, R.out.1, R.out.2⟩
            · skip
              go_simp
              refine hK.out _ _ ?_ (fun hNew => ?_)
              · first | exact hHeld | exact ⟨cell_go hHeld.1 ((Below.refl _ _).alloc (Nat.le_refl _) _), cell_go hHeld.2.1 ((Below.refl _ _).alloc (Nat.le_refl _) _), cell_go hHeld.2.2.1 ((Below.refl _ _).alloc (Nat.le_refl _) _), Lib.hid ((Hid.out hHeld.2.2.2).alloc (Hid.out hHeld.2.2.2).size _)⟩ | exact ⟨cell_go HC.out B3.out, cell_go HX0.out B3.out, cell_go HX1.out B3.out, B3⟩ | exact ⟨cell_go HC.out B2.out, cell_go HX0.out B2.out, cell_go HX1.out B2.out, B2⟩
              clear hK K
              replace hHeld := hNew
              clear hNew
              ((try simp only [Act.put]); (try simp only [List.setIfInBounds_toArray]); (try simp only [List.set_cons_succ]); (try simp only [List.set_cons_zero]))
              refine anyZ_ready (rs := [1]) (by kernel_rfl) (by simp) ?_
              refine AllZ.cons (o := { dst := some 50, op := Op.buildSlice 39 0 #[], type := 39, pos := "ref.go:175", after := #[], guard := none }) rfl (fun K hK => ?_) AllZ.nil
              go_simp
              refine hK.out _ _ ?_ (fun hNew => ?_)
              · first | exact hHeld | exact ⟨cell_go hHeld.1 ((Below.refl _ _).alloc (Nat.le_refl _) _), cell_go hHeld.2.1 ((Below.refl _ _).alloc (Nat.le_refl _) _), cell_go hHeld.2.2.1 ((Below.refl _ _).alloc (Nat.le_refl _) _), Lib.hid ((Hid.out hHeld.2.2.2).alloc (Hid.out hHeld.2.2.2).size _)⟩ | exact ⟨cell_go HC.out B3.out, cell_go HX0.out B3.out, cell_go HX1.out B3.out, B3⟩ | exact ⟨cell_go HC.out B2.out, cell_go HX0.out B2.out, cell_go HX1.out B2.out, B2⟩
              clear hK K
              replace hHeld := hNew
              clear hNew
              ((try simp only [Act.put]); (try simp only [List.setIfInBounds_toArray]); (try simp only [List.set_cons_succ]); (try simp only [List.set_cons_zero]))
              refine anyZ_ready (rs := [6]) (by kernel_rfl) (by simp) ?_
              refine AllZ.cons (o := { dst := some 55, op := Op.call { callee := Callee.builtin Builtin.append, args := #[Operand.tmp 50, Operand.tmp 54], argTypes := #[39, 39] }, type := 39, pos := "ref.go:175", after := #[{ on := 1, ground := Ground.data }, { on := 5, ground := Ground.data }], guard := none }) rfl (fun K hK => ?_) AllZ.nil
              refine step_append_at rfl (.tmp 50) (.tmp 54) 39 rfl w5.heap.size 38 i0 _ 2 24 Try.underlying39 hi0 hz0 hz1 hz2 rfl (by decide) _ _ _ (by first | (simp [Act.eval]; done) | (simp [Act.eval, Act.put]; done)) OC.out ao1 nO co1 csO (by first | (simp [Act.eval]; done) | (simp [Act.eval, Act.put]; done)) LN.out (SL.out.below (Hid.out hHeld.2.2.2)).empty (SL.out.below (Hid.out hHeld.2.2.2)).news ON.out (by unfold maxLen; omega) (by omega) (Hid.out hHeld.2.2.2).size ?_
              intro a2 cap2 w2 hown2 hgr2 hat2
              have hb2 := (Hid.out hHeld.2.2.2).grown hgr2 (Hid.out hHeld.2.2.2).size (fun k h => (OC.out.lt k h).1)
              have O2 := Lib.hid (show w2.ownsRow w5.heap.size 38 2 (.slice a2 (0 + nO) cap2) nO csO by rw [Nat.zero_add, List.nil_append] at hown2; rw [Nat.zero_add]; exact hown2)
              have B2 := Lib.hid hb2
              have L2 := Lib.hid (show RowV (fun _ => True) w2 _ 1 1 2 [.int .u64 (l2 : Int), .string s] from ((LC.out).carry hgr2.size (fun k hl hk => hgr2.block k hl (fun e2 => by subst hk; simp [Value.ownBlock] at e2))).mono (fun _ _ _ => trivial))
              clear hown2 hgr2 hat2 hb2
              refine hK.out _ _ ?_ (fun hNew => ?_)
              · first | exact hHeld | exact ⟨cell_go hHeld.1 ((Below.refl _ _).alloc (Nat.le_refl _) _), cell_go hHeld.2.1 ((Below.refl _ _).alloc (Nat.le_refl _) _), cell_go hHeld.2.2.1 ((Below.refl _ _).alloc (Nat.le_refl _) _), Lib.hid ((Hid.out hHeld.2.2.2).alloc (Hid.out hHeld.2.2.2).size _)⟩ | exact ⟨cell_go HC.out B3.out, cell_go HX0.out B3.out, cell_go HX1.out B3.out, B3⟩ | exact ⟨cell_go HC.out B2.out, cell_go HX0.out B2.out, cell_go HX1.out B2.out, B2⟩
              clear hK K
              replace hHeld := hNew
              clear hNew
              ((try simp only [Act.put]); (try simp only [List.setIfInBounds_toArray]); (try simp only [List.set_cons_succ]); (try simp only [List.set_cons_zero]))
              refine anyZ_ready (rs := [9]) (by kernel_rfl) (by simp) ?_
              refine AllZ.cons (o := { dst := some 58, op := Op.call { callee := Callee.builtin Builtin.append, args := #[Operand.tmp 55, Operand.tmp 57], argTypes := #[39, 39] }, type := 39, pos := "ref.go:175", after := #[{ on := 6, ground := Ground.data }, { on := 8, ground := Ground.data }, { on := 6, ground := Ground.chain }], guard := none }) rfl (fun K hK => ?_) AllZ.nil
              refine step_append_at rfl (.tmp 55) (.tmp 57) 39 rfl w5.heap.size 38 i0 _ 2 24 Try.underlying39 hi0 hz0 hz1 hz2 rfl (by decide) _ _ _ (by first | (simp [Act.eval]; done) | (simp [Act.eval, Act.put]; done)) O2.out _ 1 1 [.int .u64 (l2 : Int), .string s] (by first | (simp [Act.eval]; done) | (simp [Act.eval, Act.put]; done)) (by simp) (fun e => by cases e) L2.out.news (by simp [Value.oneCell']) (by unfold maxLen; omega) (by omega) (Hid.out hHeld.2.2.2).size ?_
              intro a3 cap3 w3 hown3 hgr3 hat3
              have hb3 := (Hid.out hHeld.2.2.2).grown hgr3 (Hid.out hHeld.2.2.2).size (fun k h => (O2.out.lt k h).1)
              have f3 : w3.frozen? ⟨p, 3, none⟩ = false := (World.frozen?_of_block (a := ⟨p, 3, none⟩) (hb3.block p hpW)).trans (R5.out.c.fz 3)
              have c3' : w3.cell? ⟨p, 3, none⟩ = some (.slice ao1 nO co1) := cell_go HC.out hb3
              have R := Lib.hid (RPF.out w3 a3 cap3 hb3 hown3)
              have B3 := Lib.hid hb3
              clear hown3 hgr3 hat3 hb3
              refine hK.out _ _ ?_ (fun hNew => ?_)
              · first | exact hHeld | exact ⟨cell_go hHeld.1 ((Below.refl _ _).alloc (Nat.le_refl _) _), cell_go hHeld.2.1 ((Below.refl _ _).alloc (Nat.le_refl _) _), cell_go hHeld.2.2.1 ((Below.refl _ _).alloc (Nat.le_refl _) _), Lib.hid ((Hid.out hHeld.2.2.2).alloc (Hid.out hHeld.2.2.2).size _)⟩ | exact ⟨cell_go HC.out B3.out, cell_go HX0.out B3.out, cell_go HX1.out B3.out, B3⟩ | exact ⟨cell_go HC.out B2.out, cell_go HX0.out B2.out, cell_go HX1.out B2.out, B2⟩
              clear hK K
              replace hHeld := hNew
              clear hNew
              ((try simp only [Act.put]); (try simp only [List.setIfInBounds_toArray]); (try simp only [List.set_cons_succ]); (try simp only [List.set_cons_zero]))
              refine anyZ_ready (rs := [10]) (by kernel_rfl) (by simp) ?_
              refine AllZ.cons (o := { dst := some 59, op := Op.nilCheck (Operand.tmp 49), type := 0, pos := "ref.go:175", after := #[{ on := 0, ground := Ground.data }, { on := 0, ground := Ground.phase }, { on := 1, ground := Ground.phase }, { on := 2, ground := Ground.phase }, { on := 3, ground := Ground.phase }, { on := 4, ground := Ground.phase }, { on := 5, ground := Ground.phase }, { on := 6, ground := Ground.phase }, { on := 7, ground := Ground.phase }, { on := 8, ground := Ground.phase }, { on := 9, ground := Ground.phase }], guard := none }) rfl (fun K hK => ?_) AllZ.nil
              go_simp
              refine hK.out _ _ ?_ (fun hNew => ?_)
              · first | exact hHeld | exact ⟨cell_go hHeld.1 ((Below.refl _ _).alloc (Nat.le_refl _) _), cell_go hHeld.2.1 ((Below.refl _ _).alloc (Nat.le_refl _) _), cell_go hHeld.2.2.1 ((Below.refl _ _).alloc (Nat.le_refl _) _), Lib.hid ((Hid.out hHeld.2.2.2).alloc (Hid.out hHeld.2.2.2).size _)⟩ | exact ⟨cell_go HC.out B3.out, cell_go HX0.out B3.out, cell_go HX1.out B3.out, B3⟩ | exact ⟨cell_go HC.out B2.out, cell_go HX0.out B2.out, cell_go HX1.out B2.out, B2⟩
              clear hK K
              replace hHeld := hNew
              clear hNew
              ((try simp only [Act.put]); (try simp only [List.setIfInBounds_toArray]); (try simp only [List.set_cons_succ]); (try simp only [List.set_cons_zero]))
              refine anyZ_take (i := 11) (oi := { dst := some 60, op := Op.fieldAddr 55 (Operand.tmp 59) 3, type := 0, pos := "ref.go:175", after := #[{ on := 10, ground := Ground.data }, { on := 0, ground := Ground.phase }, { on := 1, ground := Ground.phase }, { on := 2, ground := Ground.phase }, { on := 3, ground := Ground.phase }, { on := 4, ground := Ground.phase }, { on := 5, ground := Ground.phase }, { on := 6, ground := Ground.phase }, { on := 7, ground := Ground.phase }, { on := 8, ground := Ground.phase }, { on := 9, ground := Ground.phase }], guard := none }) (v := ?_) rfl (by kernel_rfl) (by kernel_rfl) (by kernel_rfl) (by kernel_rfl) (fun _ _ _ h => h) (Or.inl ⟨by rfl, ?_⟩) (by assumption) ?_
              rotate_left
              · (intro w hSw; (try dsimp only at hSw); go_simp; try with_reducible rfl)
              ((try simp only [Act.put]); (try simp only [List.setIfInBounds_toArray]); (try simp only [List.set_cons_succ]); (try simp only [List.set_cons_zero]))
              refine anyZ_ready (rs := [12]) (by kernel_rfl) (by simp) ?_
              refine AllZ.last (o := { dst := none, op := Op.store 39 (Operand.tmp 60) (Operand.tmp 58), type := 0, pos := "ref.go:175", after := #[{ on := 11, ground := Ground.data }, { on := 9, ground := Ground.data }, { on := 9, ground := Ground.chain }, { on := 0, ground := Ground.phase }, { on := 1, ground := Ground.phase }, { on := 2, ground := Ground.phase }, { on := 3, ground := Ground.phase }, { on := 4, ground := Ground.phase }, { on := 5, ground := Ground.phase }, { on := 6, ground := Ground.phase }, { on := 7, ground := Ground.phase }, { on := 8, ground := Ground.phase }, { on := 9, ground := Ground.phase }], guard := none }) rfl (fun K hK => ?_)
              go_simp
              refine hK.out _ _ ?_
              clear hK K
              ((try simp only [Act.put]); (try simp only [List.setIfInBounds_toArray]); (try simp only [List.set_cons_succ]); (try simp only [List.set_cons_zero]))
              refine anyZ_done (by kernel_rfl) ?_ _
              refine NoPanic.normal ?_
              go_wp2_with fail
              go_meet
              exact ⟨_, _, R.out.1, R.out.2⟩

          case rest =>
            obtain ⟨a3, c3, r6, k6⟩ := hcut
            have O7 := Lib.hid (own_carry O5a.out (fun j hj => k6.block j (O5a.out.lt j hj).2 (fun e => RP.out (e ▸ hj))))
            have x0 : wc.cell? ⟨xb, 0, none⟩ = some (.int .u64 (l2 : Int)) := (k6.cell (p := ⟨xb, 0, none⟩) hx5 XP.out).trans HX0.out
            have x1 : wc.cell? ⟨xb, 1, none⟩ = some (.string s) := (k6.cell (p := ⟨xb, 1, none⟩) hx5 XP.out).trans HX1.out
            have R6 := Lib.hid r6
            have K6 := Lib.hid (K5.out.trans k6 (fun _ _ f => f))
            have W6 := Lib.hid (Nat.le_trans K5.out.size k6.size)
            have hk2 : k ≤ 1000 := by omega
            clear r6 k6 HC HX0 HX1 LN ON SL RPF OA OB OC LB LC R5 O5a K5
            go_wp2_with (at_builtin
                         go_loud (refine wpList_append_at rfl (.tmp 61) (.tmp 63) 39 rfl W.heap.size 38 i0 _ 2 24 Try.underlying39 hi0 hz0 hz1 hz2 rfl (by decide) _ _ _ rfl (World.ownsRow.alloc O7.out _) (some ⟨wc.heap.size, 0, none⟩) 1 1 [.int .u64 (l2 : Int), .string s] rfl rfl (fun e => by cases e) (fun ad e => by cases e; exact World.news_of_block (heap_alloc_new _ _)) (by simp [Value.oneCell']) (by unfold maxLen; omega) (by omega) (by have := W6.out; simp; omega) ?_
                                  intro v8 w8 hown8 hgr8 hat8
                                  obtain ⟨g8, cap8, rfl, _⟩ := hown8.form (by omega)
                                  have R8 := Lib.hid (goes_step R6.out K6.out (fun j e => (O7.out.lt j e).1) L2.out hkw HS.out hlt0 hown8 hgr8 (hat8 g8 rfl))
                                  clear hown8 hgr8 hat8))
            go_roundw
            case rel => exact R8.out
            case measure => simp only [lenZ]; omega
      · obtain rfl : k = m := by omega
        have dk : decide (k < k) = false := decide_eq_false (by omega)
        have R := Lib.hid (goes_done hmw O1.out R1.out K1.out)
        clear hlt
        rw [dk]
        go_wp2_with fail
        go_ret
        exact R.out
end

end Go.Proofs.Ytmahbmmeeifaiaa
