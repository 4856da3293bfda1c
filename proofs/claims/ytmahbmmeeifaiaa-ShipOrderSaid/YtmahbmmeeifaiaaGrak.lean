/-
  The document's own ship: NewShip, Tick, Ack.
-/
import Derived.Test.YtmahbmmeeifaiaaGrop
namespace Go.Proofs.Ytmahbmmeeifaiaa
open Go.RowKit

section
variable {N p n : Nat} {X : Nat → Prop} {S : Sh}

set_option maxRecDepth 20000 in
set_option maxHeartbeats 8000000 in
theorem re_tick {W : World} (h : ReAt W N p X S) (ho : S.ok n) (hn : n ≤ 500) :
    Calls Try.prog 22 #[.pointer (some ⟨p, 0, none⟩)] W (RePost W N p X S.tick (fun v => v) S.g (if S.pa.rings then S.out else [])) := by
  obtain ⟨i0, hi0, hz0, hz1, hz2⟩ := info_g Try.infoRt
  obtain ⟨q, ao, co, aw, cw, hR⟩ := h
  obtain ⟨c0, c1, c2, c3, c4, c5⟩ := hR.cells
  have R := Lib.hid hR
  have T := Lib.hid (pr_tick hR.pr ho.pa (by omega))
  have hln : S.out.length ≤ 500 := by have := S.out_len; have := S.n_le; have := ho.all; omega
  clear hR c0 c1 c3 c4 c5
  go_enter Try.func22, Try.ntmps22
  cases hb : S.pa.rings
  · have PP := Lib.hid (show ∀ w', ReR w' N p q X S.win S.que S.g S.last S.pa.tick ao co S.out aw cw S.waits → Keep (fun k => N ≤ k ∧ ¬ X k) W w' → RePost W N p X S.tick (fun v => v) S.g (if false = true then S.out else []) (.returned (.slice none 0 0)) w' from
      fun w' h1 h2 => ⟨none, 0, rfl, ⟨q, ao, co, aw, cw, h1⟩, h2, ⟨none, 0, rfl, RowV.none _ _ _⟩⟩)
    rw [hb] at T
    clear hb
    go_wp2_with (go_at_call 36; refine T.out.mono ?_; intro e w' hp; obtain ⟨rfl, h1, hk⟩ := R.out.alarm hp; have R2 := Lib.hid h1; have K2 := Lib.hid (hk.mono R.out.keepN); clear hp h1 hk)
    go_ret
    exact PP.out _ R2.out K2.out
  · obtain ⟨nO, hnO⟩ : ∃ nO, S.out.length = nO := ⟨_, rfl⟩
    obtain ⟨csO, hcs⟩ : ∃ csO, itS S.g S.out = csO := ⟨_, rfl⟩
    have LN := Lib.hid (show csO.length = nO * 2 by rw [← hcs, itS_len, hnO])
    have ON := Lib.hid (show ∀ u ∈ csO, u.oneCell' = true by rw [← hcs]; exact itS_one _ _)
    have PQ := Lib.hid R.out.lt
    have PP := Lib.hid (show ∀ w1 w' a2 cap2, ReR w1 N p q X S.win S.que S.g S.last S.pa.tick ao co S.out aw cw S.waits → Keep (fun k => N ≤ k ∧ ¬ X k) W w1 → Below w1.heap.size w1 w' → w'.ownsRow w1.heap.size 38 2 (.slice a2 nO cap2) nO csO → RePost W N p X S.tick (fun v => v) S.g (if true = true then S.out else []) (.returned (.slice a2 nO cap2)) w' from by
      intro w1 w' a2 cap2 h1 h2 h3 h4
      obtain ⟨a3, c3, e, hr⟩ := own_row h4
      cases e
      subst hnO hcs
      exact ⟨a2, cap2, rfl, ⟨q, ao, co, aw, cw, h1.below h3⟩, h2.trans (Keep.ofBelow (F := fun _ => False) h3) (fun _ _ f => f.elim), ⟨a2, cap2, rfl, hr.mono (fun k _ e => Nat.le_trans h2.size (h4.lt k e).1)⟩⟩)
    rw [hb] at T
    have hnn : nO ≤ 500 := by omega
    clear hb
    go_wp2_with (first
      | (go_at_call 36; refine T.out.mono ?_; intro e w1 hp; obtain ⟨rfl, h1, hk⟩ := R.out.alarm hp
         have R2 := Lib.hid h1
         have K2 := Lib.hid (hk.mono R.out.keepN)
         have c3 := h1.cells.2.2.2.1
         have hpW := h1.lt.1
         rw [hnO] at c3
         have O1 := Lib.hid (own_none w1 38 w1.heap.size 2 (Nat.le_refl _))
         have Bh := Lib.hid (show Below w1.heap.size w1 (w1.alloc (.cells #[] 38)) from (Below.refl _ _).alloc (Nat.le_refl _) _)
         have SO := Lib.hid (show RowV (Free X p q) w1 ao co nO 2 csO by rw [← hnO, ← hcs]; exact h1.oo)
         clear hp h1 hk hnO hcs)
      | (at_builtin; refine wpList_append_at rfl (.tmp 9) (.tmp 13) 39 rfl w1.heap.size 38 i0 _ 2 24 Try.underlying39 hi0 hz0 hz1 hz2 rfl (by decide) _ _ _ rfl O1.out _ _ _ csO rfl LN.out (SO.out.below Bh.out).empty (SO.out.below Bh.out).news ON.out (by unfold maxLen; omega) (by omega) (by simp) ?_
         intro v2 w2 hown2 hgr2 hat2
         rw [Nat.zero_add, List.nil_append] at hown2
         obtain ⟨a2, cap2, rfl⟩ := own_form hown2
         have R9 := Lib.hid (PP.out w1 w2 a2 cap2 R2.out K2.out (Bh.out.grown hgr2 (by simp) (fun k h => (O1.out.lt k h).1)) hown2)
         clear hown2 hgr2 hat2))
    go_ret
    exact R9.out

theorem re_new (W : World) (N w q f m : Nat) (X : Nat → Prop) (hN : N ≤ W.heap.size) (hX : ∀ k, X k → k < W.heap.size) :
    Calls Try.prog 18 #[.int .i64 (w : Int), .int .i64 (q : Int), .int .i64 (f : Int), .int .i64 (m : Int)] W fun E w' => ∃ p, E = .returned (.pointer (some ⟨p, 0, none⟩)) ∧ ReAt w' N p X (Sh.new w q f m) ∧ Below W.heap.size W w' := by
  have PP := Lib.hid (show ∀ w1, PrAt w1 W.heap.size (Pa.new f m) → Below W.heap.size W w1 → W.heap.size < w1.heap.size →
      ReAt (w1.alloc (.cells #[.int .i64 (w : Int), .int .i64 (q : Int), .pointer (some ⟨W.heap.size, 0, none⟩), .slice none 0 0, .slice none 0 0, .int .u64 0] 55)) N w1.heap.size X (Sh.new w q f m) from by
    intro w1 hA hb hl
    have hc := (Cel.new w1 [.int .i64 (w : Int), .int .i64 (q : Int), .pointer (some ⟨W.heap.size, 0, none⟩), .slice none 0 0, .slice none 0 0, .int .u64 0] 55).conv (V2 := reC w q (.slice none 0 0) (.slice none 0 0) (Sh.new w q f m).last W.heap.size) (six rfl rfl rfl rfl rfl (by rw [new_last]; rfl))
    have e1 : (Sh.new w q f m).out = [] := by simp [Sh.out, Sh.new]
    have e2 : (Sh.new w q f m).waits = [] := by simp [Sh.waits, Sh.new]
    refine ⟨W.heap.size, none, 0, none, 0, ?_⟩
    rw [e1, e2]
    exact ⟨hc, hA.below ((Below.refl _ _).alloc (Nat.le_refl _) _), RowV.none _ _ _, RowV.none _ _ _, by omega, ⟨fun h => by have := hX _ h; omega, fun h => by have := hX _ h; omega⟩, ⟨by omega, hN⟩, fun k h => by have := hX k h; simp; omega⟩)
  go_enter Try.func18, Try.ntmps18
  go_wp2_with (go_at_call 32; refine (pr_new f m W).mono ?_; rintro e w1 ⟨rfl, hA, hb, hl⟩; have R := Lib.hid (PP.out w1 hA hb hl); have B := Lib.hid hb; clear hA hb hl)
  go_ret
  exact ⟨_, rfl, R.out, B.out.alloc B.out.size _⟩

theorem re_ack_no {W : World} {k : Nat} (h : ReAt W N p X S) (hr : S.acks k = false) :
    Calls Try.prog 21 #[.pointer (some ⟨p, 0, none⟩), .int .u64 (k : Int)] W (RePost W N p X S (fun v => v) S.last []) := by
  have PP := Lib.hid (show RePost W N p X S (fun v => v) S.last [] (.returned (.slice none 0 0)) W from ⟨none, 0, rfl, h, Keep.refl _ _, ⟨none, 0, rfl, RowV.none _ _ _⟩⟩)
  obtain ⟨q, ao, co, aw, cw, hR⟩ := h
  obtain ⟨c0, c1, c2, c3, c4, c5⟩ := hR.cells
  have hro := hR.oo
  have hr2 : ¬ (S.g < k ∧ k ≤ S.last) := fun h => by rw [show S.acks k = true by unfold Sh.acks; simp; exact h] at hr; cases hr
  by_cases h0 : S.out.length = 0
  · rw [h0] at c3
    clear hR hro hr hr2 h0
    go_enter Try.func21, Try.ntmps21
    go_wp2_with fail
    go_ret
    exact PP.out
  · obtain ⟨x0, -⟩ := itS_at 0 S.g S.out (by omega)
    obtain ⟨bk, off, rfl, hbW, -, k0⟩ := hro.cell _ _ x0
    obtain ⟨g1, hg1⟩ : ∃ g1, S.g + 0 + 1 = g1 := ⟨_, rfl⟩
    rw [hg1] at k0
    obtain ⟨nO, hnO⟩ : ∃ nO, S.out.length = nO := ⟨_, rfl⟩
    obtain ⟨la, hla⟩ : ∃ la, S.last = la := ⟨_, rfl⟩
    rw [hnO] at c3
    rw [hla] at c5
    have y0 : W.cell? ⟨bk, off, none⟩ = some (.int .u64 (g1 : Int)) := by simpa using k0
    have d0 : ((nO : Int) == 0) = false := by simp; omega
    have d0' : (nO == 0) = false := by simp; omega
    have d0n : (0 : Int) < (nO : Int) := by omega
    by_cases h1 : k < g1
    · have d1 : decide ((k : Int) < (g1 : Int)) = true := decide_eq_true (by omega)
      have d1' : decide (k < g1) = true := decide_eq_true (by omega)
      clear hR hro hr hr2 h0 x0 k0 hg1 hnO hla h1
      go_enter Try.func21, Try.ntmps21
      go_wp2_with fail
      go_ret
      exact PP.out
    · have d1 : decide ((k : Int) < (g1 : Int)) = false := decide_eq_false (by omega)
      have d1' : decide (k < g1) = false := decide_eq_false (by omega)
      have d2 : decide ((k : Int) > (la : Int)) = true := decide_eq_true (by omega)
      have d2' : decide (la < k) = true := decide_eq_true (by omega)
      clear hR hro hr hr2 h0 x0 k0 hg1 hnO hla h1
      go_enter Try.func21, Try.ntmps21
      go_wp2_with fail
      go_ret
      exact PP.out

/-- The first that is out is no more. -/
theorem ReR.one {w : World} {q win que g last : Nat} {P : Pa} {ao aw : Option Addr} {co cw : Nat} {A : Addr} {s : ByteArray} {T LW : List ByteArray} (h : ReR w N p q X win que g last P ao co (s :: T) aw cw LW)
    (hA : (if co = 1 then ao else ao.map (·.add (1 * 2))) = some A) :
    ReR (w.setCell ⟨p, 3, none⟩ (.slice (some A) T.length (co - 1))) N p q X win que (g + 1) last P (some A) (co - 1) T aw cw LW ∧ Keep (fun k => k = p) w (w.setCell ⟨p, 3, none⟩ (.slice (some A) T.length (co - 1))) := by
  have hk : Keep (fun k => k = p) w (w.setCell ⟨p, 3, none⟩ (.slice (some A) T.length (co - 1))) := (Keep.refl (fun k => k = p) w).setCell (p := ⟨p, 3, none⟩) rfl _
  have hD := h.oo.drop 1 (by simp)
  rw [hA] at hD
  have hD2 : RowV (Free X p q) w (some A) (co - 1) T.length 2 (itS (g + 1) T) := hD
  exact ⟨h.turn hk ((h.c.put 3 _).conv (six rfl rfl rfl rfl rfl rfl)) (hD2.past hk) (h.ow.past hk), hk⟩

def AckRel (W : World) (N p q : Nat) (X : Nat → Prop) (S : Sh) (k : Nat) (aw : Option Addr) (cw : Nat) (wr : World) : Prop :=
  ∃ (j : Nat) (ao : Option Addr) (co : Nat), S.g + j ≤ k ∧ ReR wr N p q X S.win S.que (S.g + j) S.last S.pa ao co (S.out.drop j) aw cw S.waits ∧ Keep (fun k => k = p) W wr
def lenAt (w : World) (p : Nat) : Nat := lenZ ((w.cell? ⟨p, 3, none⟩).getD (.bool false))

theorem re_ack_done {W w' : World} {q k mm : Nat} {P' : Pa} {a5 ao5 aw5 : Option Addr} {cap5 co5 cw5 : Nat} (ho : S.ok n) (hr : S.acks k = true) (hm : min (S.win - (S.out.drop (k - S.g)).length) S.waits.length = mm) (hP : P' = (S.ack k).pa)
    (h1 : ReR w' N p q X S.win S.que k (S.last + mm) P' ao5 co5 (S.out.drop (k - S.g) ++ S.waits.take mm) aw5 cw5 (S.waits.drop mm)) (h2 : Keep (fun k => N ≤ k ∧ ¬ X k) W w') (h3 : RtR (fun k => W.heap.size ≤ k) w' (.slice a5 mm cap5) S.last (S.waits.take mm)) :
    RePost W N p X (S.ack k) (fun v => v) S.last (S.went (S.ack k)) (.returned (.slice a5 mm cap5)) w' := by
  subst hP
  have hgk : S.g < k ∧ k ≤ S.last := by unfold Sh.acks at hr; simpa using hr
  obtain ⟨hg1, hg2⟩ := hgk
  have hn := S.n_le
  have hg := ho.g
  have hw := ho.win
  have hLO := S.out_len
  have hLW := S.waits_len
  have hla0 : S.last = S.g + S.n := rfl
  have hTn : (S.ack k).n = min S.win (S.all.length - k) := rfl
  have hSn : S.n = min S.win (S.all.length - S.g) := rfl
  have hld : (S.out.drop (k - S.g)).length = S.n - (k - S.g) := by rw [List.length_drop, hLO]
  rw [hld] at hm
  have hall : S.out.drop (k - S.g) ++ S.waits = (S.ack k).all.drop (S.ack k).g := by
    show _ = S.all.drop k
    unfold Sh.out Sh.waits
    rw [List.drop_take, List.drop_drop, show S.g + (k - S.g) = k by omega]
    have := List.take_append_drop (S.n - (k - S.g)) (S.all.drop k)
    rw [List.drop_drop] at this
    rw [show S.g + S.n = k + (S.n - (k - S.g)) by omega]
    exact this
  have hmT : (S.out.drop (k - S.g)).length + mm = (S.ack k).n := by rw [hTn, hld]; omega
  obtain ⟨e1, e2⟩ := Sh.parts2 hall hmT
  have e3 := Sh.went2 (S := S) hall (by show S.last = k + _; rw [hld]; omega) hmT
  have hla : (S.ack k).last = S.last + mm := by
    show k + (S.ack k).n = _
    omega
  have hlen : (S.went (S.ack k)).length = mm := by rw [← e3, List.length_take]; omega
  rw [e1, e2, ← hla] at h1
  rw [e3] at h3
  exact ⟨a5, cap5, by rw [hlen], ⟨q, ao5, co5, aw5, cw5, h1⟩, h2, by rw [hlen]; exact h3⟩

set_option maxRecDepth 20000 in
set_option maxHeartbeats 8000000 in
theorem re_ack_ok {W : World} {k : Nat} (h : ReAt W N p X S) (ho : S.ok n) (hn : n ≤ 500) (hr : S.acks k = true) :
    Calls Try.prog 21 #[.pointer (some ⟨p, 0, none⟩), .int .u64 (k : Int)] W (RePost W N p X (S.ack k) (fun v => v) S.last (S.went (S.ack k))) := by
  obtain ⟨q, ao, co, aw, cw, hR⟩ := h
  obtain ⟨hg1, hg2⟩ : S.g < k ∧ k ≤ S.last := by unfold Sh.acks at hr; simpa using hr
  have hla0 : S.last = S.g + S.n := rfl
  have hln := ho.last_le
  have hLO := S.out_len
  have hLW := S.waits_len
  have hoa := ho.all
  have hnn := S.n_le
  obtain ⟨c0, c1, c2, c3, c4, c5⟩ := hR.cells
  have hro := hR.oo
  obtain ⟨x0, -⟩ := itS_at 0 S.g S.out (by omega)
  obtain ⟨bk, off, rfl, hbW, -, k0⟩ := hro.cell _ _ x0
  obtain ⟨g1, hg1'⟩ : ∃ g1, S.g + 0 + 1 = g1 := ⟨_, rfl⟩
  rw [hg1'] at k0
  obtain ⟨nO, hnO⟩ : ∃ nO, S.out.length = nO := ⟨_, rfl⟩
  obtain ⟨la, hla⟩ : ∃ la, S.last = la := ⟨_, rfl⟩
  rw [hnO] at c3
  rw [hla] at c5
  have y0 : W.cell? ⟨bk, off, none⟩ = some (.int .u64 (g1 : Int)) := by simpa using k0
  have d0 : ((nO : Int) == 0) = false := by simp; omega
  have d0' : (nO == 0) = false := by simp; omega
  have d0n : (0 : Int) < (nO : Int) := by omega
  have d1 : decide ((k : Int) < (g1 : Int)) = false := decide_eq_false (by omega)
  have d1' : decide (k < g1) = false := decide_eq_false (by omega)
  have d2 : decide ((k : Int) > (la : Int)) = false := decide_eq_false (by omega)
  have d2' : decide (la < k) = false := decide_eq_false (by omega)
  have R := Lib.hid hR
  have HO := Lib.hid ho
  have HR := Lib.hid hr
  have LLO := Lib.hid hLO
  have LLW := Lib.hid hLW
  have LA := Lib.hid hla0
  have HN := Lib.hid hnn
  have HA := Lib.hid hoa
  clear hR hro x0 k0 hg1' hnO hla hLO hLW hla0 hr ho hnn hoa
  go_enter Try.func21, Try.ntmps21
  go_wp2_with fail
  go_loopw [] (fun wr => AckRel W N p q X S k aw cw wr) (fun wr => lenAt wr p)
  case atStart => exact ⟨0, _, _, by omega, by rw [List.drop_zero, Nat.add_zero]; exact R.out, Keep.refl _ _⟩
  case round =>
    obtain ⟨j, ao1, co1, hj, hR1, hK1⟩ := hrel
    obtain ⟨x0, x1, x2, x3, x4, x5⟩ := hR1.cells
    have f3 := hR1.c.fz 3
    obtain ⟨nj, hnj⟩ : ∃ nj, (S.out.drop j).length = nj := ⟨_, rfl⟩
    have hnj2 : nj = S.n - j := by rw [← hnj, List.length_drop, LLO.out]
    rw [hnj] at x3
    have R1 := Lib.hid hR1
    have K1 := Lib.hid hK1
    have NJ := Lib.hid hnj
    have NJ2 := Lib.hid hnj2
    clear hR1 hK1 hnj hnj2 x0 x1 x4 x5 c0 c1 c2 c3 c4 c5 y0 d0 d0' d0n d1 d1' d2 d2'
    obtain ⟨bb, hbb⟩ : ∃ bb, decide (S.g + j < k) = bb := ⟨_, rfl⟩
    have BB := Lib.hid hbb
    clear hbb
    go_upto_region 3 with fail
    go_cut [47] from 31 to 47 (fun v wx => v = .bool bb ∧ wx = wr)
    case first =>
      cases bb
      · have e1 := of_decide_eq_false BB.out
        by_cases h0 : nj = 0
        · have d0 : decide ((nj : Int) > 0) = false := decide_eq_false (by omega)
          have d0' : decide (0 < nj) = false := decide_eq_false (by omega)
          clear h0 e1
          go_wp2_with fail
          go_meet
          exact ⟨rfl, rfl⟩
        · obtain ⟨z0, -⟩ := itS_at 0 (S.g + j) (S.out.drop j) (by rw [NJ.out]; omega)
          obtain ⟨b2, off2, rfl, hb2, -, k2⟩ := R1.out.oo.cell _ _ z0
          obtain ⟨g2, hg2'⟩ : ∃ g2, S.g + j + 0 + 1 = g2 := ⟨_, rfl⟩
          rw [hg2'] at k2
          have y2 : wr.cell? ⟨b2, off2, none⟩ = some (.int .u64 (g2 : Int)) := by simpa using k2
          have d0 : decide ((nj : Int) > 0) = true := decide_eq_true (by omega)
          have d0' : decide (0 < nj) = true := decide_eq_true (by omega)
          have i0' : (0 : Int) < (nj : Int) := by omega
          have d3 : decide ((g2 : Int) ≤ (k : Int)) = false := decide_eq_false (by omega)
          have d3' : decide (g2 ≤ k) = false := decide_eq_false (by omega)
          clear h0 e1 z0 k2 hg2' hb2
          go_wp2_with fail
          go_meet
          exact ⟨rfl, rfl⟩
      · have e1 := of_decide_eq_true BB.out
        have e2 := NJ2.out
        have e3 := LA.out
        obtain ⟨z0, -⟩ := itS_at 0 (S.g + j) (S.out.drop j) (by rw [NJ.out]; omega)
        obtain ⟨b2, off2, rfl, hb2, -, k2⟩ := R1.out.oo.cell _ _ z0
        obtain ⟨g2, hg2'⟩ : ∃ g2, S.g + j + 0 + 1 = g2 := ⟨_, rfl⟩
        rw [hg2'] at k2
        have y2 : wr.cell? ⟨b2, off2, none⟩ = some (.int .u64 (g2 : Int)) := by simpa using k2
        have d0 : decide ((nj : Int) > 0) = true := decide_eq_true (by omega)
        have d0' : decide (0 < nj) = true := decide_eq_true (by omega)
        have i0' : (0 : Int) < (nj : Int) := by omega
        have d3 : decide ((g2 : Int) ≤ (k : Int)) = true := decide_eq_true (by omega)
        have d3' : decide (g2 ≤ k) = true := decide_eq_true (by omega)
        clear e1 e2 e3 z0 k2 hg2' hb2
        go_wp2_with fail
        go_meet
        exact ⟨rfl, rfl⟩
    case rest =>
      obtain ⟨rfl, rfl⟩ := hcut
      cases bb
      · obtain rfl : k = S.g + j := by have := of_decide_eq_false BB.out; omega
        have hjk : S.g + j - S.g = j := by omega
        go_wp2_with fail
        refine (pr_stop R1.out.pr).mono ?_
        intro e w4 hp
        obtain ⟨rfl, r4, k4⟩ := R1.out.alarm hp
        have GO := Lib.hid (goes_any r4 (by have := LA.out; have := NJ.out; have := NJ2.out; omega) HO.out.win.2 (by have := NJ.out; have := NJ2.out; have := HN.out; omega) (by have := LLW.out; have := HA.out; omega) (by omega))
        obtain ⟨mm, hmm⟩ : ∃ mm, min (S.win - (S.out.drop j).length) S.waits.length = mm := ⟨_, rfl⟩
        rw [hmm] at GO
        have K4 := Lib.hid ((K1.out.mono (fun k e => R.out.keepN k (Or.inl e))).trans (k4.mono R.out.keepN) (fun _ _ f => f))
        have MM := Lib.hid hmm
        clear hp r4 k4 hmm
        go_wp2_with fail
        refine GO.out.mono ?_
        rintro E w5 ⟨a5, cap5, ao5, co5, aw5, cw5, rfl, hR5, hK5, hI5⟩
        obtain ⟨z0, z1, z2, z3, z4, z5⟩ := hR5.cells
        obtain ⟨n5, hn5⟩ : ∃ n5, (S.out.drop j ++ S.waits.take mm).length = n5 := ⟨_, rfl⟩
        rw [hn5] at z3
        have R5 := Lib.hid hR5
        have K5 := Lib.hid (K4.out.trans (hK5.mono (fun k e => hR5.keepN k (Or.inl e))) (fun _ _ f => f))
        have I5 := Lib.hid (hI5.mono (A' := fun k => W.heap.size ≤ k) (fun k _ h => Nat.le_trans K4.out.size h))
        have DN := Lib.hid (fun (w' : World) (P' : Pa) (hP : P' = (S.ack (S.g + j)).pa) (h1 : ReR w' N p q X S.win S.que (S.g + j) (S.last + mm) P' ao5 co5 (S.out.drop j ++ S.waits.take mm) aw5 cw5 (S.waits.drop mm)) (h2 : Keep (fun k => N ≤ k ∧ ¬ X k) W w') (h3 : RtR (fun k => W.heap.size ≤ k) w' (.slice a5 mm cap5) S.last (S.waits.take mm)) => re_ack_done (k := S.g + j) HO.out HR.out (by rw [hjk]; exact MM.out) hP (by rw [hjk]; exact h1) h2 h3)
        have PQ := Lib.hid R.out.lt
        have hn5' : n5 = (S.n - j) + mm := by rw [← hn5, List.length_append, NJ.out, NJ2.out, List.length_take]; have := MM.out; omega
        have N5 := Lib.hid hn5'
        clear hR5 hK5 hI5 hn5 hn5' GO z0 z1 z4 z5 K4 hjk
        by_cases h0 : n5 = 0
        · have d5 : decide ((n5 : Int) > 0) = false := decide_eq_false (by omega)
          have d5' : decide (0 < n5) = false := decide_eq_false (by omega)
          have P5 := Lib.hid (show S.pa.stop = (S.ack (S.g + j)).pa by
            have h1 := MM.out
            have h2 := N5.out
            have h3 := NJ.out
            have h4 := NJ2.out
            have h5 := LLW.out
            have h6 := HN.out
            have h7 := HO.out.win
            have h8 : S.n = min S.win (S.all.length - S.g) := rfl
            show _ = if S.all.length ≤ S.g + j then S.pa.stop else S.pa.stop.start
            rw [if_pos (by omega)])
          clear h0
          go_wp2_with fail
          go_ret
          exact DN.out w5 _ P5.out R5.out K5.out I5.out
        · have d5 : decide ((n5 : Int) > 0) = true := decide_eq_true (by omega)
          have d5' : decide (0 < n5) = true := decide_eq_true (by omega)
          have P5 := Lib.hid (show S.pa.stop.start = (S.ack (S.g + j)).pa by
            have h1 := MM.out
            have h2 := N5.out
            have h3 := NJ.out
            have h4 := NJ2.out
            have h5 := LLW.out
            have h6 := HN.out
            have h9 := LA.out
            have h8 : S.n = min S.win (S.all.length - S.g) := rfl
            show _ = if S.all.length ≤ S.g + j then S.pa.stop else S.pa.stop.start
            rw [if_neg (by omega)])
          clear h0
          go_wp2_with (go_at_call 34; refine (pr_start R5.out.pr HO.out.pa.stop).mono ?_; intro e w6 hp; obtain ⟨rfl, h1, hk⟩ := R5.out.alarm hp
                       have R6 := Lib.hid h1
                       have K6 := Lib.hid (K5.out.trans (hk.mono (fun k e => R5.out.keepN k e)) (fun _ _ f => f))
                       have I6 := Lib.hid (I5.out.carry hk.size (fun k hk2 hA => hk.block k hk2 (fun e => by
                         have h8 := PQ.out
                         omega)))
                       clear hp h1 hk)
          go_ret
          exact DN.out _ _ P5.out R6.out K6.out I6.out
      · have e1 := of_decide_eq_true BB.out
        have e2 := NJ2.out
        have e3 := LA.out
        have hjl : j < S.out.length := by have := LLO.out; omega
        have hr1 := R1.out
        rw [List.drop_eq_getElem_cons hjl] at hr1
        obtain ⟨b2, off2, rfl, hb2, -, -⟩ := hr1.oo.cell 0 _ rfl
        obtain ⟨t1, ht1⟩ : ∃ t1, (S.out.drop (j + 1)).length = t1 := ⟨_, rfl⟩
        have hnt : nj = t1 + 1 := by rw [← NJ.out, List.drop_eq_getElem_cons hjl, List.length_cons, ht1]
        subst hnt
        obtain ⟨A, hA⟩ : ∃ A : Addr, (if co1 = 1 then some (⟨b2, off2, none⟩ : Addr) else some ⟨b2, off2 + 2, none⟩) = some A := by split <;> exact ⟨_, rfl⟩
        have hA2 : (if co1 = 1 then some (⟨b2, off2, none⟩ : Addr) else (some (⟨b2, off2, none⟩ : Addr)).map (·.add (1 * 2))) = some A := by rw [← hA]; simp [Addr.add_lit]
        obtain ⟨r1, k1⟩ := hr1.one hA2
        have hfit := hr1.oo.fit
        have hmax := hr1.oo.max
        unfold maxLen at hmax
        rw [List.length_cons, ht1] at hfit
        rw [ht1] at r1 k1
        have LN := Lib.hid (show lenAt (wc.setCell ⟨p, 3, none⟩ (.slice (some A) t1 (co1 - 1))) p < lenAt wc p by
          unfold lenAt
          have h1 := r1.cells.2.2.2.1
          rw [ht1] at h1
          rw [h1, x3]
          show t1 < t1 + 1
          omega)
        have R2 := Lib.hid (show AckRel W N p q X S k aw cw (wc.setCell ⟨p, 3, none⟩ (.slice (some A) t1 (co1 - 1))) from ⟨j + 1, some A, co1 - 1, by omega, r1, K1.out.trans k1 (fun _ _ f => f)⟩)
        have j1 : (1 : Int) ≤ (t1 : Int) + 1 := by omega
        have j2 : (t1 : Int) + 1 ≤ (co1 : Int) := by omega
        have j3 : 1 ≤ co1 := by omega
        clear e1 e2 e3 hr1 hb2 ht1 r1 k1 hA2
        go_wp2_with fail
        go_roundw
        case rel => exact R2.out
        case measure => exact LN.out
end

end Go.Proofs.Ytmahbmmeeifaiaa
