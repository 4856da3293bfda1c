/-
  The document's own ship: NewShip, Room, Push, Tick.
-/
import Derived.Test.YtmahbmmeeifaiaaGgoes
namespace Go.Proofs.Ytmahbmmeeifaiaa
open Go.RowKit

/-- It lies so. -/
def ReAt (w : World) (N p : Nat) (X : Nat → Prop) (S : Sh) : Prop := ∃ q ao co aw cw, ReR w N p q X S.win S.que S.g S.last S.pa ao co S.out aw cw S.waits
/-- A call's outcome. -/
def RePost (W : World) (N p : Nat) (X : Nat → Prop) (S : Sh) (r : Value → Value) (g : Nat) (ss : List ByteArray) (E : Ending) (w' : World) : Prop :=
  ∃ a cap, E = .returned (r (.slice a ss.length cap)) ∧ ReAt w' N p X S ∧ Keep (fun k => N ≤ k ∧ ¬ X k) W w' ∧ RtR (fun k => W.heap.size ≤ k) w' (.slice a ss.length cap) g ss

section
variable {w w' : World} {N p n : Nat} {X X' : Nat → Prop} {S : Sh}
theorem ReAt.carry (h : ReAt w N p X S) (hs : w.heap.size ≤ w'.heap.size) (hb : ∀ k, k < w.heap.size → ¬ X k → w'.heap[k]? = w.heap[k]?) (hX : ∀ k, X' k → X k ∨ w.heap.size ≤ k) (hX' : ∀ k, X' k → k < w'.heap.size) : ReAt w' N p X' S := by
  obtain ⟨q, ao, co, aw, cw, hR⟩ := h
  exact ⟨q, ao, co, aw, cw, hR.carry hs hb hX hX'⟩
theorem ReAt.below (h : ReAt w N p X S) (hb : Below w.heap.size w w') : ReAt w' N p X S := by
  obtain ⟨q, ao, co, aw, cw, hR⟩ := h
  exact ⟨q, ao, co, aw, cw, hR.below hb⟩
theorem ReAt.drewN (h : ReAt w N p X S) (k : Nat) : ReAt (w.drewN k) N p X S := h.below ⟨rfl, rfl, rfl, Nat.le_refl _, fun _ _ => rfl⟩
theorem ReAt.less (h : ReAt w N p X S) (hX : ∀ k, X' k → X k) : ReAt w N p X' S := by
  obtain ⟨q, ao, co, aw, cw, hR⟩ := h
  exact ⟨q, ao, co, aw, cw, hR.less hX⟩
theorem ReAt.size (h : ReAt w N p X S) : N ≤ w.heap.size ∧ p < w.heap.size := by
  obtain ⟨q, ao, co, aw, cw, hR⟩ := h
  have := hR.low.1
  have := hR.lt.1
  omega
theorem ReR.keepN {q win que g last : Nat} {P : Pa} {ao aw : Option Addr} {co cw : Nat} {LO LW : List ByteArray} (h : ReR w N p q X win que g last P ao co LO aw cw LW) : ∀ k, (k = p ∨ k = q) → N ≤ k ∧ ¬ X k := by
  rintro k (rfl | rfl)
  · exact ⟨h.low.1, h.nx.1⟩
  · exact ⟨h.low.2, h.nx.2⟩

theorem Sh.parts2 {LO LQ : List ByteArray} {m : Nat} (h : LO ++ LQ = S.all.drop S.g) (hm : LO.length + m = S.n) : LO ++ LQ.take m = S.out ∧ LQ.drop m = S.waits := by
  constructor
  · unfold Sh.out
    rw [← h, ← hm, List.take_length_add_append]
  · unfold Sh.waits
    rw [← List.drop_drop, ← h, ← hm, List.drop_length_add_append]
theorem Sh.went2 {T : Sh} {LO LQ : List ByteArray} {m : Nat} (h : LO ++ LQ = T.all.drop T.g) (hS : S.last = T.g + LO.length) (hm : LO.length + m = T.n) : LQ.take m = S.went T := by
  have hl : T.last = S.last + m := by unfold Sh.last at hS ⊢; omega
  unfold Sh.went
  rw [hl, Nat.add_sub_cancel_left, hS, ← List.drop_drop, ← h, List.drop_left]

theorem re_room {W : World} {q win que g last : Nat} {P : Pa} {ao aw : Option Addr} {co cw : Nat} {LO LW : List ByteArray} (h : ReR W N p q X win que g last P ao co LO aw cw LW) (r : Bool) (hq : 2 ≤ que ∧ que ≤ 32) :
    Calls Try.prog 19 #[.pointer (some ⟨p, 0, none⟩), .bool r] W fun E w' => E = .returned (.bool (decide ((LW.length : Int) < if r then (que : Int) else (que : Int) - 1))) ∧ ∃ n, w' = W.drewN n := by
  obtain ⟨c0, c1, c2, c3, c4, c5⟩ := h.cells
  have hw : IntKind.i64.wrap ((que : Int) - 1) = (que : Int) - 1 := wrap_j (by omega)
  clear h
  cases r
  · obtain ⟨b, hb⟩ : ∃ b, decide ((LW.length : Int) < (que : Int) - 1) = b := ⟨_, rfl⟩
    have e : decide ((LW.length : Int) < if false = true then (que : Int) else (que : Int) - 1) = b := hb
    rw [e]
    clear e
    go_enter Try.func19, Try.ntmps19
    go_wp2_with fail
    go_quiet (fail)
    go_wp2_with fail
    go_ret
    exact ⟨rfl, _, rfl⟩
  · obtain ⟨b, hb⟩ : ∃ b, decide ((LW.length : Int) < (que : Int)) = b := ⟨_, rfl⟩
    have hb2 : decide (LW.length < que) = b := by rw [← hb]; exact decide_eq_decide.2 (by omega)
    have e : decide ((LW.length : Int) < if true = true then (que : Int) else (que : Int) - 1) = b := hb
    rw [e]
    clear e
    go_enter Try.func19, Try.ntmps19
    go_wp2_with fail
    go_quiet (fail)
    go_wp2_with fail
    go_ret
    exact ⟨rfl, _, rfl⟩

/-- One more waits. -/
theorem ReR.queue {w w3 : World} {q win que g last cap : Nat} {P : Pa} {ao aw a : Option Addr} {co cw : Nat} {LO LW : List ByteArray} {s : ByteArray} (h : ReR w N p q X win que g last P ao co LO aw cw LW) (hb : Below w.heap.size w w3)
    (hown : w3.ownsRow w.heap.size 9 1 (.slice a (LW.length + 1) cap) (LW.length + 1) (LW.map Value.string ++ [.string s])) :
    ReR (w3.setCell ⟨p, 4, none⟩ (.slice a (LW.length + 1) cap)) N p q X win que g last P ao co LO a cap (LW ++ [s]) ∧ Keep (fun k => k = p) w (w3.setCell ⟨p, 4, none⟩ (.slice a (LW.length + 1) cap)) := by
  have hk : Keep (fun k => k = p) w (w3.setCell ⟨p, 4, none⟩ (.slice a (LW.length + 1) cap)) := (Keep.ofBelow (F := fun k => k = p) hb).setCell (p := ⟨p, 4, none⟩) rfl _
  obtain ⟨a', cap', e, hr⟩ := own_row hown
  cases e
  have hlt := hown.lt
  have hpl := h.lt
  have e2 : (LW ++ [s]).length = LW.length + 1 := by simp
  have hr2 : RowV (Free X p q) w3 a cap (LW ++ [s]).length 1 ((LW ++ [s]).map Value.string) := by
    rw [e2, List.map_append]
    exact hr.mono (fun k _ e => by
      have := (hlt k e).1
      exact ⟨by omega, by omega, fun f => by have := h.xs k f; omega⟩)
  refine ⟨h.turn hk ?_ (h.oo.past hk) ?_, hk⟩
  · rw [e2]
    exact ((h.c.below hb).put 4 _).conv (six rfl rfl rfl rfl rfl rfl)
  · exact hr2.carry (by simp [World.setCell]) (fun k _ hA => heap_setCell_other w3 ⟨p, 4, none⟩ k _ hA.1)

set_option maxRecDepth 20000 in
set_option maxHeartbeats 8000000 in
theorem re_push_no {W : World} {s : ByteArray} {r : Bool} (h : ReAt W N p X S) (ho : S.ok n) (hr : S.room r = false) :
    Calls Try.prog 20 #[.pointer (some ⟨p, 0, none⟩), .string s, .bool r] W (RePost W N p X S (fun v => .tuple #[v, .bool false]) S.last []) := by
  have H := Lib.hid h
  obtain ⟨q, ao, co, aw, cw, hR⟩ := h
  have RM := Lib.hid (show Calls Try.prog 19 #[.pointer (some ⟨p, 0, none⟩), .bool r] W fun E w' => E = .returned (.bool false) ∧ ∃ n, w' = W.drewN n by
    have := re_room hR r ho.que
    rw [show decide ((S.waits.length : Int) < if r then (S.que : Int) else (S.que : Int) - 1) = false from hr] at this
    exact this)
  clear hR hr
  go_enter Try.func20, Try.ntmps20
  go_wp2_with (go_at_call 19; refine RM.out.mono ?_; rintro e w' ⟨rfl, k, rfl⟩)
  go_ret2
  exact ⟨none, 0, rfl, H.out.drewN k, (Keep.refl _ _).drewN k, ⟨none, 0, rfl, RowV.none _ _ _⟩⟩

theorem re_push_done {W w' : World} {q mm : Nat} {P' : Pa} {s : ByteArray} {a5 ao5 aw5 : Option Addr} {cap5 co5 cw5 : Nat} (ho : S.ok n) (hm : min (S.win - S.out.length) (S.waits ++ [s]).length = mm) (hP : P' = S.pa.start)
    (h1 : ReR w' N p q X S.win S.que S.g (S.last + mm) P' ao5 co5 (S.out ++ (S.waits ++ [s]).take mm) aw5 cw5 ((S.waits ++ [s]).drop mm)) (h2 : Keep (fun k => N ≤ k ∧ ¬ X k) W w') (h3 : RtR (fun k => W.heap.size ≤ k) w' (.slice a5 mm cap5) S.last ((S.waits ++ [s]).take mm)) :
    RePost W N p X (S.push s) (fun v => .tuple #[v, .bool true]) S.last (S.went (S.push s)) (.returned (.tuple #[.slice a5 mm cap5, .bool true])) w' := by
  subst hP
  have hn := S.n_le
  have hg := ho.g
  have hw := ho.win
  have hLO := S.out_len
  have hLW := S.waits_len
  have hal : (S.push s).all.length = S.all.length + 1 := by show (S.all ++ [s]).length = _; simp
  have hTn : (S.push s).n = min S.win (S.all.length + 1 - S.g) := by
    show min S.win ((S.push s).all.length - S.g) = _
    rw [hal]
  have hSn : S.n = min S.win (S.all.length - S.g) := rfl
  have hlw : (S.waits ++ [s]).length = S.waits.length + 1 := by simp
  rw [hlw] at hm
  have hall : S.out ++ (S.waits ++ [s]) = (S.push s).all.drop (S.push s).g := by
    show _ = (S.all ++ [s]).drop S.g
    rw [List.drop_append_of_le_length hg, ← List.append_assoc]
    congr 1
    unfold Sh.out Sh.waits
    rw [← List.drop_drop, List.take_append_drop]
  have hmT : S.out.length + mm = (S.push s).n := by rw [hTn]; omega
  obtain ⟨e1, e2⟩ := Sh.parts2 hall hmT
  have e3 := Sh.went2 (S := S) hall (by show S.last = S.g + _; rw [hLO]; rfl) hmT
  have hla : (S.push s).last = S.last + mm := by
    show S.g + (S.push s).n = S.g + S.n + mm
    omega
  have hlen : (S.went (S.push s)).length = mm := by rw [← e3, List.length_take, hlw]; omega
  rw [e1, e2, ← hla] at h1
  rw [e3] at h3
  exact ⟨a5, cap5, by rw [hlen], ⟨q, ao5, co5, aw5, cw5, h1⟩, h2, by rw [hlen]; exact h3⟩

set_option maxRecDepth 20000 in
set_option maxHeartbeats 8000000 in
theorem re_push_ok {W : World} {s : ByteArray} {r : Bool} (h : ReAt W N p X S) (ho : S.ok n) (hn : n ≤ 500) (hr : S.room r = true) :
    Calls Try.prog 20 #[.pointer (some ⟨p, 0, none⟩), .string s, .bool r] W (RePost W N p X (S.push s) (fun v => .tuple #[v, .bool true]) S.last (S.went (S.push s))) := by
  obtain ⟨i0, hi0, hz0, hz1, hz2⟩ := info_g Try.infoSt
  obtain ⟨q, ao, co, aw, cw, hR⟩ := h
  have RM := Lib.hid (show Calls Try.prog 19 #[.pointer (some ⟨p, 0, none⟩), .bool r] W fun E w' => E = .returned (.bool true) ∧ ∃ n, w' = W.drewN n by
    have := re_room hR r ho.que
    rw [show decide ((S.waits.length : Int) < if r then (S.que : Int) else (S.que : Int) - 1) = true from hr] at this
    exact this)
  have hLO := S.out_len
  have hLW := S.waits_len
  have hoa := ho.all
  have hnn := S.n_le
  have R := Lib.hid hR
  have PQ := Lib.hid hR.lt
  have HO := Lib.hid ho
  have LLO := Lib.hid hLO
  have LLW := Lib.hid hLW
  have HN := Lib.hid hnn
  clear hR hr ho hLO hLW
  go_enter Try.func20, Try.ntmps20
  go_wp2_with fail
  refine RM.out.mono ?_
  rintro e w' ⟨rfl, k0, rfl⟩
  have R1 := Lib.hid (R.out.drewN k0)
  have K1 := Lib.hid ((Keep.refl (fun k => N ≤ k ∧ ¬ X k) W).drewN k0)
  generalize W.drewN k0 = W1 at *
  obtain ⟨c0, c1, c2, c3, c4, c5⟩ := R1.out.cells
  obtain ⟨nO, hnO⟩ : ∃ nO, S.out.length = nO := ⟨_, rfl⟩
  obtain ⟨nw, hnw⟩ : ∃ nw, S.waits.length = nw := ⟨_, rfl⟩
  obtain ⟨csW, hcs⟩ : ∃ csW, S.waits.map Value.string = csW := ⟨_, rfl⟩
  rw [hnO] at c3
  rw [hnw] at c4
  have hnw2 : nw ≤ 500 := by have := LLW.out; omega
  have SW := Lib.hid (show RowV (Free X p q) W1 aw cw nw 1 csW by rw [← hnw, ← hcs]; exact R1.out.ow)
  have OW := Lib.hid (show ∀ u ∈ csW, u.oneCell' = true by rw [← hcs]; exact ones_s _)
  have LW := Lib.hid (show csW.length = nw * 1 by rw [← hcs, List.length_map, hnw, Nat.mul_one])
  have O1 := Lib.hid (own_none W1 9 W1.heap.size 1 (Nat.le_refl _))
  have Bh := Lib.hid (show Below W1.heap.size W1 (W1.alloc (.cells #[] 9)) from (Below.refl _ _).alloc (Nat.le_refl _) _)
  have QU := Lib.hid (show ∀ (w3 : World) (a3 : Option Addr) (cap3 : Nat), Below W1.heap.size W1 w3 → w3.ownsRow W1.heap.size 9 1 (.slice a3 (nw + 1) cap3) (nw + 1) (csW ++ [.string s]) →
      ReR (w3.setCell ⟨p, 4, none⟩ (.slice a3 (nw + 1) cap3)) N p q X S.win S.que S.g S.last S.pa ao co S.out a3 cap3 (S.waits ++ [s]) ∧ Keep (fun k => k = p) W1 (w3.setCell ⟨p, 4, none⟩ (.slice a3 (nw + 1) cap3)) by
    rw [← hnw, ← hcs]
    intro w3 a3 cap3 h1 h2
    exact R1.out.queue h1 h2)
  have NO := Lib.hid hnO
  have hpW := R1.out.lt.1
  clear R hnO hnw hcs c0 c1 c2 c5
  have HN2 := Lib.hid hnn
  clear hnn HN2
  obtain ⟨bb, hbb⟩ : ∃ bb, ((nO : Int) == 0) = bb := ⟨_, rfl⟩
  have hbb2 : (nO == 0) = bb := by rw [← hbb]; exact Bool.eq_iff_iff.2 (by simp)
  have BB := Lib.hid hbb2
  go_wp2_with (at_builtin; first
    | (refine wpList_append_at rfl (.tmp 21) (.tmp 25) 53 rfl W1.heap.size 9 i0 _ 1 16 Try.underlying53 hi0 hz0 hz1 hz2 rfl (by decide) _ _ _ rfl O1.out _ _ _ csW rfl LW.out (SW.out.below Bh.out).empty (SW.out.below Bh.out).news OW.out (by unfold maxLen; omega) (by omega) (by simp) ?_
       intro v2 w2 hown2 hgr2 hat2
       rw [Nat.zero_add, List.nil_append] at hown2
       have hb2 := Bh.out.grown hgr2 (by simp) (fun k h => (O1.out.lt k h).1)
       have O2 := Lib.hid (own_below hown2 ((Below.refl _ w2).alloc (Nat.le_refl _) (.cells #[.string s] 9)))
       have L2 := Lib.hid (row_lit1 w2 (.string s) #[.string s] 9 rfl)
       have B2 := Lib.hid (hb2.alloc hb2.size (.cells #[.string s] 9))
       clear hown2 hgr2 hb2 hat2)
    | (refine wpList_append_at rfl (.tmp 26) (.tmp 28) 53 rfl W1.heap.size 9 i0 _ 1 16 Try.underlying53 hi0 hz0 hz1 hz2 rfl (by decide) _ _ _ rfl O2.out _ _ _ [.string s] rfl (by simp) (fun e => by cases e) L2.out.news (by simp [Value.oneCell']) (by unfold maxLen; omega) (by omega) B2.out.size ?_
       intro v3 w3 hown3 hgr3 hat3
       obtain ⟨a3, cap3, rfl⟩ := own_form hown3
       have hb4 := B2.out.grown hgr3 B2.out.size (fun k h => (O2.out.lt k h).1)
       have c4' : w3.cell? ⟨p, 4, none⟩ = some (.slice aw nw cw) := cell_go c4 hb4
       have f4' : w3.frozen? ⟨p, 4, none⟩ = false := (World.frozen?_of_block (a := ⟨p, 4, none⟩) (hb4.block p hpW)).trans (R1.out.c.fz 4)
       have R3 := Lib.hid (QU.out w3 a3 cap3 hb4 hown3)
       clear hown3 hgr3 hb4 hat3))
  obtain ⟨w4, hw4⟩ : ∃ w4, w4 = w3.setCell ⟨p, 4, none⟩ (.slice a3 (nw + 1) cap3) := ⟨_, rfl⟩
  rw [← hw4] at R3 ⊢
  have GO := Lib.hid (goes_any R3.out.1 (by rw [S.out_len]; rfl) HO.out.win.2 (by rw [S.out_len]; exact HN.out.1) (by rw [List.length_append, List.length_singleton]; have := LLW.out; omega) (by have := HO.out.last_le; omega))
  have GO := Lib.hid (show Calls Try.prog 33 #[.pointer (some ⟨p, 0, none⟩)] w4 (GoesPost w4 N p q X S.win S.que S.g S.last S.pa S.out (S.waits ++ [s]) (min (S.win - S.out.length) (S.waits ++ [s]).length)) from GO.out)
  obtain ⟨mm, hmm⟩ : ∃ mm, min (S.win - S.out.length) (S.waits ++ [s]).length = mm := ⟨_, rfl⟩
  rw [hmm] at GO
  have MM := Lib.hid hmm
  have K4 := Lib.hid (K1.out.trans (R3.out.2.mono (fun k e => R1.out.keepN k (Or.inl e))) (fun _ _ f => f))
  clear hw4 hmm
  refine GO.out.mono ?_
  rintro E w5 ⟨a5, cap5, ao5, co5, aw5, cw5, rfl, hR5, hK5, hI5⟩
  obtain ⟨x0, x1, x2, x3, x4, x5⟩ := hR5.cells
  obtain ⟨n5, hn5⟩ : ∃ n5, (S.out ++ (S.waits ++ [s]).take mm).length = n5 := ⟨_, rfl⟩
  rw [hn5] at x3
  have hpos : 0 < n5 := by
    have h1 := MM.out
    have h2 := LLO.out
    have h3 := HO.out.win
    have h4 := HN.out
    rw [List.length_append, List.length_singleton] at h1
    rw [← hn5, List.length_append, List.length_take, List.length_append, List.length_singleton]
    omega
  have d5 : decide ((n5 : Int) > 0) = true := decide_eq_true (by omega)
  have d5' : decide (0 < n5) = true := decide_eq_true hpos
  have R5 := Lib.hid hR5
  have K5 := Lib.hid (K4.out.trans (hK5.mono (fun k e => hR5.keepN k (Or.inl e))) (fun _ _ f => f))
  have I5 := Lib.hid (hI5.mono (A' := fun k => W.heap.size ≤ k) (fun k _ h => Nat.le_trans K4.out.size h))
  have DN := Lib.hid (fun (w' : World) (P' : Pa) (hP : P' = S.pa.start) (h1 : ReR w' N p q X S.win S.que S.g (S.last + mm) P' ao5 co5 (S.out ++ (S.waits ++ [s]).take mm) aw5 cw5 ((S.waits ++ [s]).drop mm)) (h2 : Keep (fun k => N ≤ k ∧ ¬ X k) W w') (h3 : RtR (fun k => W.heap.size ≤ k) w' (.slice a5 mm cap5) S.last ((S.waits ++ [s]).take mm)) => re_push_done HO.out MM.out hP h1 h2 h3)
  clear hR5 hK5 hI5 hn5 hpos GO x0 x1 x4 x5 K4 QU
  cases bb
  · have P5 := Lib.hid (show S.pa = S.pa.start by
      have h1 := of_decide_eq_false (show decide (nO = 0) = false from BB.out)
      have h2 := NO.out
      have h3 := S.out_len
      have h4 := HN.out
      have h5 := HO.out.runs
      show S.pa = if S.pa.l = 0 then _ else S.pa
      rw [if_neg (by omega)])
    go_wp2_with fail
    go_ret2
    exact DN.out w5 S.pa P5.out R5.out K5.out I5.out
  · go_wp2_with (go_at_call 34; refine (pr_start R5.out.pr HO.out.pa).mono ?_; intro e w6 hp; obtain ⟨rfl, h1, hk⟩ := R5.out.alarm hp
                 have R6 := Lib.hid h1
                 have K6 := Lib.hid (K5.out.trans (hk.mono (fun k e => R5.out.keepN k e)) (fun _ _ f => f))
                 have I6 := Lib.hid (I5.out.carry hk.size (fun k hk2 hA => hk.block k hk2 (fun e => by
                   have h8 := PQ.out
                   omega)))
                 clear hp h1 hk)
    go_ret2
    exact DN.out _ _ rfl R6.out K6.out I6.out
end

end Go.Proofs.Ytmahbmmeeifaiaa
