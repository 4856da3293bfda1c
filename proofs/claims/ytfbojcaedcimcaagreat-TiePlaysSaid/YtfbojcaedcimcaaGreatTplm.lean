/-
  Any calls, any bytes that are heard: what goes up, what goes out, how it stands, is as the document says.
-/
import Derived.Test.YtfbojcaedcimcaaGreatMar
import Derived.Deep.CutBlock
import Derived.Deep.CutRange
namespace Go.Proofs.YtfbojcaedcimcaaGreat
open Go.RowKit

/-- One act. -/
structure Ta where
  op : Int
  b : Bd
  r : Bool
instance : Inhabited Ta := ⟨⟨0, default, false⟩⟩
/-- A slice of acts. -/
structure TaAt (w : World) (a : Option Addr) (cap : Nat) (l : List Ta) : Prop where
  fit : l.length ≤ cap
  max : cap ≤ maxLen
  nil : a = none → cap = 0
  cell : ∀ i (h : i < l.length), ∃ b off, a = some ⟨b, off, none⟩ ∧ b < w.heap.size ∧ w.cell? ⟨b, off + i * 3, none⟩ = some (.int .i64 l[i].op) ∧ w.cell? ⟨b, off + i * 3 + 1, none⟩ = some (.slice l[i].b.a l[i].b.s.size l[i].b.c) ∧
    w.cell? ⟨b, off + i * 3 + 2, none⟩ = some (.bool l[i].r)
  body : ∀ x ∈ l, BodyV (fun _ => True) w x.b

def PlaysRel (W : World) (t r d len : Nat) (vi : Value) (wr : World) : Prop := ∃ j T, vi = .int .i64 ((j : Nat) : Int) ∧ j ≤ len ∧ Tp W t r d T T.s T.d [] [] wr ∧ T.s.ok j ∧ T.d.ok j
theorem plays_step {T : Te} {j : Nat} {ok : Bool} {g : Frm} (ho : T.s.ok j) (hd : T.d.ok j) : (T.hear ok g).s.ok (j + 1) ∧ (T.hear ok g).d.ok (j + 1) := by
  unfold Te.hear
  split
  · split
    · exact ⟨(ho.acked).more (Nat.le_succ j), hd.more (Nat.le_succ j)⟩
    · exact ⟨ho.more (Nat.le_succ j), hd.came _⟩
  · exact ⟨ho.more (Nat.le_succ j), hd.more (Nat.le_succ j)⟩
section
variable {W w : World} {t r d n c : Nat} {T : Te} {S : Sh} {D : Dk} {G : List (Value × List ByteArray)} {Bx : List (Nat × List Value)}
theorem tp_room2 (h : Tp W t r d T S D G Bx w) (ho : T.s.ok n) (rp : Bool) : Calls Tryz.prog 8 #[.pointer (some ⟨t, 0, none⟩), .bool rp] w fun E w' => E = .returned (.bool (T.s.room rp)) ∧ Tp W t r d T S D G Bx w' :=
  (tp_room h ho rp).mono fun E w' hp => ⟨hp.1, by obtain ⟨q, rfl⟩ := hp.2; exact h.drewN q⟩
theorem rs_room2 (h : Tp W t r d T S D G Bx w) (ho : S.ok n) (rp : Bool) : Calls Tryz.prog 9 #[.pointer (some ⟨r, 0, none⟩), .bool rp] w fun E w' => E = .returned (.bool (S.room rp)) ∧ Tp W t r d T S D G Bx w' :=
  (rs_room h ho rp).mono fun E w' hp => ⟨hp.1, by obtain ⟨q, rfl⟩ := hp.2; exact h.drewN q⟩
theorem rows2 {a1 a2 : Option Addr} {n m c1 c2 : Nat} {ss rs : List ByteArray} (h : Tp W t r d T S D G Bx w) (hx : (.slice a1 n c1, ss) ∈ G) (h2 : SlV w a2 c2 (rs.map Value.string)) (hm : rs.length = m) (e : ss = rs) :
    Calls Tryz.prog 12 #[.slice a1 n c1, .slice a2 m c2] w fun E w' => E = .returned (.bool true) ∧ Tp W t r d T S D G Bx w' :=
  (rows_any (h.get hx) h2 hm true (decide_eq_true e)).mono fun E w' hp => ⟨hp.1, by obtain ⟨q, rfl⟩ := hp.2; exact h.drewN q⟩
theorem rows3 {a1 a2 : Option Addr} {n m c1 c2 : Nat} {ss rs : List ByteArray} (h : Tp W t r d T S D G Bx w) (hx : (.slice a1 n c1, ss) ∈ G) (h2 : SlV w a2 c2 (rs.map Value.string)) (hm : rs.length = m) (e : ss = rs) :
    Calls Tryz.prog 12 #[.slice a1 n c1, .slice a2 m c2] w fun E w' => E = .returned (.bool true) ∧ Tp W t r d T S D G Bx w' ∧ Below w.heap.size w w' :=
  (rows_any (h.get hx) h2 hm true (decide_eq_true e)).mono fun E w' hp => by
    obtain ⟨he, q, rfl⟩ := hp
    exact ⟨he, h.drewN q, ⟨rfl, rfl, rfl, Nat.le_refl _, fun _ _ => rfl⟩⟩
theorem frm2 {v : Value} {g : Nat} {ss : List ByteArray} {A : Nat → Prop} (h : Tp W t r d T S D G Bx w) (hi : RtR A w v g ss) (hl : ss.length ≤ 1000) (hz : ∀ s ∈ ss, s.size ≤ 1000000) (hg : g ≤ 1000000) :
    Calls Tryz.prog 13 #[v] w fun E w' => ∃ a cap, E = .returned (.slice a ss.length cap) ∧ SlV w' a cap (((numd g ss).map wireD).map Value.string) ∧ Tp W t r d T S D G Bx w' :=
  (rframed_any hi hl hz hg).mono fun E w' hp => by
    obtain ⟨a, cap, he, hs, hb⟩ := hp
    rw [numd_map] at he
    exact ⟨a, cap, he, hs, h.below hb⟩
end
theorem tie_newy {wi qu f m : Nat} {zf zm : Int} (w : World) (hf' : (f : Int) = zf) (hm' : (m : Int) = zm) (hw : 1 ≤ wi ∧ wi ≤ 16) (hq : 2 ≤ qu ∧ qu ≤ 32) (hf : 1 ≤ f ∧ f ≤ m ∧ m ≤ 1000) :
    Calls Tryz.prog 5 #[.int .i64 (wi : Int), .int .i64 (qu : Int), .int .i64 zf, .int .i64 zm] w (TieNew w (Te.new wi qu f m)) := by
  subst hf' hm'
  exact tie_new wi qu f m w hw hq hf
theorem re_newy {W : World} {N w q f m : Nat} {X : Nat → Prop} {zf zm : Int} (hf' : (f : Int) = zf) (hm' : (m : Int) = zm) (hN : N ≤ W.heap.size) (hX : ∀ k, X k → k < W.heap.size) :
    Calls Tryz.prog 6 #[.int .i64 (w : Int), .int .i64 (q : Int), .int .i64 zf, .int .i64 zm] W fun E w' => ∃ p, E = .returned (.pointer (some ⟨p, 0, none⟩)) ∧ ReAt w' N p X (Sh.new w q f m) ∧ Below W.heap.size W w' := by
  subst hf' hm'
  exact re_new W N w q f m X hN hX
theorem sh_bounds {S : Sh} {n : Nat} (ho : S.ok n) (hn : n ≤ 200) {r : Bool} {s : ByteArray} {k : Nat} (hs : s.size ≤ 1000) :
    ((S.pushI r s).length ≤ 1000 ∧ ∀ x ∈ S.pushI r s, x.size ≤ 1000000) ∧ ((S.ackI k).length ≤ 1000 ∧ ∀ x ∈ S.ackI k, x.size ≤ 1000000) ∧ (S.tickI.length ≤ 1000 ∧ ∀ x ∈ S.tickI, x.size ≤ 1000000) ∧ S.last ≤ 1000000 ∧ S.g ≤ 1000000 := by
  have hla := ho.last_le
  have hg := ho.g
  have ha := ho.all
  have went : ∀ T : Sh, T.ok (n + 1) → (S.went T).length ≤ 1000 ∧ ∀ x ∈ S.went T, x.size ≤ 1000000 := fun T hT => by
    refine ⟨?_, fun x hx => ?_⟩
    · unfold Sh.went
      rw [List.length_take, List.length_drop]
      have := hT.all
      omega
    · have := hT.small x (List.mem_of_mem_drop (List.mem_of_mem_take hx))
      omega
  refine ⟨?_, ?_, ?_, by omega, by omega⟩
  · unfold Sh.pushI
    split
    · rename_i hr
      exact went _ (ho.push hr (by omega))
    · exact ⟨Nat.zero_le _, fun x hx => by cases hx⟩
  · unfold Sh.ackI
    split
    · rename_i hr
      exact went _ ((ho.ack hr).more (Nat.le_succ n))
    · exact ⟨Nat.zero_le _, fun x hx => by cases hx⟩
  · unfold Sh.tickI
    split
    · refine ⟨by rw [S.out_len]; have := S.n_le; omega, fun x hx => ?_⟩
      have := ho.small x (Sh.mem_out hx)
      omega
    · exact ⟨Nat.zero_le _, fun x hx => by cases hx⟩

set_option maxRecDepth 20000 in
set_option maxHeartbeats 32000000 in
theorem law_TiePlays (window queue : Int) (l : List Ta) (ao : Option Addr) (cap : Nat) (W : World) (hs : TaAt W ao cap l) :
    Calls Tryz.prog 3 #[.int .i64 window, .int .i64 queue, .slice ao l.length cap] W (TiOk W) := by
  have HS := Lib.hid hs
  clear hs
  go_enter Tryz.func3, Tryz.ntmps3
  go_wp2_with fail
  refine (ti_awake W).mono ?_
  rintro e w0 ⟨rfl, b0⟩
  have B0 := Lib.hid b0
  clear b0
  by_cases h1 : window < 1
  · have d1 : decide (window < 1) = true := decide_eq_true h1
    clear h1
    go_wp2_with fail
    go_ret
    exact ⟨rfl, B0.out⟩
  have d1 : decide (window < 1) = false := decide_eq_false h1
  by_cases h2 : window > 16
  · have d2 : decide (window > 16) = true := decide_eq_true h2
    clear h1 h2
    go_wp2_with fail
    go_ret
    exact ⟨rfl, B0.out⟩
  have d2 : decide (window > 16) = false := decide_eq_false h2
  by_cases h3 : queue < 2
  · have d3 : decide (queue < 2) = true := decide_eq_true h3
    clear h1 h2 h3
    go_wp2_with fail
    go_ret
    exact ⟨rfl, B0.out⟩
  have d3 : decide (queue < 2) = false := decide_eq_false h3
  by_cases h4 : queue > 32
  · have d4 : decide (queue > 32) = true := decide_eq_true h4
    clear h1 h2 h3 h4
    go_wp2_with fail
    go_ret
    exact ⟨rfl, B0.out⟩
  have d4 : decide (queue > 32) = false := decide_eq_false h4
  by_cases h5 : 80 < l.length
  · have d5 : decide ((l.length : Int) > 80) = true := decide_eq_true (by omega)
    have d5' : decide (80 < l.length) = true := decide_eq_true h5
    clear h1 h2 h3 h4 h5
    go_wp2_with fail
    go_ret
    exact ⟨rfl, B0.out⟩
  have d5 : decide ((l.length : Int) > 80) = false := decide_eq_false (by omega)
  have d5' : decide (80 < l.length) = false := decide_eq_false h5
  obtain ⟨wi, rfl⟩ : ∃ n : Nat, window = n := ⟨window.toNat, by omega⟩
  obtain ⟨qu, rfl⟩ : ∃ n : Nat, queue = n := ⟨queue.toNat, by omega⟩
  have hw : 1 ≤ wi ∧ wi ≤ 16 := by omega
  have hq : 2 ≤ qu ∧ qu ≤ 32 := by omega
  have HW := Lib.hid hw
  have HQ := Lib.hid hq
  clear h1 h2 h3 h4 hw hq
  go_wp2_with fail
  refine (tie_newy w0 (f := 2) (m := 6) rfl rfl HW.out HQ.out (by decide)).mono ?_
  rintro e w1 ⟨t, F, rfl, hT, hb1⟩
  have TX := Lib.hid hT
  have B1 := Lib.hid hb1
  clear hT hb1 d1 d2 d3 d4 d5 d5'
  go_wp2_with fail
  refine (re_newy (N := W.heap.size) (f := 2) (m := 6) (X := fun k => k < w1.heap.size) rfl rfl (Nat.le_trans B0.out.size B1.out.size) (fun k h => h)).mono ?_
  rintro e w2 ⟨r, rfl, hR, hb2⟩
  have RX := Lib.hid hR
  have B2 := Lib.hid hb2
  clear hR hb2
  go_wp2_with fail
  refine (rd_new wi w2).mono ?_
  rintro e w3 ⟨d, rfl, hD, hdl, hb3⟩
  have TP0 := Lib.hid (tp_new B0.out TX.out B1.out RX.out B2.out hD hdl hb3)
  have K0 := Lib.hid (Sh.new_ok HW.out HQ.out (show 1 ≤ 2 ∧ 2 ≤ 6 ∧ 6 ≤ 1000 by decide))
  have K1 := Lib.hid (Dk.ok_new HW.out)
  clear hD hdl hb3 B0 B1 B2 TX RX
  go_wp2_with fail
  go_loopw [11] (fun vi wr => PlaysRel W t r d l.length vi wr) (fun vi _ => l.length - (intOf vi).toNat)
  case atStart => exact ⟨0, Te.new wi qu 2 6, rfl, Nat.zero_le _, TP0.out, K0.out, K1.out⟩
  case round =>
    clear TP0 K0 K1
    obtain ⟨j, T, rfl, hj, hT, hk, hk2⟩ := hrel
    by_cases hlt : j < l.length
    · obtain ⟨b0, off, rfl, hbW, x0, x1, x2⟩ := HS.out.cell j hlt
      have hBd := (HS.out.body l[j] (List.getElem_mem _))
      have c0 : wr.cell? ⟨b0, off + j * 3, none⟩ = some (.int .i64 l[j].op) := (hT.be.cell (p := ⟨b0, off + j * 3, none⟩) hbW).trans x0
      have c1 : wr.cell? ⟨b0, off + j * 3 + 1, none⟩ = some (.slice l[j].b.a l[j].b.s.size l[j].b.c) := (hT.be.cell (p := ⟨b0, off + j * 3 + 1, none⟩) hbW).trans x1
      have c2 : wr.cell? ⟨b0, off + j * 3 + 2, none⟩ = some (.bool l[j].r) := (hT.be.cell (p := ⟨b0, off + j * 3 + 2, none⟩) hbW).trans x2
      generalize l[j] = x at *
      obtain ⟨op, bd, rp⟩ := x
      dsimp only at *
      have BD := Lib.hid (fun (w : World) (h : Below W.heap.size W w) => hBd.below h)
      have T1 := Lib.hid (hT.make [.int .i64 op, .slice bd.a bd.s.size bd.c, .bool rp] 34)
      have HK := Lib.hid hk
      have HK2 := Lib.hid hk2
      have i0' : (0 : Int) ≤ (j : Int) := by omega
      have i1' : (j : Int) < (l.length : Int) := by omega
      have hj200 : j ≤ 80 := by omega
      obtain ⟨sz, hsz⟩ : ∃ sz, bd.s.size = sz := ⟨_, rfl⟩
      obtain ⟨ba, bc, bs⟩ := bd
      dsimp only at *
      obtain ⟨bx, hbx⟩ : ∃ bx, wr.heap.size = bx := ⟨_, rfl⟩
      have u0 := T1.out.box (x := (wr.heap.size, _)) (List.mem_cons_self ..) 0 _ rfl
      have u1 := T1.out.box (x := (wr.heap.size, _)) (List.mem_cons_self ..) 1 _ rfl
      dsimp only at u0 u1
      obtain ⟨wa, hwa⟩ : ∃ wa, wa = wr.alloc (.cells #[.int .i64 op, .slice ba bs.size bc, .bool rp] 34) := ⟨_, rfl⟩
      have T1 := Lib.hid (show Tp W t r d T T.s T.d [] [(bx, [.int .i64 op, .slice ba bs.size bc, .bool rp])] wa by rw [hwa, ← hbx]; exact T1.out)
      have u0 : wa.cell? ⟨bx, 0, none⟩ = some (.int .i64 op) := by rw [hwa, ← hbx]; exact u0
      have u1 : wa.cell? ⟨bx, 1, none⟩ = some (.slice ba bs.size bc) := by rw [hwa, ← hbx]; exact u1
      rw [hsz] at c1 u1 hwa T1
      have SZ := Lib.hid hsz
      clear hT hk hk2 x0 x1 x2 hBd hsz
      go_upto_region 13 with fail
      (try rw [← hwa]); (try rw [hbx])
      clear c0 c1 c2 hwa hbx
      by_cases hz : 100 < sz
      · have e1 : decide ((sz : Int) > 100) = true := decide_eq_true (by omega)
        have e1' : decide (100 < sz) = true := decide_eq_true hz
        clear u0
        go_wp2_with fail
        go_ret
        exact ⟨rfl, T1.out.be⟩
      have e1 : decide ((sz : Int) > 100) = false := decide_eq_false (by omega)
      have e1' : decide (100 < sz) = false := decide_eq_false hz
      have hs100 : bs.size ≤ 100 := by rw [SZ.out]; omega
      go_upto_block 2 with fail
      go_cut [13, 14, 15, 16, 17, 18, 19, 20, 21, 22, 23] from 83 to 201 (fun v13 v14 v15 v16 v17 v18 v19 v20 v21 v22 v23 wx => ∃ T2, Tp W t r d T2 T2.s T2.d [] [] wx ∧ T2.s.ok (j + 1) ∧ T2.d.ok (j + 1))
      case rest =>
        obtain ⟨T2, hT2, hk2, hd2⟩ := hcut
        have TE := Lib.hid hT2
        have KO := Lib.hid hk2
        have KD := Lib.hid hd2
        clear hT2 hk2 hd2 T1 BD HK HK2 u0 u1 SZ
        have ST := Lib.hid (tp_state TE.out KO.out (by omega) KD.out)
        clear TE
        unfold stV at ST
        obtain ⟨T9, hT9⟩ : ∃ T9, T9 = T2 := ⟨_, rfl⟩
        rw [← hT9] at ST
        have OK9 := Lib.hid (show T9.s.ok (j + 1) by rw [hT9]; exact KO.out)
        have DK9 := Lib.hid (show T9.d.ok (j + 1) by rw [hT9]; exact KD.out)
        have ST9 := Lib.hid (show Calls Tryz.prog 21 _ _ (fun E w' => E = Ending.returned (.tuple #[.int .i64 ((T9.s.out.length : Nat) : Int), .int .i64 ((T9.s.waits.length : Nat) : Int), .int .i64 ((T9.d.held.length : Nat) : Int), .int .u64 ((T9.d.next : Nat) : Int), .int .u64 ((T9.s.last : Nat) : Int)]) ∧ Tp W t r d T9 T9.s T9.d [] [] w') from ST.out.mono fun E w' hp => ⟨hp.1, by have q9 := hp.2.less; rw [hT9] at q9 ⊢; exact q9⟩)
        clear ST hT9
        go_upto_region 37 with (go_at_call 21; refine ST9.out.mono ?_; rintro e wz ⟨rfl, hz9⟩; have TZ := Lib.hid hz9; clear hz9)
        clear ST9
        obtain ⟨ao9, co9, aw9, cw9, ad9, cd9, z3, z4, z5, y1, y2⟩ := TZ.out.cells
        have hb1 := T9.s.out_len
        have hb2 := T9.s.n_le
        have hb3 := T9.s.waits_len
        have hb4 := OK9.out.all
        have hb5 := DK9.out.len.1
        obtain ⟨b9, hb9⟩ : ∃ b, decide (T9.s.out.length = 0 ∧ T9.s.waits.length = 0 ∧ T9.d.held.length = 0) = b := ⟨_, rfl⟩
        have QU := Lib.hid (tp_quiet TZ.out OK9.out (by omega) DK9.out hb9)
        have hx1 : T9.s.out.length ≤ 200 := by omega
        have hx2 : T9.s.waits.length ≤ 200 := by omega
        clear hb1 hb2 hb3 hb4
        generalize T9.s.out.length = p1 at *
        generalize T9.s.waits.length = p2 at *
        generalize T9.d.held.length = p3 at *
        generalize T9.d.next = p4 at *
        generalize T9.s.last = p5 at *
        obtain ⟨s1, hs1⟩ : ∃ s1, p1 + p2 = s1 := ⟨_, rfl⟩
        obtain ⟨s2, hs2⟩ : ∃ s2, s1 + p3 = s2 := ⟨_, rfl⟩
        have v1 : IntKind.i64.wrap ((p1 : Int) + (p2 : Int)) = (s1 : Int) := by rw [wrapN (by omega)]; omega
        have v2 : IntKind.i64.wrap ((s1 : Int) + (p3 : Int)) = (s2 : Int) := by rw [wrapN (by omega)]; omega
        have v3 : ((s2 : Int) == 0) = b9 := by
          rw [← hb9]
          refine Bool.eq_iff_iff.2 ?_
          simp
          omega
        have v4 : (s2 == 0) = b9 := by
          rw [← v3]
          refine Bool.eq_iff_iff.2 ?_
          simp
        clear hb9 hb5 hs1 hs2 hx1 hx2
        go_wp2_with (go_at_call 22; refine QU.out.mono ?_; rintro e wq ⟨rfl, hz9⟩; have TQ := Lib.hid hz9; clear hz9)
        go_roundw
        case rel => exact ⟨j + 1, T9, by go_num, by omega, TQ.out, OK9.out, DK9.out⟩
        case measure => simp only [intOf]; omega
      case first =>
        by_cases h0 : op = 0
        · have n0 : (op == 0) = true := by rw [h0]; rfl
          clear h0
          have k1 : wa.drew.cell? ⟨bx, 2, none⟩ = some (.bool rp) := T1.out.box (List.mem_cons_self ..) 2 _ rfl
          obtain ⟨bnd, -, -, hla, -⟩ := sh_bounds (r := rp) (s := bs) (k := 0) HK.out (by omega) (by omega)
          obtain ⟨rm, hrm⟩ : ∃ rm, T.s.room rp = rm := ⟨_, rfl⟩
          have RA := Lib.hid (tp_room2 (T1.out.below (drew_below wa)) HK.out rp)
          rw [hrm] at RA
          have RB := Lib.hid (fun w (h : Tp W t r d T T.s T.d [] [(bx, [.int .i64 op, .slice ba sz bc, .bool rp])] w) => rs_room2 h HK.out rp)
          rw [hrm] at RB
          have PU := Lib.hid (fun (w5 : World) (h5 : Tp W t r d T T.s T.d [] [(bx, [.int .i64 op, .slice ba sz bc, .bool rp])] w5) => tp_push (b := ⟨ba, bc, bs⟩) (rp := rp) h5 HK.out (by omega) (BD.out w5 h5.be) (show bs.size ≤ 30000 by omega))
          dsimp only at PU
          rw [hrm, SZ.out] at PU
          obtain ⟨np, hnp⟩ : ∃ np, (T.pushO rp bs).length = np := ⟨_, rfl⟩
          rw [hnp] at PU
          have CV := Lib.hid (fun (w6 : World) (hb : Below W.heap.size W w6) => (show (convert 32 9 (.slice ba sz bc)).run Tryz.prog w6 = .ok (.string bs) w6 from by
            have := conv_any (BD.out w6 hb).1 ((bsN_len bs).trans SZ.out)
            rw [strB_bsN] at this
            exact this))
          have RP := Lib.hid (fun (w6 : World) (T2 : Te) (G : List (Value × List ByteArray)) (h6 : Tp W t r d T2 T.s T.d G [(bx, [.int .i64 op, .slice ba sz bc, .bool rp])] w6) => rs_push (s := bs) (rp := rp) h6 HK.out (by omega))
          rw [hrm] at RP
          have hn7 : ((numd T.s.last (T.s.pushI rp bs)).map wireD).length = (T.s.pushI rp bs).length := numd_map
          go_upto_region 19 with fail
          go_region_law (first
            | (go_simp; go_at_call 8; refine RA.out.mono ?_; rintro e w4 ⟨rfl, h4⟩; have T4 := Lib.hid h4; have k2 : w4.cell? ⟨bx, 2, none⟩ = some (.bool rp) := h4.box (List.mem_cons_self ..) 2 _ rfl; clear h4)
            | (go_simp; go_at_call 9; refine (RB.out w4 T4.out).mono ?_; rintro e w5 ⟨rfl, h5⟩; have T5 := Lib.hid h5; have j1 : w5.cell? ⟨bx, 1, none⟩ = some (.slice ba sz bc) := h5.box (List.mem_cons_self ..) 1 _ rfl; have j2 : w5.cell? ⟨bx, 2, none⟩ = some (.bool rp) := h5.box (List.mem_cons_self ..) 2 _ rfl; clear h5))
          all_goals
            clear RA RB T4 k1 k2 u0 u1
            go_wp2_with (first
              | (go_at_call 10; refine (PU.out w5 T5.out).mono ?_; rintro e w6 ⟨a6, c6, rfl, h6⟩; have T6 := Lib.hid h6; have j1 : w6.cell? ⟨bx, 1, none⟩ = some (.slice ba sz bc) := h6.box (List.mem_cons_self ..) 1 _ rfl; have j2 : w6.cell? ⟨bx, 2, none⟩ = some (.bool rp) := h6.box (List.mem_cons_self ..) 2 _ rfl; have cv := CV.out w6 h6.be; clear h6)
              | (go_at_call 11; refine (RP.out w6 _ _ T6.out).mono ?_; rintro e w7 ⟨a7, c7, rfl, hi7, h7⟩; have T7 := Lib.hid h7; have I7 := Lib.hid hi7; clear h7 hi7)
              | (go_at_call 13; refine (frm2 T7.out I7.out bnd.1 bnd.2 hla).mono ?_; rintro e w8 ⟨a8, c8, rfl, hs8, h8⟩; have T8 := Lib.hid h8; have S8 := Lib.hid hs8; clear h8 hs8)
              | (go_at_call 12; refine (rows2 T8.out (List.mem_cons_self ..) S8.out hn7 rfl).mono ?_; rintro e w9 ⟨rfl, h9⟩; have TE := Lib.hid h9; clear h9))
            clear PU RP CV T5 T6 cv j1 j2
            clear T7 T8 S8 I7 hn7 bnd hla hnp
            have KO := Lib.hid (show (T.push rp bs).s.ok (j + 1) from HK.out.pushed (by omega))
            have KD := Lib.hid (show (T.push rp bs).d.ok (j + 1) from HK2.out.more (Nat.le_succ j))
            go_meet
            exact ⟨_, TE.out.less, KO.out, KD.out⟩
        by_cases h1 : op = 1
        · have n0 : (op == 0) = false := by rw [h1]; rfl
          have n1 : (op == 1) = true := by rw [h1]; rfl
          clear h1 h0
          have hlt := gotF_lt (bsN bs)
          have hbl := gotB_len bs
          have hst := fun (ok : Bool) (g : Frm) => plays_step (ok := ok) (g := g) HK.out HK2.out
          have HE := Lib.hid (tp_hear (b := ⟨ba, bc, bs⟩) T1.out HK.out (by omega) HK2.out (by omega) (BD.out wa T1.out.be) (show bs.size ≤ 1000000 by omega))
          unfold bdV at HE
          dsimp only at HE
          rw [SZ.out] at HE
          have GF := Lib.hid (fun (w : World) (hb : Below W.heap.size W w) => rfget_any w (bsN bs) ba bc (BD.out w hb).1 (by rw [bsN_len]; omega))
          unfold RFGetPost at GF
          rw [show (bsN bs).length = sz from (bsN_len bs).trans SZ.out] at GF
          change (gotB bs).num < _ at hlt
          have eg : gotF (bsN bs) = gotB bs := rfl
          have eo : okF (bsN bs) = okB bs := rfl
          rw [eg, eo] at GF
          clear eg eo
          obtain ⟨g, hg⟩ : ∃ g, gotB bs = g := ⟨_, rfl⟩
          obtain ⟨ok, hok⟩ : ∃ ok, okB bs = ok := ⟨_, rfl⟩
          rw [hg] at hlt hbl
          rw [hg, hok] at HE GF
          obtain ⟨ga, nm, bod⟩ := g
          dsimp only at hlt hbl
          clear hg hok
          cases ok
          · have HE := Lib.hid (show Calls Tryz.prog 14 #[.pointer (some ⟨t, 0, none⟩), .slice ba sz bc] wa (fun E w' => ∃ au cu ad cd, E = .returned (.tuple #[.slice au 0 cu, .slice ad 0 cd, .int .i64 2]) ∧ Tp W t r d T T.s T.d ((.slice au 0 cu, []) :: (.slice ad 0 cd, []) :: []) [(bx, [.int .i64 op, .slice ba sz bc, .bool rp])] w') from HE.out)
            go_wp2_with (first
              | (go_at_call 14; refine HE.out.mono ?_; rintro e w5 ⟨au, cu, ad, cd, rfl, h5⟩; have T5 := Lib.hid h5; have j1 : w5.cell? ⟨bx, 1, none⟩ = some (.slice ba sz bc) := h5.box (List.mem_cons_self ..) 1 _ rfl; clear h5)
              | (go_at_call 15; refine (GF.out w5 T5.out.be).mono ?_; rintro e w6 ⟨a6, c6, rfl, hs6, hb6, -⟩; have T7 := Lib.hid ((T5.out.below hb6).make [.bool ga, .int .u64 (nm : Int), .slice a6 bod.length c6] 49); clear hs6 hb6)
              | (go_at_call 12; refine (rows2 (rs := []) T8.out (List.mem_cons_of_mem _ (List.mem_cons_self ..)) (SlV.none _) rfl rfl).mono ?_; rintro e w9 ⟨rfl, h9⟩; have TE := Lib.hid h9; clear h9)
              | (go_at_call 12; refine (rows2 (rs := []) T7.out (List.mem_cons_self ..) (SlV.none _) rfl rfl).mono ?_; rintro e w8 ⟨rfl, h8⟩; have T8 := Lib.hid h8; clear h8))
            clear HE GF T5 T7 T8 j1
            have KO := Lib.hid (hst false ⟨ga, nm, bod⟩).1
            have KD := Lib.hid (hst false ⟨ga, nm, bod⟩).2
            have TE := Lib.hid (show Tp W t r d (T.hear false ⟨ga, nm, bod⟩) (T.hear false ⟨ga, nm, bod⟩).s (T.hear false ⟨ga, nm, bod⟩).d _ _ w9 from TE.out)
            clear hst hlt hbl u1 u0
            go_meet
            exact ⟨_, TE.out.less, KO.out, KD.out⟩
          · cases ga
            case true =>
              obtain ⟨-, bnd, -, hla, -⟩ := sh_bounds (r := rp) (s := bs) (k := nm) HK.out (by omega) (by omega)
              obtain ⟨dn, hdn⟩ : ∃ dn, (numd T.s.last (T.s.ackI nm)).map wireD = dn := ⟨_, rfl⟩
              obtain ⟨nd, hnd⟩ : ∃ nd, dn.length = nd := ⟨_, rfl⟩
              have HE := Lib.hid (show Calls Tryz.prog 14 #[.pointer (some ⟨t, 0, none⟩), .slice ba sz bc] wa (fun E w' => ∃ au cu ad cd, E = .returned (.tuple #[.slice au 0 cu, .slice ad nd cd, .int .i64 0]) ∧ Tp W t r d ⟨T.s.acked nm, T.d⟩ T.s T.d ((.slice au 0 cu, []) :: (.slice ad nd cd, dn) :: []) [(bx, [.int .i64 op, .slice ba sz bc, .bool rp])] w') from by rw [← hnd, ← hdn]; exact HE.out)
              have hnn : ((numd T.s.last (T.s.ackI nm)).map wireD).length = (T.s.ackI nm).length := numd_map
              have hnk : (T.s.ackI nm).length = nd := by rw [← hnn, hdn, hnd]
              have HNK := Lib.hid hnk
              have HDN := Lib.hid hdn
              have HND := Lib.hid hnd
              clear hnn hnk hdn hnd
              go_wp2_with (first
                | (go_at_call 14; refine HE.out.mono ?_; rintro e w5 ⟨au, cu, ad, cd, rfl, h5⟩; have T5 := Lib.hid h5; have j1 : w5.cell? ⟨bx, 1, none⟩ = some (.slice ba sz bc) := h5.box (List.mem_cons_self ..) 1 _ rfl; clear h5)
                | (go_at_call 15; refine (GF.out w5 T5.out.be).mono ?_; rintro e w6 ⟨a6, c6, rfl, hs6, hb6, -⟩; have T7 := Lib.hid ((T5.out.below hb6).make [.bool true, .int .u64 (nm : Int), .slice a6 bod.length c6] 49); clear hs6 hb6)
                | (go_at_call 16; refine (rs_ack (k := nm) T7.out HK.out (by omega)).mono ?_; rintro e w8 ⟨a8, c8, rfl, hi8, h8⟩; have T8 := Lib.hid h8; have I8 := Lib.hid hi8; clear h8 hi8)
                | (go_at_call 13; refine (frm2 T8.out I8.out bnd.1 bnd.2 hla).mono ?_; rintro e w9 ⟨a9, c9, he9, hs9, h9⟩; rw [HNK.out] at he9; subst he9; rw [HDN.out] at hs9; have T9 := Lib.hid h9; have S9 := Lib.hid hs9; clear h9 hs9)
                | (go_at_call 12; refine (rows2 T10.out (List.mem_cons_of_mem _ (List.mem_cons_self ..)) S10.out HND.out rfl).mono ?_; rintro e w11 ⟨rfl, h11⟩; have TE := Lib.hid h11; clear h11)
                | (go_at_call 12; refine (rows3 (rs := []) T9.out (List.mem_cons_self ..) (SlV.none _) rfl rfl).mono ?_; rintro e w10 ⟨rfl, h10, hb10⟩; have T10 := Lib.hid h10; have S10 := Lib.hid (S9.out.below hb10); clear h10 hb10))
              clear HE GF T5 T7 T8 T9 T10 S9 S10 I8 j1 HNK HND HDN bnd hla
              have KO := Lib.hid (hst true ⟨true, nm, bod⟩).1
              have KD := Lib.hid (hst true ⟨true, nm, bod⟩).2
              have TE := Lib.hid (show Tp W t r d (T.hear true ⟨true, nm, bod⟩) (T.hear true ⟨true, nm, bod⟩).s (T.hear true ⟨true, nm, bod⟩).d _ _ w11 from TE.out)
              clear hst hlt hbl u1 u0
              go_meet
              exact ⟨_, TE.out.less, KO.out, KD.out⟩
            case false =>
              obtain ⟨up, hup⟩ : ∃ up, T.d.gave nm (strB bod) = up := ⟨_, rfl⟩
              obtain ⟨nu, hnu⟩ : ∃ nu, up.length = nu := ⟨_, rfl⟩
              have hnx := (HK2.out.came (n := nm) (strB bod)).next
              obtain ⟨nx, hnx'⟩ : ∃ nx, (T.d.came nm (strB bod)).next = nx := ⟨_, rfl⟩
              rw [hnx'] at hnx
              obtain ⟨m, hm⟩ : ∃ m, nx - 1 = m := ⟨_, rfl⟩
              have wm : IntKind.u64.wrap ((nx : Int) - 1) = (m : Int) := by rw [wrapU (by omega)]; omega
              have HM := Lib.hid (show m < 18446744073709551616 by omega)
              have HE := Lib.hid (show Calls Tryz.prog 14 #[.pointer (some ⟨t, 0, none⟩), .slice ba sz bc] wa (fun E w' => ∃ au cu ad cd, E = .returned (.tuple #[.slice au nu cu, .slice ad 1 cd, .int .i64 0]) ∧ Tp W t r d ⟨T.s, T.d.came nm (strB bod)⟩ T.s T.d ((.slice au nu cu, up) :: (.slice ad 1 cd, [wireA m]) :: []) [(bx, [.int .i64 op, .slice ba sz bc, .bool rp])] w') from by rw [← hnu, ← hup, ← hm, ← hnx']; exact HE.out)
              go_wp2_with (first
                | (go_at_call 14; refine HE.out.mono ?_; rintro e w5 ⟨au, cu, ad, cd, rfl, h5⟩; have T5 := Lib.hid h5; have j1 : w5.cell? ⟨bx, 1, none⟩ = some (.slice ba sz bc) := h5.box (List.mem_cons_self ..) 1 _ rfl; clear h5)
                | (go_at_call 15; refine (GF.out w5 T5.out.be).mono ?_; rintro e w6 ⟨a6, c6, rfl, hs6, hb6, -⟩; have T7 := Lib.hid ((T5.out.below hb6).make [.bool false, .int .u64 (nm : Int), .slice a6 bod.length c6] 49); have cv := conv_any (len := bod.length) (hs6.below ((Below.refl _ _).alloc (Nat.le_refl _) (.cells #[.bool false, .int .u64 (nm : Int), .slice a6 bod.length c6] 49))) rfl; clear hs6 hb6)
                | (go_at_call 17; refine (rs_take (num := nm) (b := strB bod) T7.out HK2.out (by omega) hlt).mono ?_; rintro e w8 ⟨a8, c8, he8, hs8, h8⟩; rw [hup, hnu] at he8; subst he8; rw [hup] at hs8; have T8 := Lib.hid h8; have S8 := Lib.hid hs8; obtain ⟨-, -, -, -, -, -, -, -, -, y1, -⟩ := h8.cells; rw [hnx'] at y1; clear h8 hs8 cv)
                | (go_at_call 18; refine (rput_ack (k := m) HM.out).mono ?_; rintro e w9 ⟨a9, c9, rfl, hs9, hb9⟩; have cv9 := conv_any hs9 (len := (bytesF (ackFm m)).length) rfl; rw [show strB (bytesF (ackFm m)) = wireA m from rfl] at cv9; have T9 := Lib.hid ((T8.out.below hb9).below ((Below.refl _ w9).alloc (Nat.le_refl _) (.cells #[.string (wireA m)] 9))); have S9 := Lib.hid ((S8.out.below hb9).below ((Below.refl _ w9).alloc (Nat.le_refl _) (.cells #[.string (wireA m)] 9))); have R9 := Lib.hid (slv_lit w9 [.string (wireA m)] #[.string (wireA m)] 9 1 rfl rfl (by unfold maxLen; omega)); clear hs9 hb9)
                | (go_at_call 12; refine (rows2 (rs := [wireA m]) T10.out (List.mem_cons_of_mem _ (List.mem_cons_self ..)) S10.out rfl rfl).mono ?_; rintro e w11 ⟨rfl, h11⟩; have TE := Lib.hid h11; clear h11)
                | (go_at_call 12; refine (rows3 (rs := up) T9.out (List.mem_cons_self ..) S9.out hnu rfl).mono ?_; rintro e w10 ⟨rfl, h10, hb10⟩; have T10 := Lib.hid h10; have S10 := Lib.hid (R9.out.below hb10); clear h10 hb10))
              clear HE GF T5 T7 T8 T9 T10 S8 S9 S10 R9 j1 y1 hnu hup hm hnx hnx' wm HM cv9
              have KO := Lib.hid (hst true ⟨false, nm, bod⟩).1
              have KD := Lib.hid (hst true ⟨false, nm, bod⟩).2
              have TE := Lib.hid (show Tp W t r d (T.hear true ⟨false, nm, bod⟩) (T.hear true ⟨false, nm, bod⟩).s (T.hear true ⟨false, nm, bod⟩).d _ _ w11 from TE.out)
              clear hst hlt hbl u1 u0
              go_meet
              exact ⟨_, TE.out.less, KO.out, KD.out⟩

        have n0 : (op == 0) = false := by simp; exact h0
        have n1 : (op == 1) = false := by simp; exact h1
        obtain ⟨-, -, bnd, -, hla⟩ := sh_bounds (r := rp) (s := bs) (k := 0) HK.out (by omega) (by omega)
        have PU := Lib.hid (tp_tick T1.out HK.out (by omega))
        have hn7 : ((numd T.s.g T.s.tickI).map wireD).length = T.s.tickI.length := numd_map
        go_wp2_with (first
          | (go_at_call 19; refine PU.out.mono ?_; rintro e w6 ⟨a6, c6, rfl, h6⟩; have T6 := Lib.hid h6; clear h6)
          | (go_at_call 20; refine (rs_tick T6.out HK.out (by omega)).mono ?_; rintro e w7 ⟨a7, c7, rfl, hi7, h7⟩; have T7 := Lib.hid h7; have I7 := Lib.hid hi7; clear h7 hi7)
          | (go_at_call 13; refine (frm2 T7.out I7.out bnd.1 bnd.2 hla).mono ?_; rintro e w8 ⟨a8, c8, rfl, hs8, h8⟩; have T8 := Lib.hid h8; have S8 := Lib.hid hs8; clear h8 hs8)
          | (go_at_call 12; refine (rows2 T8.out (List.mem_cons_self ..) S8.out hn7 rfl).mono ?_; rintro e w9 ⟨rfl, h9⟩; have TE := Lib.hid h9; clear h9))
        clear PU T6 T7 T8 S8 I7 hn7 bnd hla u0 u1
        have KO := Lib.hid (show T.tick.s.ok (j + 1) from HK.out.tick)
        have KD := Lib.hid (show T.tick.d.ok (j + 1) from HK2.out.more (Nat.le_succ j))
        go_meet
        exact ⟨_, TE.out.less, KO.out, KD.out⟩
    · obtain rfl : j = l.length := by omega
      have dk : decide ((l.length : Int) < (l.length : Int)) = false := decide_eq_false (by omega)
      go_wp2_with fail
      go_ret
      exact ⟨rfl, hT.be⟩

end Go.Proofs.YtfbojcaedcimcaaGreat
