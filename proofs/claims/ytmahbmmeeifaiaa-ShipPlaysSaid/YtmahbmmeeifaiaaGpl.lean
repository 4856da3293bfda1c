/-
  Any calls: what each answers, what is out, what waits, how long it takes, is as the document says.
-/
import Derived.Test.YtmahbmmeeifaiaaGpn
import Derived.Deep.CutBlock
import Derived.Deep.CutRange
import Derived.Deep.RegionLaw
namespace Go.Proofs.Ytmahbmmeeifaiaa
open Go.RowKit

def PlayRel (W : World) (N p r : Nat) (len : Nat) (i : Value) (wr : World) : Prop := ∃ j S, j ≤ len ∧ i = .int .i64 (j : Nat) ∧ DuoS W N p r S wr ∧ S.ok j

/-- A string as bytes of its own, in new memory. -/
theorem body_str (w : World) (s : ByteArray) (hs : s.size ≤ 1000) : BodyV (fun k => k = w.heap.size) (Lib.bytesWorld w 5 s) ⟨some ⟨w.heap.size, 0, none⟩, grownCap w s.size 0 5, s⟩ :=
  body_of_string w _ s (grownCap_le_maxLen _ _ _ _ (by unfold maxLen; omega))

theorem play_items {w8 w9 : World} {A : Nat → Prop} {N r rq c9 no rco rcw : Nat} {X : Nat → Prop} {S : Sh} {a9 ro rw' : Option Addr} (h : ItR A w9 (.slice a9 S.out.length c9) S.g S.out) (hR : ReR w8 N r rq X S.win S.que S.g S.last S.pa ro rco S.out rw' rcw S.waits) (hb : Below w8.heap.size w8 w9) (hn : S.out.length = no) :
    Calls Try.prog 14 #[.slice a9 S.out.length c9, .slice ro no rco] w9 fun E w' => E = .returned (.bool true) ∧ ∃ q, w' = w9.drewN q := by
  subst hn
  have h1 := hR.below hb
  have h2 : RtR (Free X r rq) w9 (.slice ro S.out.length rco) S.g S.out := ⟨ro, rco, rfl, h1.oo⟩
  exact it_is h h2
theorem play_last {w : World} {N p la : Nat} {F : Nat → Prop} {S : Sh} (h : ShAt w N p F S) (hl : S.last = la) : Calls Try.prog 23 #[.pointer (some ⟨p, 0, none⟩)] w fun E w' => E = .returned (.int .u64 (la : Int)) ∧ w' = w := by
  subst hl
  exact last_any h

set_option maxRecDepth 20000 in
set_option maxHeartbeats 16000000 in
theorem law_ShipPlays (window queue first most : Int) (l : List Sa) (ao : Option Addr) (cap : Nat) (W : World) (hs : SaAt W ao cap l) :
    Calls Try.prog 4 #[.int .i64 window, .int .i64 queue, .int .i64 first, .int .i64 most, .slice ao l.length cap] W (ShOk W) := by
  by_cases hg : (1 ≤ window ∧ window ≤ 16) ∧ (2 ≤ queue ∧ queue ≤ 32) ∧ 1 ≤ first ∧ first ≤ most ∧ most ≤ 1000
  case neg => exact plays_no window queue first most l ao cap W hg
  obtain ⟨a, rfl⟩ : ∃ n : Nat, window = n := ⟨window.toNat, by omega⟩
  obtain ⟨q, rfl⟩ : ∃ n : Nat, queue = n := ⟨queue.toNat, by omega⟩
  obtain ⟨f, rfl⟩ : ∃ n : Nat, first = n := ⟨first.toNat, by omega⟩
  obtain ⟨m, rfl⟩ : ∃ n : Nat, most = n := ⟨most.toNat, by omega⟩
  have ha : 1 ≤ a ∧ a ≤ 16 := by omega
  have hq : 2 ≤ q ∧ q ≤ 32 := by omega
  have hf : 1 ≤ f ∧ f ≤ m ∧ m ≤ 1000 := by omega
  have HS := Lib.hid hs
  have hfit := hs.fit
  have hmax := hs.max
  unfold maxLen at hmax
  have d1 : decide ((a : Int) < 1) = false := decide_eq_false (by omega)
  have d2 : decide ((a : Int) > 16) = false := decide_eq_false (by omega)
  have d3 : decide ((q : Int) < 2) = false := decide_eq_false (by omega)
  have d4 : decide ((q : Int) > 32) = false := decide_eq_false (by omega)
  have d5 : decide ((f : Int) < 1) = false := decide_eq_false (by omega)
  have d6 : decide ((f : Int) > (m : Int)) = false := decide_eq_false (by omega)
  have d6' : decide (m < f) = false := decide_eq_false (by omega)
  have d7 : decide ((m : Int) > 1000) = false := decide_eq_false (by omega)
  have HAA := Lib.hid ha
  have HQQ := Lib.hid hq
  have HFF := Lib.hid hf
  clear hs hg ha hq hf
  go_enter Try.func4, Try.ntmps4
  go_wp2_with fail
  refine (sh_awake W).mono ?_
  rintro e w0 ⟨rfl, hb0⟩
  have B0 := Lib.hid hb0
  clear hb0
  go_wp2_with fail
  refine (sh_new w0 W.heap.size a q f m B0.out.size HAA.out HQQ.out HFF.out).mono ?_
  rintro e w1 ⟨p, F1, rfl, hA1, hb1, hp1⟩
  have A1 := Lib.hid hA1
  have B1 := Lib.hid (B0.out.trans (hb1.mono B0.out.size))
  clear hA1 hb1 hp1
  by_cases hlen : 100 < l.length
  · have d8 : decide ((l.length : Int) > 100) = true := decide_eq_true (by omega)
    go_wp2_with fail
    go_ret
    exact ⟨rfl, B1.out⟩
  · have d8 : decide ((l.length : Int) > 100) = false := decide_eq_false (by omega)
    go_wp2_with fail
    refine (re_new w1 W.heap.size a q f m F1 A1.out.size.1 (fun k h => (A1.out.size.2.2 k h).2)).mono ?_
    rintro e w2 ⟨r, rfl, hR2, hb2⟩
    have T1 := Lib.hid (show DuoS W W.heap.size p r (Sh.new a q f m) w2 from ⟨F1, F1, A1.out.below hb2, hR2, fun k f => f, B1.out.trans (hb2.mono A1.out.size.1)⟩)
    have K0 := Lib.hid (Sh.new_ok HAA.out HQQ.out HFF.out)
    clear hR2 hb2 A1 B1 d1 d2 d3 d4 d5 d6 d6' d7 d8
    go_wp2_with fail
    go_loopw [14] (fun i wr => PlayRel W W.heap.size p r l.length i wr) (fun i _ => l.length - (intOf i).toNat)
    case atStart => exact ⟨0, _, Nat.zero_le _, rfl, T1.out, K0.out⟩
    case round =>
      obtain ⟨j, S, hj, rfl, hT, hk⟩ := hrel
      by_cases hlt : j < l.length
      · obtain ⟨b0, off, rfl, hbW, x0, x1, x2, x3⟩ := HS.out.cell j hlt
        have hn := HS.out.ok l[j] (List.getElem_mem _)
        have c0 : wr.cell? ⟨b0, off + j * 4, none⟩ = some (.int .i64 l[j].op) := (hT.be.cell (p := ⟨b0, off + j * 4, none⟩) hbW).trans x0
        have c1 : wr.cell? ⟨b0, off + j * 4 + 1, none⟩ = some (.int .u64 (l[j].n : Int)) := (hT.be.cell (p := ⟨b0, off + j * 4 + 1, none⟩) hbW).trans x1
        have c2 : wr.cell? ⟨b0, off + j * 4 + 2, none⟩ = some (.string l[j].b) := (hT.be.cell (p := ⟨b0, off + j * 4 + 2, none⟩) hbW).trans x2
        have c3 : wr.cell? ⟨b0, off + j * 4 + 3, none⟩ = some (.bool l[j].r) := (hT.be.cell (p := ⟨b0, off + j * 4 + 3, none⟩) hbW).trans x3
        have jb : (j : Int) < (l.length : Int) := by omega
        have j0 : (0 : Int) ≤ (j : Int) := by omega
        have T := Lib.hid hT
        have K := Lib.hid hk
        clear hT hk T1 K0 x0 x1 x2 x3
        generalize l[j] = x at *
        obtain ⟨op, n, s, rr⟩ := x
        simp only at c0 c1 c2 c3 hn
        have E1 := Lib.hid (T.out.act ⟨op, n, s, rr⟩ 47)
        have hb : Below wr.heap.size wr (wr.alloc (.cells #[.int .i64 op, .int .u64 (n : Int), .string s, .bool rr] 47)) := (Below.refl _ _).alloc (Nat.le_refl _) _
        have BE := Lib.hid (T.out.be.trans (hb.mono T.out.be.size))
        clear hb
        by_cases h50 : 50 < s.size
        · have d9 : decide ((s.size : Int) > 50) = true := decide_eq_true (by omega)
          go_wp2_with fail
          go_ret
          exact ⟨rfl, BE.out⟩
        · have d9 : decide ((s.size : Int) > 50) = false := decide_eq_false (by omega)
          have E2 := Lib.hid (show DuoX W W.heap.size p r wr.heap.size ⟨op, n, s, rr⟩ S S [] (wr.alloc (.cells #[.int .i64 op, .int .u64 (n : Int), .string s, .bool rr] 47)) from E1.out)
          clear E1
          go_upto_block 2 with fail
          obtain ⟨bx, hbx⟩ : ∃ bx, wr.heap.size = bx := ⟨_, rfl⟩
          generalize wr.alloc (.cells #[.int .i64 op, .int .u64 (n : Int), .string s, .bool rr] 47) = wa at *
          rw [hbx] at E2 ⊢
          have hj5 : j ≤ 500 := by omega
          clear c0 c1 c2 c3 hbx BE T hbW
          obtain ⟨y0, y1, y2, y3⟩ := E2.out.cells
          go_cut [16, 17, 18, 19, 20] from 106 to 159 (fun v16 v17 v18 v19 v20 wx => v16 = .bool true ∧ ∃ S1, DuoS W W.heap.size p r S1 wx ∧ S1.ok (j + 1))
          case first =>
            by_cases h0 : op = 0
            · subst h0
              obtain ⟨bb, hbb⟩ : ∃ bb, S.room rr = bb := ⟨_, rfl⟩
              have RA := Lib.hid (fun n => show Calls Try.prog 17 #[.pointer (some ⟨p, 0, none⟩), .bool rr] (wa.drewN n) fun E w' => E = .returned (.bool bb) ∧ ∃ m, w' = (wa.drewN n).drewN m from hbb ▸ duox_room (E2.out.drewN n) K.out)
              have RB := Lib.hid (fun n => show Calls Try.prog 19 #[.pointer (some ⟨r, 0, none⟩), .bool rr] (wa.drewN n) fun E w' => E = .returned (.bool bb) ∧ ∃ m, w' = (wa.drewN n).drewN m from hbb ▸ duox_room2 (E2.out.drewN n) K.out)
              have HB := Lib.hid hbb
              clear hbb
              go_wp2_with fail
              go_quiet (first
                | (go_at_call 17; exact Calls.quiet_of (RA.out _))
                | (go_at_call 19; exact Calls.quiet_of (RB.out _)))
              have E3 := Lib.hid (E2.out.drewN nq)
              generalize wa.drewN nq = wb at *
              clear E2 y0 y1 y2 y3 RA RB
              obtain ⟨y0, y1, y2, y3⟩ := E3.out.cells
              have hcv := Lib.run_convert_string_bytes (P := Try.prog) wb 9 30 5 s Try.underlying9 Try.underlying30 Try.underlying5
              have E4 := Lib.hid (E3.out.below (Joins.below_bytesWorld wb.heap.size wb 5 s (Nat.le_refl _)))
              have BD := Lib.hid (body_str wb s (by omega))
              have z3 : (Lib.bytesWorld wb 5 s).cell? ⟨bx, 3, none⟩ = some (.bool rr) := E4.out.cells.2.2.2
              go_wp2_with fail
              refine (duox_push E4.out K.out hj5 BD.out (by omega) HB.out).mono ?_
              rintro e w5 ⟨a5, c5, rfl, h5⟩
              have E5 := Lib.hid h5
              have u2 := h5.cells.2.2.1
              have u3 := h5.cells.2.2.2
              clear h5 E3 E4 BD hcv y0 y1 y2 y3 z3
              go_wp2_with fail
              refine (duox_push2 E5.out K.out hj5 HB.out).mono ?_
              rintro e w6 ⟨a6, c6, rfl, h6, i6⟩
              have E6 := Lib.hid h6
              have I6 := Lib.hid i6
              clear h6 i6 E5 u2 u3
              go_wp2_with fail
              refine (duox_items E6.out I6.out).mono ?_
              rintro e w7 ⟨rfl, q7, rfl⟩
              have E7 := Lib.hid (E6.out.drewN q7)
              clear E6 I6
              cases bb
              · go_wp2_with fail
                go_meet
                exact ⟨rfl, _, E7.out.two, K.out.pushed (by omega)⟩
              · go_wp2_with fail
                go_meet
                exact ⟨rfl, _, E7.out.two, K.out.pushed (by omega)⟩
            · by_cases h1 : op = 1
              · subst h1
                clear h0
                have y1' : wa.drew.cell? ⟨bx, 1, none⟩ = some (.int .u64 (n : Int)) := y1
                go_upto_region 25 with fail
                go_region_law (first
                  | (go_simp; go_at_call 11; refine (duox_ack E2.out.drew K.out hj5).mono ?_
                     rintro e w5 ⟨a5, c5, rfl, h5⟩
                     have E5 := Lib.hid h5
                     have u1 := h5.cells.2.1
                     clear h5)
                  | (go_simp; go_at_call 21; refine (duox_ack2 E5.out K.out hj5).mono ?_
                     rintro e w6 ⟨a6, c6, rfl, h6, i6⟩
                     have E6 := Lib.hid h6
                     have I6 := Lib.hid i6
                     clear h6 i6)
                  | (go_simp; go_at_call 14; refine (duox_items E6.out I6.out).mono ?_
                     rintro e w7 ⟨rfl, q7, rfl⟩
                     have E7 := Lib.hid (E6.out.drewN q7)))
                all_goals go_wp2_with fail
                all_goals go_meet
                all_goals exact ⟨rfl, _, E7.out.two, K.out.acked.more (by omega)⟩
              · have d6 : (op == 0) = false := by simp; omega
                have d7 : (op == 1) = false := by simp; omega
                clear h0 h1
                go_wp2_with fail
                refine (duox_tick E2.out K.out hj5).mono ?_
                rintro e w5 ⟨a5, c5, rfl, h5⟩
                have E5 := Lib.hid h5
                clear h5 E2
                go_wp2_with fail
                refine (duox_tick2 E5.out K.out hj5).mono ?_
                rintro e w6 ⟨a6, c6, rfl, h6, i6⟩
                have E6 := Lib.hid h6
                have I6 := Lib.hid i6
                clear h6 i6 E5
                go_wp2_with fail
                refine (duox_items E6.out I6.out).mono ?_
                rintro e w7 ⟨rfl, q7, rfl⟩
                have E7 := Lib.hid (E6.out.drewN q7)
                clear E6 I6
                go_wp2_with fail
                go_meet
                exact ⟨rfl, _, E7.out.two, K.out.tick⟩
          case rest =>
            obtain ⟨rfl, S1, hT1, hk1⟩ := hcut
            have T1 := Lib.hid hT1
            have K1 := Lib.hid hk1
            clear hT1 hk1 E2 K y0 y1 y2 y3
            obtain ⟨F, hF⟩ := T1.out.sh
            have SH := Lib.hid hF
            clear hF
            go_wp2_with fail
            refine (left_any SH.out).mono ?_
            rintro e w7 ⟨rfl, q7, rfl⟩
            have T7 := Lib.hid (T1.out.drewN q7)
            have SH7 := Lib.hid (SH.out.drewN q7)
            generalize wc.drewN q7 = w7 at *
            clear T1 SH
            go_wp2_with fail
            refine (waits_any SH7.out K1.out (by omega)).mono ?_
            rintro e w8 ⟨a8, c8, rfl, hq8, hb8⟩
            have T8 := Lib.hid (T7.out.below hb8)
            have SH8 := Lib.hid (SH7.out.below hb8)
            have Q8 := Lib.hid hq8
            clear hq8 hb8 T7 SH7
            obtain ⟨rq, ro, rco, rw', rcw, X, hR⟩ := T8.out.re
            obtain ⟨x0, x1, x2, x3, x4, x5⟩ := hR.cells
            have x6 : w8.cell? ⟨rq, 3, none⟩ = some (.int .i64 (S1.pa.l : Nat)) := hR.pr.c 3 (by decide)
            have x7 : w8.cell? ⟨rq, 4, none⟩ = some (.bool (decide (0 < S1.pa.l))) := hR.pr.c 4 (by decide)
            have RE := Lib.hid hR
            clear hR x0 x1
            obtain ⟨ll, hll⟩ : ∃ ll, S1.pa.l = ll := ⟨_, rfl⟩
            obtain ⟨bb, hbb⟩ : ∃ bb, decide (0 < S1.pa.l) = bb := ⟨_, rfl⟩
            obtain ⟨nw, hnw⟩ : ∃ nw, S1.waits.length = nw := ⟨_, rfl⟩
            obtain ⟨no, hno⟩ : ∃ no, S1.out.length = no := ⟨_, rfl⟩
            obtain ⟨la, hla⟩ : ∃ la, S1.last = la := ⟨_, rfl⟩
            rw [hbb] at x7 ⊢
            rw [hll] at x6 ⊢
            rw [hnw] at x4 ⊢
            rw [hno] at x3
            rw [hla] at x5
            have NW := Lib.hid hnw
            have NO := Lib.hid hno
            have LA := Lib.hid hla
            clear hll hbb hnw hno hla
            go_upto_region 28 with fail
            have z2 : w8.drew.cell? ⟨r, 2, none⟩ = some (.pointer (some ⟨rq, 0, none⟩)) := x2
            have z3 : w8.drew.cell? ⟨r, 3, none⟩ = some (.slice ro no rco) := x3
            have z4 : w8.drew.cell? ⟨r, 4, none⟩ = some (.slice rw' nw rcw) := x4
            have z5 : w8.drew.cell? ⟨r, 5, none⟩ = some (.int .u64 (la : Int)) := x5
            have z6 : w8.drew.cell? ⟨rq, 3, none⟩ = some (.int .i64 (ll : Int)) := x6
            have z7 : w8.drew.cell? ⟨rq, 4, none⟩ = some (.bool bb) := x7
            have SS := Lib.hid (show ∀ w', Below w8.heap.size w8 w' → (fun w' => w'.cell? ⟨r, 2, none⟩ = some (.pointer (some ⟨rq, 0, none⟩)) ∧ w'.cell? ⟨r, 3, none⟩ = some (.slice ro no rco) ∧ w'.cell? ⟨r, 4, none⟩ = some (.slice rw' nw rcw) ∧ w'.cell? ⟨r, 5, none⟩ = some (.int .u64 (la : Int)) ∧ w'.cell? ⟨rq, 3, none⟩ = some (.int .i64 (ll : Int)) ∧ w'.cell? ⟨rq, 4, none⟩ = some (.bool bb) ∧ Hid (Below w8.heap.size w8 w')) w' from fun w' hb => ⟨cell_go x2 hb, cell_go x3 hb, cell_go x4 hb, cell_go x5 hb, cell_go x6 hb, cell_go x7 hb, Lib.hid hb⟩)
            clear z2 z3 z4 z5 z6 z7
            go_cut [219] from 167 to 219 (fun v wx => v = .bool false ∧ Below w8.heap.size w8 wx)
            case first =>
              refine wp_region_noPanic ?_
              refine wp_region_held_drew (S := (fun w' => w'.cell? ⟨r, 2, none⟩ = some (.pointer (some ⟨rq, 0, none⟩)) ∧ w'.cell? ⟨r, 3, none⟩ = some (.slice ro no rco) ∧ w'.cell? ⟨r, 4, none⟩ = some (.slice rw' nw rcw) ∧ w'.cell? ⟨r, 5, none⟩ = some (.int .u64 (la : Int)) ∧ w'.cell? ⟨rq, 3, none⟩ = some (.int .i64 (ll : Int)) ∧ w'.cell? ⟨rq, 4, none⟩ = some (.bool bb) ∧ Hid (Below w8.heap.size w8 w'))) (by kernel_rfl) ?_ (fun hHeld => ?_)
              · exact SS.out _ (drew_below w8)
              refine wpAnyH_take (i := 0) (oi := { dst := some 167, op := Op.move (Operand.tmp 16), type := 4, pos := "law.go:104", after := #[], guard := none }) (v := ?_) rfl (by kernel_rfl) (by kernel_rfl) (by kernel_rfl) (fun _ _ _ h => h) (Or.inl ⟨by rfl, ?_⟩) (by assumption) ?_
              rotate_left
              · (intro w hSw; (try dsimp only at hSw); go_simp; try with_reducible rfl)
              ((try simp only [Act.put]); (try simp only [List.setIfInBounds_toArray]); (try simp only [List.set_cons_succ]); (try simp only [List.set_cons_zero]))
              refine wpAnyH_take (i := 1) (oi := { dst := some 168, op := Op.unOp UnOp.not 4 (Operand.tmp 167), type := 4, pos := "law.go:104", after := #[{ on := 0, ground := Ground.data }], guard := none }) (v := ?_) rfl (by kernel_rfl) (by kernel_rfl) (by kernel_rfl) (fun _ _ _ h => h) (Or.inl ⟨by rfl, ?_⟩) (by assumption) ?_
              rotate_left
              · (intro w hSw; (try dsimp only at hSw); go_simp; try with_reducible rfl)
              ((try simp only [Act.put]); (try simp only [List.setIfInBounds_toArray]); (try simp only [List.set_cons_succ]); (try simp only [List.set_cons_zero]))
              refine wpAnyH_take (i := 2) (oi := { dst := some 169, op := Op.move (Operand.tmp 168), type := 4, pos := "law.go:104", after := #[{ on := 1, ground := Ground.data }], guard := none }) (v := ?_) rfl (by kernel_rfl) (by kernel_rfl) (by kernel_rfl) (fun _ _ _ h => h) (Or.inl ⟨by rfl, ?_⟩) (by assumption) ?_
              rotate_left
              · (intro w hSw; (try dsimp only at hSw); go_simp; try with_reducible rfl)
              ((try simp only [Act.put]); (try simp only [List.setIfInBounds_toArray]); (try simp only [List.set_cons_succ]); (try simp only [List.set_cons_zero]))
              refine wpAnyH_take (i := 3) (oi := { dst := some 170, op := Op.move (Operand.tmp 11), type := 23, pos := "law.go:104", after := #[{ on := 2, ground := Ground.guard }], guard := some (2, false) }) (v := ?_) rfl (by kernel_rfl) (by kernel_rfl) (by kernel_rfl) (fun _ _ _ h => h) (Or.inl ⟨by rfl, ?_⟩) (by assumption) ?_
              rotate_left
              · (intro w hSw; (try dsimp only at hSw); go_simp; try with_reducible rfl)
              ((try simp only [Act.put]); (try simp only [List.setIfInBounds_toArray]); (try simp only [List.set_cons_succ]); (try simp only [List.set_cons_zero]))
              refine wpAnyH_take (i := 5) (oi := { dst := some 172, op := Op.move (Operand.tmp 13), type := 44, pos := "law.go:104", after := #[{ on := 2, ground := Ground.guard }], guard := some (2, false) }) (v := ?_) rfl (by kernel_rfl) (by kernel_rfl) (by kernel_rfl) (fun _ _ _ h => h) (Or.inl ⟨by rfl, ?_⟩) (by assumption) ?_
              rotate_left
              · (intro w hSw; (try dsimp only at hSw); go_simp; try with_reducible rfl)
              ((try simp only [Act.put]); (try simp only [List.setIfInBounds_toArray]); (try simp only [List.set_cons_succ]); (try simp only [List.set_cons_zero]))
              refine wpAnyH_take (i := 6) (oi := { dst := some 173, op := Op.nilCheck (Operand.tmp 172), type := 0, pos := "law.go:104", after := #[{ on := 5, ground := Ground.data }, { on := 2, ground := Ground.guard }], guard := some (2, false) }) (v := ?_) rfl (by kernel_rfl) (by kernel_rfl) (by kernel_rfl) (fun _ _ _ h => h) (Or.inl ⟨by rfl, ?_⟩) (by assumption) ?_
              rotate_left
              · (intro w hSw; (try dsimp only at hSw); go_simp; try with_reducible rfl)
              ((try simp only [Act.put]); (try simp only [List.setIfInBounds_toArray]); (try simp only [List.set_cons_succ]); (try simp only [List.set_cons_zero]))
              refine wpAnyH_take (i := 7) (oi := { dst := some 174, op := Op.fieldAddr 55 (Operand.tmp 173) 3, type := 0, pos := "law.go:104", after := #[{ on := 6, ground := Ground.data }, { on := 2, ground := Ground.guard }], guard := some (2, false) }) (v := ?_) rfl (by kernel_rfl) (by kernel_rfl) (by kernel_rfl) (fun _ _ _ h => h) (Or.inl ⟨by rfl, ?_⟩) (by assumption) ?_
              rotate_left
              · (intro w hSw; (try dsimp only at hSw); go_simp; try with_reducible rfl)
              ((try simp only [Act.put]); (try simp only [List.setIfInBounds_toArray]); (try simp only [List.set_cons_succ]); (try simp only [List.set_cons_zero]))
              refine wpAnyH_take (i := 8) (oi := { dst := some 175, op := Op.load 39 (Operand.tmp 174), type := 39, pos := "law.go:104", after := #[{ on := 7, ground := Ground.data }, { on := 2, ground := Ground.guard }], guard := some (2, false) }) (v := ?_) rfl (by kernel_rfl) (by kernel_rfl) (by kernel_rfl) (fun _ _ _ h => h) (Or.inl ⟨by rfl, ?_⟩) (by assumption) ?_
              rotate_left
              · (intro w hSw; (try dsimp only at hSw); go_simp; try with_reducible rfl)
              ((try simp only [Act.put]); (try simp only [List.setIfInBounds_toArray]); (try simp only [List.set_cons_succ]); (try simp only [List.set_cons_zero]))
              refine wpAnyH_ready (rs := [4]) (by kernel_rfl) (by simp) ?_
              refine AllReadyH.cons (o := { dst := some 171, op := Op.call { callee := Callee.value (Operand.func 15), args := #[Operand.tmp 170], argTypes := #[23] }, type := 27, pos := "law.go:104", after := #[{ on := 3, ground := Ground.data }, { on := 2, ground := Ground.chain }, { on := 2, ground := Ground.guard }], guard := some (2, false) }) rfl (fun K hK => ?_) AllReadyH.nil
              go_simp
              refine (out_any (SH8.out.below (drew_below w8)) K1.out (by omega)).mono ?_
              rintro e w9 ⟨a9, c9, rfl, h9, hb9⟩
              have H9 := Lib.hid h9
              have B9 := Lib.hid (show Below w8.heap.size w8 w9 from ⟨hb9.os, hb9.tape, hb9.output, hb9.size, hb9.block⟩)
              clear h9 hb9
              try go_wp2_with fail
              refine hK.out _ _ ?_ (fun hNew => ?_)
              · first | exact hHeld | exact SS.out _ B9.out | exact SS.out _ B10.out
              clear hK K
              replace hHeld := hNew
              clear hNew
              ((try simp only [Act.put]); (try simp only [List.setIfInBounds_toArray]); (try simp only [List.set_cons_succ]); (try simp only [List.set_cons_zero]))
              refine wpAnyH_ready (rs := [9]) (by kernel_rfl) (by simp) ?_
              refine AllReadyH.cons (o := { dst := some 176, op := Op.call { callee := Callee.value (Operand.func 14), args := #[Operand.tmp 171, Operand.tmp 175], argTypes := #[27, 39] }, type := 4, pos := "law.go:104", after := #[{ on := 4, ground := Ground.data }, { on := 8, ground := Ground.data }, { on := 4, ground := Ground.chain }, { on := 2, ground := Ground.guard }], guard := some (2, false) }) rfl (fun K hK => ?_) AllReadyH.nil
              go_simp
              refine (play_items H9.out RE.out B9.out NO.out).mono ?_
              rintro e w10 ⟨rfl, q10, rfl⟩
              have B10 := Lib.hid (B9.out.trans (show Below w8.heap.size w9 (w9.drewN q10) from ⟨rfl, rfl, rfl, Nat.le_refl _, fun _ _ => rfl⟩))
              try go_wp2_with fail
              refine hK.out _ _ ?_ (fun hNew => ?_)
              · first | exact hHeld | exact SS.out _ B9.out | exact SS.out _ B10.out
              clear hK K
              replace hHeld := hNew
              clear hNew
              ((try simp only [Act.put]); (try simp only [List.setIfInBounds_toArray]); (try simp only [List.set_cons_succ]); (try simp only [List.set_cons_zero]))
              refine wpAnyH_take (i := 10) (oi := { dst := some 177, op := Op.unOp UnOp.not 4 (Operand.tmp 176), type := 4, pos := "law.go:104", after := #[{ on := 9, ground := Ground.data }, { on := 2, ground := Ground.guard }], guard := some (2, false) }) (v := ?_) rfl (by kernel_rfl) (by kernel_rfl) (by kernel_rfl) (fun _ _ _ h => h) (Or.inl ⟨by rfl, ?_⟩) (by assumption) ?_
              rotate_left
              · (intro w hSw; (try dsimp only at hSw); go_simp; try with_reducible rfl)
              ((try simp only [Act.put]); (try simp only [List.setIfInBounds_toArray]); (try simp only [List.set_cons_succ]); (try simp only [List.set_cons_zero]))
              refine wpAnyH_take (i := 11) (oi := { dst := some 178, op := Op.pick (Operand.tmp 169) (Operand.const (Value.bool true)) (Operand.tmp 177), type := 4, pos := "law.go:104", after := #[{ on := 2, ground := Ground.data }, { on := 10, ground := Ground.data }], guard := none }) (v := ?_) rfl (by kernel_rfl) (by kernel_rfl) (by kernel_rfl) (fun _ _ _ h => h) (Or.inl ⟨by rfl, ?_⟩) (by assumption) ?_
              rotate_left
              · (intro w hSw; (try dsimp only at hSw); go_simp; try with_reducible rfl)
              ((try simp only [Act.put]); (try simp only [List.setIfInBounds_toArray]); (try simp only [List.set_cons_succ]); (try simp only [List.set_cons_zero]))
              refine wpAnyH_take (i := 12) (oi := { dst := some 179, op := Op.move (Operand.tmp 178), type := 4, pos := "law.go:104", after := #[{ on := 11, ground := Ground.data }, { on := 9, ground := Ground.chain }], guard := none }) (v := ?_) rfl (by kernel_rfl) (by kernel_rfl) (by kernel_rfl) (fun _ _ _ h => h) (Or.inl ⟨by rfl, ?_⟩) (by assumption) ?_
              rotate_left
              · (intro w hSw; (try dsimp only at hSw); go_simp; try with_reducible rfl)
              ((try simp only [Act.put]); (try simp only [List.setIfInBounds_toArray]); (try simp only [List.set_cons_succ]); (try simp only [List.set_cons_zero]))
              refine wpAnyH_take (i := 13) (oi := { dst := some 180, op := Op.move (Operand.tmp 22), type := 4, pos := "law.go:104", after := #[{ on := 12, ground := Ground.guard }], guard := some (12, false) }) (v := ?_) rfl (by kernel_rfl) (by kernel_rfl) (by kernel_rfl) (fun _ _ _ h => h) (Or.inl ⟨by rfl, ?_⟩) (by assumption) ?_
              rotate_left
              · (intro w hSw; (try dsimp only at hSw); go_simp; try with_reducible rfl)
              ((try simp only [Act.put]); (try simp only [List.setIfInBounds_toArray]); (try simp only [List.set_cons_succ]); (try simp only [List.set_cons_zero]))
              refine wpAnyH_take (i := 14) (oi := { dst := some 181, op := Op.move (Operand.tmp 13), type := 44, pos := "law.go:104", after := #[{ on := 12, ground := Ground.guard }], guard := some (12, false) }) (v := ?_) rfl (by kernel_rfl) (by kernel_rfl) (by kernel_rfl) (fun _ _ _ h => h) (Or.inl ⟨by rfl, ?_⟩) (by assumption) ?_
              rotate_left
              · (intro w hSw; (try dsimp only at hSw); go_simp; try with_reducible rfl)
              ((try simp only [Act.put]); (try simp only [List.setIfInBounds_toArray]); (try simp only [List.set_cons_succ]); (try simp only [List.set_cons_zero]))
              refine wpAnyH_take (i := 15) (oi := { dst := some 182, op := Op.nilCheck (Operand.tmp 181), type := 0, pos := "law.go:104", after := #[{ on := 14, ground := Ground.data }, { on := 12, ground := Ground.guard }], guard := some (12, false) }) (v := ?_) rfl (by kernel_rfl) (by kernel_rfl) (by kernel_rfl) (fun _ _ _ h => h) (Or.inl ⟨by rfl, ?_⟩) (by assumption) ?_
              rotate_left
              · (intro w hSw; (try dsimp only at hSw); go_simp; try with_reducible rfl)
              ((try simp only [Act.put]); (try simp only [List.setIfInBounds_toArray]); (try simp only [List.set_cons_succ]); (try simp only [List.set_cons_zero]))
              refine wpAnyH_take (i := 16) (oi := { dst := some 183, op := Op.fieldAddr 55 (Operand.tmp 182) 2, type := 0, pos := "law.go:104", after := #[{ on := 15, ground := Ground.data }, { on := 12, ground := Ground.guard }], guard := some (12, false) }) (v := ?_) rfl (by kernel_rfl) (by kernel_rfl) (by kernel_rfl) (fun _ _ _ h => h) (Or.inl ⟨by rfl, ?_⟩) (by assumption) ?_
              rotate_left
              · (intro w hSw; (try dsimp only at hSw); go_simp; try with_reducible rfl)
              ((try simp only [Act.put]); (try simp only [List.setIfInBounds_toArray]); (try simp only [List.set_cons_succ]); (try simp only [List.set_cons_zero]))
              refine wpAnyH_take (i := 17) (oi := { dst := some 184, op := Op.load 52 (Operand.tmp 183), type := 52, pos := "law.go:104", after := #[{ on := 16, ground := Ground.data }, { on := 12, ground := Ground.guard }], guard := some (12, false) }) (v := ?_) rfl (by kernel_rfl) (by kernel_rfl) (by kernel_rfl) (fun _ _ _ h => h) (Or.inl ⟨by rfl, ?_⟩) (by assumption) ?_
              rotate_left
              · (intro w hSw; (try dsimp only at hSw); go_simp; try with_reducible rfl)
              ((try simp only [Act.put]); (try simp only [List.setIfInBounds_toArray]); (try simp only [List.set_cons_succ]); (try simp only [List.set_cons_zero]))
              refine wpAnyH_take (i := 18) (oi := { dst := some 185, op := Op.nilCheck (Operand.tmp 184), type := 0, pos := "law.go:104", after := #[{ on := 17, ground := Ground.data }, { on := 12, ground := Ground.guard }], guard := some (12, false) }) (v := ?_) rfl (by kernel_rfl) (by kernel_rfl) (by kernel_rfl) (fun _ _ _ h => h) (Or.inl ⟨by rfl, ?_⟩) (by assumption) ?_
              rotate_left
              · (intro w hSw; (try dsimp only at hSw); go_simp; try with_reducible rfl)
              ((try simp only [Act.put]); (try simp only [List.setIfInBounds_toArray]); (try simp only [List.set_cons_succ]); (try simp only [List.set_cons_zero]))
              refine wpAnyH_take (i := 19) (oi := { dst := some 186, op := Op.fieldAddr 57 (Operand.tmp 185) 4, type := 0, pos := "law.go:104", after := #[{ on := 18, ground := Ground.data }, { on := 12, ground := Ground.guard }], guard := some (12, false) }) (v := ?_) rfl (by kernel_rfl) (by kernel_rfl) (by kernel_rfl) (fun _ _ _ h => h) (Or.inl ⟨by rfl, ?_⟩) (by assumption) ?_
              rotate_left
              · (intro w hSw; (try dsimp only at hSw); go_simp; try with_reducible rfl)
              ((try simp only [Act.put]); (try simp only [List.setIfInBounds_toArray]); (try simp only [List.set_cons_succ]); (try simp only [List.set_cons_zero]))
              refine wpAnyH_take (i := 20) (oi := { dst := some 187, op := Op.load 4 (Operand.tmp 186), type := 4, pos := "law.go:104", after := #[{ on := 19, ground := Ground.data }, { on := 12, ground := Ground.guard }], guard := some (12, false) }) (v := ?_) rfl (by kernel_rfl) (by kernel_rfl) (by kernel_rfl) (fun _ _ _ h => h) (Or.inl ⟨by rfl, ?_⟩) (by assumption) ?_
              rotate_left
              · (intro w hSw; (try dsimp only at hSw); go_simp; try with_reducible rfl)
              ((try simp only [Act.put]); (try simp only [List.setIfInBounds_toArray]); (try simp only [List.set_cons_succ]); (try simp only [List.set_cons_zero]))
              refine wpAnyH_take (i := 21) (oi := { dst := some 188, op := Op.binOp BinOp.neq 4 (Operand.tmp 180) (Operand.tmp 187) 4, type := 4, pos := "law.go:104", after := #[{ on := 13, ground := Ground.data }, { on := 20, ground := Ground.data }, { on := 12, ground := Ground.guard }], guard := some (12, false) }) (v := ?_) rfl (by kernel_rfl) (by kernel_rfl) (by kernel_rfl) (fun _ _ _ h => h) (Or.inl ⟨by rfl, ?_⟩) (by assumption) ?_
              rotate_left
              · (intro w hSw; (try dsimp only at hSw); go_simp; try with_reducible rfl)
              ((try simp only [Act.put]); (try simp only [List.setIfInBounds_toArray]); (try simp only [List.set_cons_succ]); (try simp only [List.set_cons_zero]))
              refine wpAnyH_take (i := 22) (oi := { dst := some 189, op := Op.pick (Operand.tmp 179) (Operand.const (Value.bool true)) (Operand.tmp 188), type := 4, pos := "law.go:104", after := #[{ on := 12, ground := Ground.data }, { on := 21, ground := Ground.data }], guard := none }) (v := ?_) rfl (by kernel_rfl) (by kernel_rfl) (by kernel_rfl) (fun _ _ _ h => h) (Or.inl ⟨by rfl, ?_⟩) (by assumption) ?_
              rotate_left
              · (intro w hSw; (try dsimp only at hSw); go_simp; try with_reducible rfl)
              ((try simp only [Act.put]); (try simp only [List.setIfInBounds_toArray]); (try simp only [List.set_cons_succ]); (try simp only [List.set_cons_zero]))
              refine wpAnyH_take (i := 23) (oi := { dst := some 190, op := Op.move (Operand.tmp 189), type := 4, pos := "law.go:104", after := #[{ on := 22, ground := Ground.data }, { on := 12, ground := Ground.chain }], guard := none }) (v := ?_) rfl (by kernel_rfl) (by kernel_rfl) (by kernel_rfl) (fun _ _ _ h => h) (Or.inl ⟨by rfl, ?_⟩) (by assumption) ?_
              rotate_left
              · (intro w hSw; (try dsimp only at hSw); go_simp; try with_reducible rfl)
              ((try simp only [Act.put]); (try simp only [List.setIfInBounds_toArray]); (try simp only [List.set_cons_succ]); (try simp only [List.set_cons_zero]))
              refine wpAnyH_take (i := 24) (oi := { dst := some 191, op := Op.move (Operand.tmp 21), type := 3, pos := "law.go:104", after := #[{ on := 23, ground := Ground.guard }], guard := some (23, false) }) (v := ?_) rfl (by kernel_rfl) (by kernel_rfl) (by kernel_rfl) (fun _ _ _ h => h) (Or.inl ⟨by rfl, ?_⟩) (by assumption) ?_
              rotate_left
              · (intro w hSw; (try dsimp only at hSw); go_simp; try with_reducible rfl)
              ((try simp only [Act.put]); (try simp only [List.setIfInBounds_toArray]); (try simp only [List.set_cons_succ]); (try simp only [List.set_cons_zero]))
              refine wpAnyH_take (i := 25) (oi := { dst := some 192, op := Op.move (Operand.tmp 13), type := 44, pos := "law.go:104", after := #[{ on := 23, ground := Ground.guard }], guard := some (23, false) }) (v := ?_) rfl (by kernel_rfl) (by kernel_rfl) (by kernel_rfl) (fun _ _ _ h => h) (Or.inl ⟨by rfl, ?_⟩) (by assumption) ?_
              rotate_left
              · (intro w hSw; (try dsimp only at hSw); go_simp; try with_reducible rfl)
              ((try simp only [Act.put]); (try simp only [List.setIfInBounds_toArray]); (try simp only [List.set_cons_succ]); (try simp only [List.set_cons_zero]))
              refine wpAnyH_take (i := 26) (oi := { dst := some 193, op := Op.nilCheck (Operand.tmp 192), type := 0, pos := "law.go:104", after := #[{ on := 25, ground := Ground.data }, { on := 23, ground := Ground.guard }], guard := some (23, false) }) (v := ?_) rfl (by kernel_rfl) (by kernel_rfl) (by kernel_rfl) (fun _ _ _ h => h) (Or.inl ⟨by rfl, ?_⟩) (by assumption) ?_
              rotate_left
              · (intro w hSw; (try dsimp only at hSw); go_simp; try with_reducible rfl)
              ((try simp only [Act.put]); (try simp only [List.setIfInBounds_toArray]); (try simp only [List.set_cons_succ]); (try simp only [List.set_cons_zero]))
              refine wpAnyH_take (i := 27) (oi := { dst := some 194, op := Op.fieldAddr 55 (Operand.tmp 193) 2, type := 0, pos := "law.go:104", after := #[{ on := 26, ground := Ground.data }, { on := 23, ground := Ground.guard }], guard := some (23, false) }) (v := ?_) rfl (by kernel_rfl) (by kernel_rfl) (by kernel_rfl) (fun _ _ _ h => h) (Or.inl ⟨by rfl, ?_⟩) (by assumption) ?_
              rotate_left
              · (intro w hSw; (try dsimp only at hSw); go_simp; try with_reducible rfl)
              ((try simp only [Act.put]); (try simp only [List.setIfInBounds_toArray]); (try simp only [List.set_cons_succ]); (try simp only [List.set_cons_zero]))
              refine wpAnyH_take (i := 28) (oi := { dst := some 195, op := Op.load 52 (Operand.tmp 194), type := 52, pos := "law.go:104", after := #[{ on := 27, ground := Ground.data }, { on := 23, ground := Ground.guard }], guard := some (23, false) }) (v := ?_) rfl (by kernel_rfl) (by kernel_rfl) (by kernel_rfl) (fun _ _ _ h => h) (Or.inl ⟨by rfl, ?_⟩) (by assumption) ?_
              rotate_left
              · (intro w hSw; (try dsimp only at hSw); go_simp; try with_reducible rfl)
              ((try simp only [Act.put]); (try simp only [List.setIfInBounds_toArray]); (try simp only [List.set_cons_succ]); (try simp only [List.set_cons_zero]))
              refine wpAnyH_take (i := 29) (oi := { dst := some 196, op := Op.nilCheck (Operand.tmp 195), type := 0, pos := "law.go:104", after := #[{ on := 28, ground := Ground.data }, { on := 23, ground := Ground.guard }], guard := some (23, false) }) (v := ?_) rfl (by kernel_rfl) (by kernel_rfl) (by kernel_rfl) (fun _ _ _ h => h) (Or.inl ⟨by rfl, ?_⟩) (by assumption) ?_
              rotate_left
              · (intro w hSw; (try dsimp only at hSw); go_simp; try with_reducible rfl)
              ((try simp only [Act.put]); (try simp only [List.setIfInBounds_toArray]); (try simp only [List.set_cons_succ]); (try simp only [List.set_cons_zero]))
              refine wpAnyH_take (i := 30) (oi := { dst := some 197, op := Op.fieldAddr 57 (Operand.tmp 196) 3, type := 0, pos := "law.go:104", after := #[{ on := 29, ground := Ground.data }, { on := 23, ground := Ground.guard }], guard := some (23, false) }) (v := ?_) rfl (by kernel_rfl) (by kernel_rfl) (by kernel_rfl) (fun _ _ _ h => h) (Or.inl ⟨by rfl, ?_⟩) (by assumption) ?_
              rotate_left
              · (intro w hSw; (try dsimp only at hSw); go_simp; try with_reducible rfl)
              ((try simp only [Act.put]); (try simp only [List.setIfInBounds_toArray]); (try simp only [List.set_cons_succ]); (try simp only [List.set_cons_zero]))
              refine wpAnyH_take (i := 31) (oi := { dst := some 198, op := Op.load 3 (Operand.tmp 197), type := 3, pos := "law.go:104", after := #[{ on := 30, ground := Ground.data }, { on := 23, ground := Ground.guard }], guard := some (23, false) }) (v := ?_) rfl (by kernel_rfl) (by kernel_rfl) (by kernel_rfl) (fun _ _ _ h => h) (Or.inl ⟨by rfl, ?_⟩) (by assumption) ?_
              rotate_left
              · (intro w hSw; (try dsimp only at hSw); go_simp; try with_reducible rfl)
              ((try simp only [Act.put]); (try simp only [List.setIfInBounds_toArray]); (try simp only [List.set_cons_succ]); (try simp only [List.set_cons_zero]))
              refine wpAnyH_take (i := 32) (oi := { dst := some 199, op := Op.binOp BinOp.neq 3 (Operand.tmp 191) (Operand.tmp 198) 3, type := 4, pos := "law.go:104", after := #[{ on := 24, ground := Ground.data }, { on := 31, ground := Ground.data }, { on := 23, ground := Ground.guard }], guard := some (23, false) }) (v := ?_) rfl (by kernel_rfl) (by kernel_rfl) (by kernel_rfl) (fun _ _ _ h => h) (Or.inl ⟨by rfl, ?_⟩) (by assumption) ?_
              rotate_left
              · (intro w hSw; (try dsimp only at hSw); go_simp; try with_reducible rfl)
              ((try simp only [Act.put]); (try simp only [List.setIfInBounds_toArray]); (try simp only [List.set_cons_succ]); (try simp only [List.set_cons_zero]))
              refine wpAnyH_take (i := 33) (oi := { dst := some 200, op := Op.pick (Operand.tmp 190) (Operand.const (Value.bool true)) (Operand.tmp 199), type := 4, pos := "law.go:104", after := #[{ on := 23, ground := Ground.data }, { on := 32, ground := Ground.data }], guard := none }) (v := ?_) rfl (by kernel_rfl) (by kernel_rfl) (by kernel_rfl) (fun _ _ _ h => h) (Or.inl ⟨by rfl, ?_⟩) (by assumption) ?_
              rotate_left
              · (intro w hSw; (try dsimp only at hSw); go_simp; try with_reducible rfl)
              ((try simp only [Act.put]); (try simp only [List.setIfInBounds_toArray]); (try simp only [List.set_cons_succ]); (try simp only [List.set_cons_zero]))
              refine wpAnyH_take (i := 34) (oi := { dst := some 201, op := Op.move (Operand.tmp 200), type := 4, pos := "law.go:104", after := #[{ on := 33, ground := Ground.data }, { on := 23, ground := Ground.chain }], guard := none }) (v := ?_) rfl (by kernel_rfl) (by kernel_rfl) (by kernel_rfl) (fun _ _ _ h => h) (Or.inl ⟨by rfl, ?_⟩) (by assumption) ?_
              rotate_left
              · (intro w hSw; (try dsimp only at hSw); go_simp; try with_reducible rfl)
              ((try simp only [Act.put]); (try simp only [List.setIfInBounds_toArray]); (try simp only [List.set_cons_succ]); (try simp only [List.set_cons_zero]))
              refine wpAnyH_take (i := 35) (oi := { dst := some 202, op := Op.move (Operand.tmp 23), type := 40, pos := "law.go:104", after := #[{ on := 34, ground := Ground.guard }], guard := some (34, false) }) (v := ?_) rfl (by kernel_rfl) (by kernel_rfl) (by kernel_rfl) (fun _ _ _ h => h) (Or.inl ⟨by rfl, ?_⟩) (by assumption) ?_
              rotate_left
              · (intro w hSw; (try dsimp only at hSw); go_simp; try with_reducible rfl)
              ((try simp only [Act.put]); (try simp only [List.setIfInBounds_toArray]); (try simp only [List.set_cons_succ]); (try simp only [List.set_cons_zero]))
              refine wpAnyH_take (i := 36) (oi := { dst := some 203, op := Op.call { callee := Callee.builtin Builtin.len, args := #[Operand.tmp 202], argTypes := #[40] }, type := 3, pos := "law.go:104", after := #[{ on := 35, ground := Ground.data }, { on := 34, ground := Ground.guard }], guard := some (34, false) }) (v := ?_) rfl (by kernel_rfl) (by kernel_rfl) (by kernel_rfl) (fun _ _ _ h => h) (Or.inl ⟨by rfl, ?_⟩) (by assumption) ?_
              rotate_left
              · (intro w hSw; (try dsimp only at hSw); go_simp; try with_reducible rfl)
              ((try simp only [Act.put]); (try simp only [List.setIfInBounds_toArray]); (try simp only [List.set_cons_succ]); (try simp only [List.set_cons_zero]))
              refine wpAnyH_take (i := 37) (oi := { dst := some 204, op := Op.move (Operand.tmp 13), type := 44, pos := "law.go:104", after := #[{ on := 34, ground := Ground.guard }], guard := some (34, false) }) (v := ?_) rfl (by kernel_rfl) (by kernel_rfl) (by kernel_rfl) (fun _ _ _ h => h) (Or.inl ⟨by rfl, ?_⟩) (by assumption) ?_
              rotate_left
              · (intro w hSw; (try dsimp only at hSw); go_simp; try with_reducible rfl)
              ((try simp only [Act.put]); (try simp only [List.setIfInBounds_toArray]); (try simp only [List.set_cons_succ]); (try simp only [List.set_cons_zero]))
              refine wpAnyH_take (i := 38) (oi := { dst := some 205, op := Op.nilCheck (Operand.tmp 204), type := 0, pos := "law.go:104", after := #[{ on := 37, ground := Ground.data }, { on := 34, ground := Ground.guard }], guard := some (34, false) }) (v := ?_) rfl (by kernel_rfl) (by kernel_rfl) (by kernel_rfl) (fun _ _ _ h => h) (Or.inl ⟨by rfl, ?_⟩) (by assumption) ?_
              rotate_left
              · (intro w hSw; (try dsimp only at hSw); go_simp; try with_reducible rfl)
              ((try simp only [Act.put]); (try simp only [List.setIfInBounds_toArray]); (try simp only [List.set_cons_succ]); (try simp only [List.set_cons_zero]))
              refine wpAnyH_take (i := 39) (oi := { dst := some 206, op := Op.fieldAddr 55 (Operand.tmp 205) 4, type := 0, pos := "law.go:104", after := #[{ on := 38, ground := Ground.data }, { on := 34, ground := Ground.guard }], guard := some (34, false) }) (v := ?_) rfl (by kernel_rfl) (by kernel_rfl) (by kernel_rfl) (fun _ _ _ h => h) (Or.inl ⟨by rfl, ?_⟩) (by assumption) ?_
              rotate_left
              · (intro w hSw; (try dsimp only at hSw); go_simp; try with_reducible rfl)
              ((try simp only [Act.put]); (try simp only [List.setIfInBounds_toArray]); (try simp only [List.set_cons_succ]); (try simp only [List.set_cons_zero]))
              refine wpAnyH_take (i := 40) (oi := { dst := some 207, op := Op.load 53 (Operand.tmp 206), type := 53, pos := "law.go:104", after := #[{ on := 39, ground := Ground.data }, { on := 34, ground := Ground.guard }], guard := some (34, false) }) (v := ?_) rfl (by kernel_rfl) (by kernel_rfl) (by kernel_rfl) (fun _ _ _ h => h) (Or.inl ⟨by rfl, ?_⟩) (by assumption) ?_
              rotate_left
              · (intro w hSw; (try dsimp only at hSw); go_simp; try with_reducible rfl)
              ((try simp only [Act.put]); (try simp only [List.setIfInBounds_toArray]); (try simp only [List.set_cons_succ]); (try simp only [List.set_cons_zero]))
              refine wpAnyH_take (i := 41) (oi := { dst := some 208, op := Op.call { callee := Callee.builtin Builtin.len, args := #[Operand.tmp 207], argTypes := #[53] }, type := 3, pos := "law.go:104", after := #[{ on := 40, ground := Ground.data }, { on := 34, ground := Ground.guard }], guard := some (34, false) }) (v := ?_) rfl (by kernel_rfl) (by kernel_rfl) (by kernel_rfl) (fun _ _ _ h => h) (Or.inl ⟨by rfl, ?_⟩) (by assumption) ?_
              rotate_left
              · (intro w hSw; (try dsimp only at hSw); go_simp; try with_reducible rfl)
              ((try simp only [Act.put]); (try simp only [List.setIfInBounds_toArray]); (try simp only [List.set_cons_succ]); (try simp only [List.set_cons_zero]))
              refine wpAnyH_take (i := 42) (oi := { dst := some 209, op := Op.binOp BinOp.neq 3 (Operand.tmp 203) (Operand.tmp 208) 3, type := 4, pos := "law.go:104", after := #[{ on := 36, ground := Ground.data }, { on := 41, ground := Ground.data }, { on := 34, ground := Ground.guard }], guard := some (34, false) }) (v := ?_) rfl (by kernel_rfl) (by kernel_rfl) (by kernel_rfl) (fun _ _ _ h => h) (Or.inl ⟨by rfl, ?_⟩) (by assumption) ?_
              rotate_left
              · (intro w hSw; (try dsimp only at hSw); go_simp; try with_reducible rfl)
              ((try simp only [Act.put]); (try simp only [List.setIfInBounds_toArray]); (try simp only [List.set_cons_succ]); (try simp only [List.set_cons_zero]))
              refine wpAnyH_take (i := 43) (oi := { dst := some 210, op := Op.pick (Operand.tmp 201) (Operand.const (Value.bool true)) (Operand.tmp 209), type := 4, pos := "law.go:104", after := #[{ on := 34, ground := Ground.data }, { on := 42, ground := Ground.data }], guard := none }) (v := ?_) rfl (by kernel_rfl) (by kernel_rfl) (by kernel_rfl) (fun _ _ _ h => h) (Or.inl ⟨by rfl, ?_⟩) (by assumption) ?_
              rotate_left
              · (intro w hSw; (try dsimp only at hSw); go_simp; try with_reducible rfl)
              ((try simp only [Act.put]); (try simp only [List.setIfInBounds_toArray]); (try simp only [List.set_cons_succ]); (try simp only [List.set_cons_zero]))
              refine wpAnyH_take (i := 44) (oi := { dst := some 211, op := Op.move (Operand.tmp 210), type := 4, pos := "law.go:104", after := #[{ on := 43, ground := Ground.data }, { on := 34, ground := Ground.chain }], guard := none }) (v := ?_) rfl (by kernel_rfl) (by kernel_rfl) (by kernel_rfl) (fun _ _ _ h => h) (Or.inl ⟨by rfl, ?_⟩) (by assumption) ?_
              rotate_left
              · (intro w hSw; (try dsimp only at hSw); go_simp; try with_reducible rfl)
              ((try simp only [Act.put]); (try simp only [List.setIfInBounds_toArray]); (try simp only [List.set_cons_succ]); (try simp only [List.set_cons_zero]))
              refine wpAnyH_take (i := 45) (oi := { dst := some 212, op := Op.move (Operand.tmp 11), type := 23, pos := "law.go:104", after := #[{ on := 44, ground := Ground.guard }], guard := some (44, false) }) (v := ?_) rfl (by kernel_rfl) (by kernel_rfl) (by kernel_rfl) (fun _ _ _ h => h) (Or.inl ⟨by rfl, ?_⟩) (by assumption) ?_
              rotate_left
              · (intro w hSw; (try dsimp only at hSw); go_simp; try with_reducible rfl)
              ((try simp only [Act.put]); (try simp only [List.setIfInBounds_toArray]); (try simp only [List.set_cons_succ]); (try simp only [List.set_cons_zero]))
              refine wpAnyH_take (i := 47) (oi := { dst := some 214, op := Op.move (Operand.tmp 13), type := 44, pos := "law.go:104", after := #[{ on := 44, ground := Ground.guard }], guard := some (44, false) }) (v := ?_) rfl (by kernel_rfl) (by kernel_rfl) (by kernel_rfl) (fun _ _ _ h => h) (Or.inl ⟨by rfl, ?_⟩) (by assumption) ?_
              rotate_left
              · (intro w hSw; (try dsimp only at hSw); go_simp; try with_reducible rfl)
              ((try simp only [Act.put]); (try simp only [List.setIfInBounds_toArray]); (try simp only [List.set_cons_succ]); (try simp only [List.set_cons_zero]))
              refine wpAnyH_take (i := 48) (oi := { dst := some 215, op := Op.nilCheck (Operand.tmp 214), type := 0, pos := "law.go:104", after := #[{ on := 47, ground := Ground.data }, { on := 44, ground := Ground.guard }], guard := some (44, false) }) (v := ?_) rfl (by kernel_rfl) (by kernel_rfl) (by kernel_rfl) (fun _ _ _ h => h) (Or.inl ⟨by rfl, ?_⟩) (by assumption) ?_
              rotate_left
              · (intro w hSw; (try dsimp only at hSw); go_simp; try with_reducible rfl)
              ((try simp only [Act.put]); (try simp only [List.setIfInBounds_toArray]); (try simp only [List.set_cons_succ]); (try simp only [List.set_cons_zero]))
              refine wpAnyH_take (i := 49) (oi := { dst := some 216, op := Op.fieldAddr 55 (Operand.tmp 215) 5, type := 0, pos := "law.go:104", after := #[{ on := 48, ground := Ground.data }, { on := 44, ground := Ground.guard }], guard := some (44, false) }) (v := ?_) rfl (by kernel_rfl) (by kernel_rfl) (by kernel_rfl) (fun _ _ _ h => h) (Or.inl ⟨by rfl, ?_⟩) (by assumption) ?_
              rotate_left
              · (intro w hSw; (try dsimp only at hSw); go_simp; try with_reducible rfl)
              ((try simp only [Act.put]); (try simp only [List.setIfInBounds_toArray]); (try simp only [List.set_cons_succ]); (try simp only [List.set_cons_zero]))
              refine wpAnyH_take (i := 50) (oi := { dst := some 217, op := Op.load 32 (Operand.tmp 216), type := 32, pos := "law.go:104", after := #[{ on := 49, ground := Ground.data }, { on := 44, ground := Ground.guard }], guard := some (44, false) }) (v := ?_) rfl (by kernel_rfl) (by kernel_rfl) (by kernel_rfl) (fun _ _ _ h => h) (Or.inl ⟨by rfl, ?_⟩) (by assumption) ?_
              rotate_left
              · (intro w hSw; (try dsimp only at hSw); go_simp; try with_reducible rfl)
              ((try simp only [Act.put]); (try simp only [List.setIfInBounds_toArray]); (try simp only [List.set_cons_succ]); (try simp only [List.set_cons_zero]))
              refine wpAnyH_ready (rs := [46]) (by kernel_rfl) (by simp) ?_
              refine AllReadyH.cons (o := { dst := some 213, op := Op.call { callee := Callee.value (Operand.func 23), args := #[Operand.tmp 212], argTypes := #[23] }, type := 32, pos := "law.go:104", after := #[{ on := 45, ground := Ground.data }, { on := 44, ground := Ground.chain }, { on := 44, ground := Ground.guard }], guard := some (44, false) }) rfl (fun K hK => ?_) AllReadyH.nil
              go_simp
              refine (play_last (SH8.out.below B10.out) LA.out).mono ?_
              rintro e w11 ⟨rfl, rfl⟩
              try go_wp2_with fail
              refine hK.out _ _ ?_ (fun hNew => ?_)
              · first | exact hHeld | exact SS.out _ B9.out | exact SS.out _ B10.out
              clear hK K
              replace hHeld := hNew
              clear hNew
              ((try simp only [Act.put]); (try simp only [List.setIfInBounds_toArray]); (try simp only [List.set_cons_succ]); (try simp only [List.set_cons_zero]))
              refine wpAnyH_take (i := 51) (oi := { dst := some 218, op := Op.binOp BinOp.neq 32 (Operand.tmp 213) (Operand.tmp 217) 32, type := 4, pos := "law.go:104", after := #[{ on := 46, ground := Ground.data }, { on := 50, ground := Ground.data }, { on := 44, ground := Ground.guard }], guard := some (44, false) }) (v := ?_) rfl (by kernel_rfl) (by kernel_rfl) (by kernel_rfl) (fun _ _ _ h => h) (Or.inl ⟨by rfl, ?_⟩) (by assumption) ?_
              rotate_left
              · (intro w hSw; (try dsimp only at hSw); go_simp; try with_reducible rfl)
              ((try simp only [Act.put]); (try simp only [List.setIfInBounds_toArray]); (try simp only [List.set_cons_succ]); (try simp only [List.set_cons_zero]))
              refine wpAnyH_take (i := 52) (oi := { dst := some 219, op := Op.pick (Operand.tmp 211) (Operand.const (Value.bool true)) (Operand.tmp 218), type := 4, pos := "law.go:104", after := #[{ on := 44, ground := Ground.data }, { on := 51, ground := Ground.data }], guard := none }) (v := ?_) rfl (by kernel_rfl) (by kernel_rfl) (by kernel_rfl) (fun _ _ _ h => h) (Or.inl ⟨by rfl, ?_⟩) (by assumption) ?_
              rotate_left
              · (intro w hSw; (try dsimp only at hSw); go_simp; try with_reducible rfl)
              ((try simp only [Act.put]); (try simp only [List.setIfInBounds_toArray]); (try simp only [List.set_cons_succ]); (try simp only [List.set_cons_zero]))
              refine wpAnyH_done (by kernel_rfl) ?_ _
              refine NoPanic.normal ?_
              go_wp2_with fail
              go_meet
              exact ⟨rfl, B10.out⟩
            case rest =>
              obtain ⟨rfl, hb⟩ := hcut
              have TC := Lib.hid (T8.out.below hb)
              have QC := Lib.hid (Q8.out.below hb)
              have RC := Lib.hid (RE.out.below hb)
              have y4 := cell_go x4 hb
              obtain ⟨aq, cq, L, e1, e2, q1, q2⟩ := QC.out
              have e3 : L.length = nw := by rw [← NW.out, ← e2, List.length_map]
              simp only [Value.slice.injEq] at e1
              obtain ⟨rfl, -, rfl⟩ := e1
              rw [e3] at q1
              have QR := Lib.hid q1
              have QB := Lib.hid q2
              have QE := Lib.hid e2
              have LE := Lib.hid e3
              have hqf := q1.fit
              have hqm := q1.max
              unfold maxLen at hqm
              have RW := Lib.hid (show RowV (Free X r rq) wc rw' rcw nw 1 (S1.waits.map Value.string) by rw [← NW.out]; exact RC.out.ow)
              clear q1 q2 e2 e3 hb T8 Q8 RE x2 x3 x4 x5 x6 x7 SS SH8
              go_wp2_with fail
              go_loopw [24] (fun i2 wr2 => ∃ k q, k ≤ nw ∧ i2 = .int .i64 ((k : Nat) : Int) ∧ wr2 = wc.drewN q) (fun i2 _ => nw - (intOf i2).toNat)
              case atStart => exact ⟨0, 0, Nat.zero_le _, rfl, rfl⟩
              case round =>
                obtain ⟨k, q5, hk5, rfl, rfl⟩ := hrel
                by_cases hlt5 : k < nw
                · have hk1 : k < L.length := by rw [LE.out]; exact hlt5
                  have hk2 : k < S1.waits.length := by rw [NW.out]; exact hlt5
                  obtain ⟨b1, o1, rfl, hb1, -, k0⟩ := QR.out.cell k (bdV L[k]) (by rw [List.getElem?_map, List.getElem?_eq_getElem hk1]; rfl)
                  obtain ⟨b2, o2, rfl, hb2, -, m0⟩ := RW.out.cell k (.string S1.waits[k]) (by rw [List.getElem?_map, List.getElem?_eq_getElem hk2]; rfl)
                  have hs5 : L[k].s = S1.waits[k] := by
                    have h := QE.out
                    have h2 : (L.map Bd.s)[k]'(by rw [List.length_map]; exact hk1) = S1.waits[k] := by simp only [h]
                    rw [List.getElem_map] at h2
                    exact h2
                  obtain ⟨t5, ht5⟩ : ∃ t5, S1.waits[k] = t5 := ⟨_, rfl⟩
                  obtain ⟨bd, hbd⟩ : ∃ bd, L[k] = bd := ⟨_, rfl⟩
                  have hB := QB.out L[k] (List.getElem_mem _)
                  rw [ht5] at hs5 m0
                  rw [hbd] at hs5 k0 hB
                  obtain ⟨ab, cb, sb⟩ := bd
                  have hs' : sb = t5 := hs5
                  subst hs'
                  have g0 : ∀ q, (wc.drewN q).cell? ⟨b1, o1 + k, none⟩ = some (.slice ab sb.size cb) := fun _ => k0
                  have g1 : ∀ q, (wc.drewN q).cell? ⟨b2, o2 + k, none⟩ = some (.string sb) := fun _ => m0
                  have g2 : wc.cell? ⟨b1, o1 + k, none⟩ = some (.slice ab sb.size cb) := k0
                  have g3 : wc.cell? ⟨b2, o2 + k, none⟩ = some (.string sb) := m0
                  have cv : ∀ q, (convert 30 9 (.slice ab sb.size cb)).run Try.prog (wc.drewN q) = .ok (.string sb) (wc.drewN q) := fun q => by
                    have := conv_any (w := wc.drewN q) (hB.1.below ⟨rfl, rfl, rfl, Nat.le_refl _, fun _ _ => rfl⟩) (bsN_len sb)
                    rw [strB_bsN] at this
                    exact this
                  have i5 : (0 : Int) ≤ (k : Int) := by omega
                  have i6 : (k : Int) < (nw : Int) := by omega
                  clear k0 m0 hs5 ht5 hbd hB hk1 hk2
                  go_wp2_with fail
                  go_quiet (fail)
                  go_wp2_with fail
                  go_roundw
                  case rel => exact ⟨k + 1, _, by omega, by go_num, rfl⟩
                  case measure => simp only [intOf]; omega
                · obtain rfl : k = nw := by omega
                  have dk : decide ((k : Int) < (k : Int)) = false := decide_eq_false (by omega)
                  go_wp2_with fail
                  go_roundw
                  case rel => exact ⟨j + 1, S1, by omega, by go_num, TC.out.drewN _, K1.out⟩
                  case measure => simp only [intOf]; omega
      · have T := Lib.hid hT.be
        clear hT
        go_wp2_with fail
        go_ret
        exact ⟨rfl, T.out⟩

end Go.Proofs.Ytmahbmmeeifaiaa
