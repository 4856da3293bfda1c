/-
  What was pushed goes out once first, in its order, with numbers from 1 on.
-/
import Derived.Test.YtmahbmmeeifaiaaGobx
import Derived.Deep.CutBlock
import Derived.Deep.CutRange
import Derived.Deep.RegionLaw
namespace Go.Proofs.Ytmahbmmeeifaiaa
open Go.RowKit

theorem body_str2 (w : World) (s : ByteArray) (hs : s.size ≤ 1000) : BodyV (fun k => k = w.heap.size) (Lib.bytesWorld w 5 s) ⟨some ⟨w.heap.size, 0, none⟩, grownCap w s.size 0 5, s⟩ :=
  body_of_string w _ s (grownCap_le_maxLen _ _ _ _ (by unfold maxLen; omega))

section
variable {W w : World} {N p b n : Nat} {x : Sa} {S : Sh} {v : Value} {l : List ByteArray} {L : List Its}
theorem ordx_push {A : Nat → Prop} {s : ByteArray} {a : Option Addr} {c : Nat} {rr bb : Bool} (h : OrdX W N p b x S v l L w) (ho : S.ok n) (hn : n ≤ 500) (hb : BodyV A w ⟨a, c, s⟩) (hs : s.size ≤ 1000) (hbb : S.room rr = bb) :
    Calls Try.prog 10 #[.pointer (some ⟨p, 0, Option.none⟩), .slice a s.size c, .bool rr] w fun E w' => ∃ a cap, E = .returned (.tuple #[.slice a (S.pushI rr s).length cap, .bool bb]) ∧ OrdX W N p b x (S.pushed rr s) v l (⟨.slice a (S.pushI rr s).length cap, S.last, S.pushI rr s⟩ :: L) w' := by
  subst hbb
  exact ordx_op h (fun _ hA => push_any (b := ⟨a, c, s⟩) hA ho hn hb hs)
theorem ordx_ack {k : Nat} (h : OrdX W N p b x S v l L w) (ho : S.ok n) (hn : n ≤ 500) :
    Calls Try.prog 11 #[.pointer (some ⟨p, 0, Option.none⟩), .int .u64 (k : Int)] w fun E w' => ∃ a cap, E = .returned (.slice a (S.ackI k).length cap) ∧ OrdX W N p b x (S.acked k) v l (⟨.slice a (S.ackI k).length cap, S.last, S.ackI k⟩ :: L) w' :=
  ordx_op h (fun _ hA => ack_any hA ho hn)
theorem ordx_tick (h : OrdX W N p b x S v l L w) (ho : S.ok n) (hn : n ≤ 500) :
    Calls Try.prog 12 #[.pointer (some ⟨p, 0, Option.none⟩)] w fun E w' => ∃ a cap, E = .returned (.slice a S.tickI.length cap) ∧ OrdX W N p b x S.tick v l (⟨.slice a S.tickI.length cap, S.g, S.tickI⟩ :: L) w' :=
  ordx_op h (fun _ hA => tick_any hA ho hn)
end

/-- What goes out between two states is what was pushed, from the one's last on. -/
def Goes (S T : Sh) (ss : List ByteArray) : Prop := T.last = S.last + ss.length ∧ ss = (T.all.drop S.last).take ss.length
theorem goes_none {S T : Sh} (h : T.last = S.last) : Goes S T [] := ⟨h, rfl⟩
theorem goes_went {S T : Sh} {n : Nat} (ho : T.ok n) (h : S.last ≤ T.last) : Goes S T (S.went T) := by
  have h1 := T.n_le
  have h2 := ho.g
  have h3 : T.last = T.g + T.n := rfl
  have hl : (S.went T).length = T.last - S.last := by
    unfold Sh.went
    rw [List.length_take, List.length_drop]
    omega
  exact ⟨by omega, by rw [hl]; rfl⟩
theorem last_push {S : Sh} {s : ByteArray} : S.last ≤ (S.push s).last := by
  have h1 : (S.push s).last = S.g + min S.win ((S.push s).all.length - S.g) := rfl
  have h2 : S.last = S.g + min S.win (S.all.length - S.g) := rfl
  have h3 : (S.push s).all.length = S.all.length + 1 := by show (S.all ++ [s]).length = _; simp
  omega
theorem last_ack {S : Sh} {k n : Nat} (ho : S.ok n) (h : S.acks k = true) : S.last ≤ (S.ack k).last := by
  obtain ⟨h1, h2⟩ := Sh.acks_spec.1 h
  have h3 : (S.ack k).last = k + min S.win (S.all.length - k) := rfl
  have h4 : S.last = S.g + min S.win (S.all.length - S.g) := rfl
  have h5 := ho.g
  omega
theorem goes_pushed {S : Sh} {n : Nat} {r : Bool} {s : ByteArray} (ho : S.ok n) (hs : s.size ≤ 1000) : Goes S (S.pushed r s) (S.pushI r s) := by
  have h1 := ho.pushed (r := r) hs
  unfold Sh.pushed Sh.pushI at *
  cases hr : S.room r
  · exact goes_none rfl
  · rw [hr] at h1
    exact goes_went h1 last_push
theorem goes_acked {S : Sh} {n k : Nat} (ho : S.ok n) : Goes S (S.acked k) (S.ackI k) := by
  have h1 := ho.acked (k := k)
  unfold Sh.acked Sh.ackI at *
  cases hr : S.acks k
  · exact goes_none rfl
  · rw [hr] at h1
    exact goes_went h1 (last_ack ho hr)
theorem all_pushed {S : Sh} {r : Bool} {s : ByteArray} : (S.pushed r s).all = if S.room r then S.all ++ [s] else S.all := by
  unfold Sh.pushed
  cases hr : S.room r
  · rfl
  · rfl
theorem all_acked {S : Sh} {k : Nat} : (S.acked k).all = S.all := by
  unfold Sh.acked
  cases hr : S.acks k
  · rfl
  · rfl
theorem Sh.sum {S : Sh} {n : Nat} (ho : S.ok n) : S.last + S.waits.length = S.all.length := by
  have h1 := S.waits_len
  have h2 := S.n_le
  have h3 := ho.g
  have h4 : S.last = S.g + S.n := rfl
  omega

theorem ord_last {w : World} {N p la : Nat} {F : Nat → Prop} {S : Sh} (h : ShAt w N p F S) (hl : S.last = la) : Calls Try.prog 23 #[.pointer (some ⟨p, 0, none⟩)] w fun E w' => E = .returned (.int .u64 (la : Int)) ∧ w' = w := by
  subst hl
  exact last_any h

def OrdRel (W : World) (N p a q : Nat) (len : Nat) (v nx i : Value) (wr : World) : Prop :=
  ∃ j S, (S.win = a ∧ S.que = q) ∧ j ≤ len ∧ i = .int .i64 (j : Nat) ∧ nx = .int .u64 ((S.last + 1 : Nat) : Int) ∧ OrdS W N p S v S.all wr ∧ S.ok j

set_option maxRecDepth 20000 in
set_option maxHeartbeats 16000000 in
theorem law_ShipOrder (window queue : Int) (l : List Sa) (ao : Option Addr) (cap : Nat) (W : World) (hs : SaAt W ao cap l) :
    Calls Try.prog 5 #[.int .i64 window, .int .i64 queue, .slice ao l.length cap] W (ShOk W) := by
  obtain ⟨i0, hi0, hz0, hz1, hz2⟩ := info_g Try.infoSt
  have HS := Lib.hid hs
  have hfit := hs.fit
  have hmax := hs.max
  unfold maxLen at hmax
  clear hs
  go_enter Try.func5, Try.ntmps5
  go_wp2_with fail
  refine (sh_awake W).mono ?_
  rintro e w0 ⟨rfl, hb0⟩
  have B0 := Lib.hid hb0
  clear hb0
  by_cases h0 : window < 1
  · have d0 : decide (window < 1) = true := decide_eq_true h0
    clear h0
    go_wp2_with fail
    go_ret
    exact ⟨rfl, B0.out⟩
  have d0 : decide (window < 1) = false := decide_eq_false h0
  by_cases h1 : window > 16
  · have d1 : decide (window > 16) = true := decide_eq_true h1
    clear h0 h1
    go_wp2_with fail
    go_ret
    exact ⟨rfl, B0.out⟩
  have d1 : decide (window > 16) = false := decide_eq_false h1
  by_cases h2 : queue < 2
  · have d2 : decide (queue < 2) = true := decide_eq_true h2
    clear h0 h1 h2
    go_wp2_with fail
    go_ret
    exact ⟨rfl, B0.out⟩
  have d2 : decide (queue < 2) = false := decide_eq_false h2
  by_cases h3 : queue > 32
  · have d3 : decide (queue > 32) = true := decide_eq_true h3
    clear h0 h1 h2 h3
    go_wp2_with fail
    go_ret
    exact ⟨rfl, B0.out⟩
  have d3 : decide (queue > 32) = false := decide_eq_false h3
  by_cases hlen : 100 < l.length
  · have d8 : decide ((l.length : Int) > 100) = true := decide_eq_true (by omega)
    go_wp2_with fail
    go_ret
    exact ⟨rfl, B0.out⟩
  have d8 : decide ((l.length : Int) > 100) = false := decide_eq_false (by omega)
  obtain ⟨a, rfl⟩ : ∃ n : Nat, window = n := ⟨window.toNat, by omega⟩
  obtain ⟨q, rfl⟩ : ∃ n : Nat, queue = n := ⟨queue.toNat, by omega⟩
  have ha : 1 ≤ a ∧ a ≤ 16 := by omega
  have hq : 2 ≤ q ∧ q ≤ 32 := by omega
  have HAA := Lib.hid ha
  have HQQ := Lib.hid hq
  clear h0 h1 h2 h3 ha hq
  go_wp2_with fail
  refine (so_newz (a := a) (q := q) (f := 1) (m := 4) rfl rfl rfl rfl HAA.out HQQ.out (by decide) B0.out B0.out.size).mono ?_
  rintro e w1 ⟨p, rfl, hA1⟩
  have T1 := Lib.hid (show OrdS W W.heap.size p (Sh.new a q 1 4) (.slice none 0 0) [] w1 from by
    obtain ⟨F, h1, h2, _⟩ := hA1
    exact ⟨F, h1, h2, World.ownsRow_nil .., fun k e => by cases e⟩)
  have K0 := Lib.hid (show (Sh.new a q 1 4).ok 0 from Sh.new_ok HAA.out HQQ.out (by decide))
  clear hA1 B0 d0 d1 d2 d3 d8
  go_wp2_with fail
  go_loopw [9, 10, 11] (fun v nx i wr => OrdRel W W.heap.size p a q l.length v nx i wr) (fun _ _ i _ => l.length - (intOf i).toNat)
  case atStart => exact ⟨0, _, ⟨rfl, rfl⟩, Nat.zero_le _, rfl, by rw [new_last]; rfl, T1.out, K0.out⟩
  case round =>
    obtain ⟨j, S, hwq, hj, rfl, rfl, hT, hk⟩ := hrel
    have WQ := Lib.hid hwq
    clear hwq
    by_cases hlt : j < l.length
    · obtain ⟨b0, off, rfl, hbW, x0, x1, x2, x3⟩ := HS.out.cell j hlt
      have c0 : wr.cell? ⟨b0, off + j * 4, none⟩ = some (.int .i64 l[j].op) := (hT.be.cell (p := ⟨b0, off + j * 4, none⟩) hbW).trans x0
      have c1 : wr.cell? ⟨b0, off + j * 4 + 1, none⟩ = some (.int .u64 (l[j].n : Int)) := (hT.be.cell (p := ⟨b0, off + j * 4 + 1, none⟩) hbW).trans x1
      have c2 : wr.cell? ⟨b0, off + j * 4 + 2, none⟩ = some (.string l[j].b) := (hT.be.cell (p := ⟨b0, off + j * 4 + 2, none⟩) hbW).trans x2
      have c3 : wr.cell? ⟨b0, off + j * 4 + 3, none⟩ = some (.bool l[j].r) := (hT.be.cell (p := ⟨b0, off + j * 4 + 3, none⟩) hbW).trans x3
      have jb : (j : Int) < (l.length : Int) := by omega
      have j0 : (0 : Int) ≤ (j : Int) := by omega
      obtain ⟨av, cv, rfl⟩ := own_form hT.own
      obtain ⟨na, hna⟩ : ∃ na, S.all.length = na := ⟨_, rfl⟩
      obtain ⟨la, hla⟩ : ∃ la, S.last + 1 = la := ⟨_, rfl⟩
      rw [hla]
      rw [hna] at hT ⊢
      have T := Lib.hid hT
      have K := Lib.hid hk
      have NA := Lib.hid hna
      have LA := Lib.hid hla
      clear hT hk T1 K0 x0 x1 x2 x3 hna hla
      generalize l[j] = x at *
      obtain ⟨op, n, s, rr⟩ := x
      simp only at c0 c1 c2 c3
      have E2 := Lib.hid (show OrdX W W.heap.size p wr.heap.size ⟨op, n, s, rr⟩ S (.slice av na cv) S.all [] (wr.alloc (.cells #[.int .i64 op, .int .u64 (n : Int), .string s, .bool rr] 47)) from T.out.act ⟨op, n, s, rr⟩ _)
      have hb : Below wr.heap.size wr (wr.alloc (.cells #[.int .i64 op, .int .u64 (n : Int), .string s, .bool rr] 47)) := (Below.refl _ _).alloc (Nat.le_refl _) _
      have BE := Lib.hid (T.out.be.trans (hb.mono T.out.be.size))
      clear hb
      by_cases h50 : 50 < s.size
      · have d9 : decide ((s.size : Int) > 50) = true := decide_eq_true (by omega)
        go_wp2_with fail
        go_ret
        exact ⟨rfl, BE.out⟩
      · have d9 : decide ((s.size : Int) > 50) = false := decide_eq_false (by omega)
        go_upto_block 2 with fail
        obtain ⟨bx, hbx⟩ : ∃ bx, wr.heap.size = bx := ⟨_, rfl⟩
        generalize wr.alloc (.cells #[.int .i64 op, .int .u64 (n : Int), .string s, .bool rr] 47) = wa at *
        rw [hbx] at E2 ⊢
        have hj5 : j ≤ 500 := by omega
        clear c0 c1 c2 c3 hbx BE T hbW
        obtain ⟨y0, y1, y2, y3⟩ := E2.out.cells
        go_cut [9, 13, 14, 15] from 66 to 104 (fun v9 v13 v14 v15 wx => ∃ S1 a1 c1 n1 ss, v13 = .slice a1 n1 c1 ∧ ss.length = n1 ∧ OrdX W W.heap.size p bx ⟨op, n, s, rr⟩ S1 v9 S1.all [⟨.slice a1 n1 c1, S.last, ss⟩] wx ∧ S1.ok (j + 1) ∧ S1.win = S.win ∧ S1.que = S.que ∧ Goes S S1 ss)
        case first =>
          by_cases h0 : op = 0
          · subst h0
            obtain ⟨bb, hbb⟩ : ∃ bb, S.room rr = bb := ⟨_, rfl⟩
            have HB := Lib.hid hbb
            clear hbb
            have hcv := Lib.run_convert_string_bytes (P := Try.prog) wa 9 30 5 s Try.underlying9 Try.underlying30 Try.underlying5
            have E4 := Lib.hid (E2.out.below (Joins.below_bytesWorld wa.heap.size wa 5 s (Nat.le_refl _)))
            have BD := Lib.hid (body_str2 wa s (by omega))
            have z3 : (Lib.bytesWorld wa 5 s).cell? ⟨bx, 3, none⟩ = some (.bool rr) := E4.out.cells.2.2.2
            go_wp2_with fail
            refine (ordx_push E4.out K.out hj5 BD.out (by omega) HB.out).mono ?_
            rintro e w5 ⟨a5, c5, rfl, h5⟩
            have E5 := Lib.hid h5
            have u2 := h5.cells.2.2.1
            have G5 := Lib.hid (goes_pushed (r := rr) (s := s) K.out (by omega))
            have hw5 := h5.nle
            have hb5 : bx < w5.heap.size := cell_lt u2
            have O5 := Lib.hid (show w5.ownsRow W.heap.size 9 1 (.slice av na cv) na (S.all.map Value.string) from NA.out ▸ h5.own)
            have hna5 : na ≤ 100 := by have := NA.out; have := K.out.all; omega
            clear h5 E2 E4 BD hcv y0 y1 y2 y3 z3
            cases bb
            · have AL := Lib.hid (show (S.pushed rr s).all = S.all by rw [all_pushed, HB.out]; rfl)
              go_wp2_with fail
              go_meet
              exact ⟨S.pushed rr s, a5, c5, _, _, rfl, rfl, by rw [AL.out]; exact E5.out, K.out.pushed (by omega), by unfold Sh.pushed; split <;> rfl, by unfold Sh.pushed; split <;> rfl, G5.out⟩
            · have AL := Lib.hid (show (S.pushed rr s).all = S.all ++ [s] by rw [all_pushed, HB.out]; rfl)
              go_wp2_with (at_builtin; refine wpList_append_at rfl (.tmp 94) (.tmp 97) 53 rfl W.heap.size 9 i0 _ 1 16 Try.underlying53 hi0 hz0 hz1 hz2 rfl (by decide) _ _ _ rfl (World.ownsRow.alloc O5.out _) (some ⟨w5.heap.size, 0, none⟩) 1 1 [.string s] rfl rfl (fun e => by cases e) (fun ad e => by cases e; exact World.news_of_block (heap_alloc_new _ _)) (by simp [Value.oneCell']) (by unfold maxLen; omega) (by omega) (by simp; omega) ?_
                           intro v6 w6 hown6 hgr6 hat6
                           obtain ⟨a6, c6, rfl⟩ := own_form hown6
                           have R6 := Lib.hid (E5.out.append (v2 := .slice a6 (na + 1) c6) (s := s) (by rw [NA.out]; exact hown6) hgr6 hat6)
                           clear hown6 hgr6 hat6)
              go_meet
              exact ⟨S.pushed rr s, a5, c5, _, _, rfl, rfl, by rw [AL.out]; exact R6.out, K.out.pushed (by omega), by unfold Sh.pushed; split <;> rfl, by unfold Sh.pushed; split <;> rfl, G5.out⟩
          · by_cases h1 : op = 1
            · subst h1
              clear h0
              go_wp2_with fail
              refine (ordx_ack E2.out K.out hj5).mono ?_
              rintro e w5 ⟨a5, c5, rfl, h5⟩
              have E5 := Lib.hid h5
              have G5 := Lib.hid (goes_acked (k := n) K.out)
              clear h5 E2
              go_wp2_with fail
              go_meet
              exact ⟨S.acked n, a5, c5, _, _, rfl, rfl, by rw [all_acked]; exact E5.out, K.out.acked.more (by omega), by unfold Sh.acked; split <;> rfl, by unfold Sh.acked; split <;> rfl, G5.out⟩
            · have d6 : (op == 0) = false := by simp; omega
              have d7 : (op == 1) = false := by simp; omega
              clear h0 h1
              go_wp2_with fail
              refine (ordx_tick E2.out K.out hj5).mono ?_
              rintro e w5 ⟨a5, c5, rfl, h5⟩
              have E5 := Lib.hid h5
              have I5 := Lib.hid (h5.it (y := ⟨.slice a5 S.tickI.length c5, S.g, S.tickI⟩) (by simp))
              obtain ⟨nt, hnt⟩ : ∃ nt, S.tickI.length = nt := ⟨_, rfl⟩
              have hnt2 : S.g + nt < la := by
                have h1 := LA.out
                have h2 : S.last = S.g + S.n := rfl
                have h3 : S.tickI.length ≤ S.n := by
                  unfold Sh.tickI
                  split
                  · rw [S.out_len]; omega
                  · exact Nat.zero_le _
                omega
              rw [hnt] at I5 ⊢
              clear h5 E2 y0 y1 y2 y3
              obtain ⟨at', ct, LT, e1, e2, r1, -⟩ := I5.out
              simp only [Value.slice.injEq] at e1
              obtain ⟨rfl, e1, rfl⟩ := e1
              rw [← e1] at r1
              have RT := Lib.hid r1
              have LT1 := Lib.hid e1
              have hf5 := r1.fit
              have hm5 := r1.max
              unfold maxLen at hm5
              have NT := Lib.hid hnt
              have E6 := Lib.hid (E5.out.nil S.last)
              clear r1 e1 e2 hnt
              go_wp2_with fail
              go_loopw [15] (fun i2 wr2 => ∃ k, k ≤ nt ∧ i2 = .int .i64 ((k : Nat) : Int) ∧ wr2 = w5) (fun i2 _ => nt - (intOf i2).toNat)
              case atStart => exact ⟨0, Nat.zero_le _, rfl, by first | rfl | trivial⟩
              case round =>
                obtain ⟨k, hk5, rfl, rfl⟩ := hrel
                by_cases hlt5 : k < nt
                · obtain ⟨u0, -⟩ := itC_at k S.g LT (by rw [← LT1.out]; exact hlt5)
                  obtain ⟨b1, o1, rfl, hb1, -, k0⟩ := RT.out.cell _ _ u0
                  obtain ⟨num, hnum⟩ : ∃ num, S.g + k + 1 = num := ⟨_, rfl⟩
                  rw [hnum] at k0
                  have i5 : (0 : Int) ≤ (k : Int) := by omega
                  have i6 : (k : Int) < (nt : Int) := by omega
                  have d5 : decide ((num : Int) ≥ (la : Int)) = false := decide_eq_false (by omega)
                  have d5' : decide (la ≤ num) = false := decide_eq_false (by omega)
                  clear u0 hnum
                  go_wp2_with fail
                  go_roundw
                  case rel => exact ⟨k + 1, by omega, by go_num, by first | rfl | trivial⟩
                  case measure => simp only [intOf]; omega
                · obtain rfl : k = nt := by omega
                  have dk : decide ((k : Int) < (k : Int)) = false := decide_eq_false (by omega)
                  go_wp2_with fail
                  go_meet
                  exact ⟨S.tick, none, 0, 0, [], rfl, rfl, E6.out, K.out.tick, rfl, rfl, goes_none rfl⟩
        case rest =>
          obtain ⟨S1, a1, c1, n1, ss, rfl, hss, hX, hk1, hwn, hqn, hgo⟩ := hcut
          obtain ⟨a9, c9, rfl⟩ := own_form hX.own
          have own9 := hX.own
          obtain ⟨nall, hnall⟩ : ∃ nall, S1.all.length = nall := ⟨_, rfl⟩
          rw [hnall] at own9 hX ⊢
          obtain ⟨a9', c9', e9, r9⟩ := own_row own9
          cases e9
          have hf9 := r9.fit
          have hm9 := r9.max
          unfold maxLen at hm9
          obtain ⟨ai, ci, LI, e1, e2, r1, bo⟩ := hX.it (y := ⟨.slice a1 n1 c1, S.last, ss⟩) (by simp)
          simp only [Value.slice.injEq] at e1
          obtain ⟨rfl, e1, rfl⟩ := e1
          rw [← e1] at r1
          have hf1 := r1.fit
          have hm1 := r1.max
          unfold maxLen at hm1
          obtain ⟨hg1, hg2⟩ := hgo
          have hsum := Sh.sum hk1
          have h1n := S1.n_le
          have h1o := S1.out_len
          have h1w := S1.waits_len
          have h1low := hk1.low
          have hlast1 : la + n1 = S1.last + 1 := by have := LA.out; omega
          have hall1 : nall ≤ 101 := by have := hk1.all; omega
          have hsl : S1.last ≤ nall := by omega
          have R9 := Lib.hid r9
          have R1 := Lib.hid r1
          have BO := Lib.hid bo
          have EI := Lib.hid e2
          have LE := Lib.hid e1
          have HX := Lib.hid hX
          have HSS := Lib.hid hss
          have HG2 := Lib.hid hg2
          have K1 := Lib.hid hk1
          have NAL := Lib.hid hnall
          clear r9 r1 bo e2 e1 own9 hss hg2 hk1 E2 y0 y1 y2 y3 K hX hnall
          have FIN := Lib.hid (show 0 < 1 ∧ S1.win = S.win ∧ S1.que = S.que from ⟨by omega, hwn, hqn⟩)
          clear hwn hqn
          go_wp2_with fail
          go_loopw [10, 16] (fun nx i2 wr3 => ∃ k q, k ≤ n1 ∧ nx = .int .u64 ((la + k : Nat) : Int) ∧ i2 = .int .i64 ((k : Nat) : Int) ∧ wr3 = wc.drewN q) (fun _ i2 _ => n1 - (intOf i2).toNat)
          case atStart => exact ⟨0, 0, Nat.zero_le _, rfl, rfl, rfl⟩
          case round =>
            obtain ⟨k, q5, hk5, rfl, rfl, rfl⟩ := hrel
            by_cases hlt5 : k < n1
            · have hk1 : k < LI.length := by rw [← LE.out]; exact hlt5
              obtain ⟨ix, hix⟩ : ∃ ix, S.last + k = ix := ⟨_, rfl⟩
              have hix2 : ix < S1.all.length := by have := LA.out; have := NAL.out; omega
              obtain ⟨u0, u1⟩ := itC_at k S.last LI hk1
              obtain ⟨b1, o1, rfl, hb1, -, k0⟩ := R1.out.cell _ _ u0
              obtain ⟨b1', o1', e1, -, -, k1⟩ := R1.out.cell _ _ u1
              cases e1
              obtain ⟨b2, o2, rfl, hb2, -, m0⟩ := R9.out.cell ix (.string S1.all[ix]) (by rw [List.getElem?_map, List.getElem?_eq_getElem hix2]; rfl)
              have hs5 : LI[k].s = S1.all[ix] := by
                have h1 : (LI.map Bd.s)[k]? = some LI[k].s := by rw [List.getElem?_map, List.getElem?_eq_getElem hk1]; rfl
                rw [EI.out, HG2.out, List.getElem?_take, if_pos (by rw [HSS.out]; exact hlt5), List.getElem?_drop, hix, List.getElem?_eq_getElem hix2] at h1
                exact (Option.some.inj h1).symm
              obtain ⟨num, hnum⟩ : ∃ num, la + k = num := ⟨_, rfl⟩
              have hnum1 : S.last + k + 1 = num := by have := LA.out; omega
              have hnum2 : num = ix + 1 := by omega
              obtain ⟨nu2, hnu2⟩ : ∃ nu2, num + 1 = nu2 := ⟨_, rfl⟩
              obtain ⟨t5, ht5⟩ : ∃ t5, S1.all[ix] = t5 := ⟨_, rfl⟩
              obtain ⟨bd, hbd⟩ : ∃ bd, LI[k] = bd := ⟨_, rfl⟩
              have hB := BO.out LI[k] (List.getElem_mem _)
              rw [hnum1] at k0
              rw [ht5] at hs5 m0
              rw [hbd] at hs5 k1 hB
              rw [hnum]
              obtain ⟨ab, cb, sb⟩ := bd
              have hs' : sb = t5 := hs5
              subst hs'
              have g0 : ∀ q, (wc.drewN q).cell? ⟨b1, o1 + k * 2, none⟩ = some (.int .u64 (num : Int)) := fun _ => k0
              have g1 : ∀ q, (wc.drewN q).cell? ⟨b1, o1 + k * 2 + 1, none⟩ = some (.slice ab sb.size cb) := fun _ => k1
              have g2 : ∀ q, (wc.drewN q).cell? ⟨b2, o2 + ix, none⟩ = some (.string sb) := fun _ => m0
              have g3 : wc.cell? ⟨b1, o1 + k * 2, none⟩ = some (.int .u64 (num : Int)) := k0
              have g4 : wc.cell? ⟨b1, o1 + k * 2 + 1, none⟩ = some (.slice ab sb.size cb) := k1
              have g5 : wc.cell? ⟨b2, o2 + ix, none⟩ = some (.string sb) := m0
              have cv : ∀ q, (convert 30 9 (.slice ab sb.size cb)).run Try.prog (wc.drewN q) = .ok (.string sb) (wc.drewN q) := fun q => by
                have := conv_any (w := wc.drewN q) (hB.1.below ⟨rfl, rfl, rfl, Nat.le_refl _, fun _ _ => rfl⟩) (bsN_len sb)
                rw [strB_bsN] at this
                exact this
              have w1 : IntKind.i64.wrap (num : Int) = (num : Int) := wrap_i (by omega)
              have w2 : IntKind.u64.wrap ((num : Int) - 1) = (ix : Int) := by rw [wrap_q (by omega)]; omega
              have w3 : IntKind.u64.wrap ((num : Int) + 1) = (nu2 : Int) := by rw [wrap_q (by omega)]; omega
              have d5 : decide ((num : Int) > (nall : Int)) = false := decide_eq_false (by have := NAL.out; omega)
              have d5' : decide (nall < num) = false := decide_eq_false (by have := NAL.out; omega)
              have i5 : (0 : Int) ≤ (k : Int) := by omega
              have i6 : (k : Int) < (n1 : Int) := by omega
              have i7 : (0 : Int) ≤ (ix : Int) := by omega
              have i8 : (ix : Int) < (nall : Int) := by have := NAL.out; omega
              have NU := Lib.hid (show nu2 = la + (k + 1) by omega)
              clear u0 u1 k0 k1 m0 hs5 ht5 hbd hB hk1 hix hix2 hnum hnum1 hnum2 hnu2
              go_wp2_with fail
              go_quiet (fail)
              go_wp2_with fail
              go_roundw
              case rel => exact ⟨k + 1, _, by omega, by rw [NU.out], by go_num, rfl⟩
              case measure => simp only [intOf]; omega
            · obtain rfl : k = n1 := by omega
              have dk : decide ((k : Int) < (k : Int)) = false := decide_eq_false (by omega)
              have X3 := Lib.hid (HX.out.drewN q5)
              generalize wc.drewN q5 = w3 at *
              obtain ⟨F, hF⟩ := X3.out.sh
              obtain ⟨num, hnum⟩ : ∃ num, la + k = num := ⟨_, rfl⟩
              obtain ⟨no, hno⟩ : ∃ no, S1.out.length = no := ⟨_, rfl⟩
              obtain ⟨nw, hnw⟩ : ∃ nw, S1.waits.length = nw := ⟨_, rfl⟩
              obtain ⟨l1, hl1⟩ : ∃ l1, S1.last = l1 := ⟨_, rfl⟩
              rw [hnum]
              have e1 := WQ.out.1
              have e2 := WQ.out.2
              have e3 := FIN.out.2.1
              have e4 := FIN.out.2.2
              have e5 := NAL.out
              have d5 : decide ((no : Int) > (a : Int)) = false := decide_eq_false (by omega)
              have d5' : decide (a < no) = false := decide_eq_false (by omega)
              have d6 : decide ((nw : Int) > (q : Int)) = false := decide_eq_false (by omega)
              have d6' : decide (q < nw) = false := decide_eq_false (by omega)
              have w1 : IntKind.u64.wrap ((num : Int) - 1) = (l1 : Int) := by rw [wrap_q (by omega)]; omega
              have w2 : IntKind.i64.wrap (l1 : Int) = (l1 : Int) := wrap_i (by omega)
              have w3' : IntKind.i64.wrap ((l1 : Int) + (nw : Int)) = (nall : Int) := by rw [wrap_i (by omega)]; omega
              have SH := Lib.hid hF
              have NO := Lib.hid hno
              have NW := Lib.hid hnw
              have L1 := Lib.hid hl1
              have NU := Lib.hid (show num = S1.last + 1 by omega)
              have h500 : j + 1 ≤ 500 := by omega
              clear hF hno hnw hl1 hnum e1 e2 e3 e4 e5 hsum h1n h1o h1w h1low hlast1 hg1 R9 R1 BO EI LE HX HSS HG2
              go_wp2_with fail
              refine (out_any SH.out K1.out h500).mono ?_
              rintro e w4 ⟨a4, c4, rfl, -, hb4⟩
              have X4 := Lib.hid (X3.out.below hb4)
              have SH4 := Lib.hid (SH.out.below hb4)
              rw [NO.out]
              clear hb4 X3 SH
              go_wp2_with fail
              refine (waits_any SH4.out K1.out h500).mono ?_
              rintro e w5 ⟨a5, c5, rfl, -, hb5⟩
              have X5 := Lib.hid (X4.out.below hb5)
              have SH5 := Lib.hid (SH4.out.below hb5)
              rw [NW.out]
              clear hb5 X4 SH4
              go_wp2_with fail
              refine (ord_last SH5.out L1.out).mono ?_
              rintro e w6 ⟨rfl, rfl⟩
              go_wp2_with fail
              refine (waits_any SH5.out K1.out h500).mono ?_
              rintro e w7 ⟨a7, c7, rfl, -, hb7⟩
              have X7 := Lib.hid (X5.out.below hb7)
              rw [NW.out]
              clear hb7 X5 SH5
              go_wp2_with fail
              go_roundw
              case rel => exact ⟨j + 1, S1, ⟨FIN.out.2.1.trans WQ.out.1, FIN.out.2.2.trans WQ.out.2⟩, by omega, by go_num, by rw [NU.out], X7.out.two, K1.out⟩
              case measure => simp only [intOf]; omega
    · have T := Lib.hid hT.be
      clear hT
      go_wp2_with fail
      go_ret
      exact ⟨rfl, T.out⟩

end Go.Proofs.Ytmahbmmeeifaiaa
