/-
  With Acks of the last that went out all goes.
-/
import Derived.Test.YtmahbmmeeifaiaaGaw
namespace Go.Proofs.Ytmahbmmeeifaiaa
open Go.RowKit

theorem body_str3 (w : World) (s : ByteArray) (hs : s.size ≤ 1000) : BodyV (fun k => k = w.heap.size) (Lib.bytesWorld w 5 s) ⟨some ⟨w.heap.size, 0, none⟩, grownCap w s.size 0 5, s⟩ :=
  body_of_string w _ s (grownCap_le_maxLen _ _ _ _ (by unfold maxLen; omega))

/-- Slices of strings that came in. -/
def StrsAt (w : World) (a : Option Addr) (cap : Nat) (l : List ByteArray) : Prop := RowV (fun _ => True) w a cap l.length 1 (l.map Value.string)

theorem so_pushb {W w : World} {N p n : Nat} {S : Sh} {L : List Its} {A : Nat → Prop} {s : ByteArray} {a : Option Addr} {c : Nat} {rr bb : Bool} (h : ShOn W N p S L w) (ho : S.ok n) (hn : n ≤ 500) (hb : BodyV A w ⟨a, c, s⟩) (hs : s.size ≤ 1000) (hbb : S.room rr = bb) :
    Calls Try.prog 10 #[.pointer (some ⟨p, 0, Option.none⟩), .slice a s.size c, .bool rr] w fun E w' => ∃ a cap, E = .returned (.tuple #[.slice a (S.pushI rr s).length cap, .bool bb]) ∧ ShOn W N p (S.pushed rr s) L w' := by
  subst hbb
  exact (so_push (b := ⟨a, c, s⟩) h ho hn hb hs).mono fun _ _ ⟨a, cap, he, h⟩ => ⟨a, cap, he, h.fewer (fun _ hx => List.mem_cons_of_mem _ hx)⟩
theorem win_pushed {S : Sh} {r : Bool} {s : ByteArray} : (S.pushed r s).win = S.win := by unfold Sh.pushed; split <;> rfl
theorem g_pushed {S : Sh} {r : Bool} {s : ByteArray} : (S.pushed r s).g = S.g := by unfold Sh.pushed; split <;> rfl
theorem so_lastn {W w : World} {N p la : Nat} {S : Sh} {L : List Its} (h : ShOn W N p S L w) (hl : S.last = la) : Calls Try.prog 23 #[.pointer (some ⟨p, 0, none⟩)] w fun E w' => E = .returned (.int .u64 (la : Int)) ∧ w' = w := by
  subst hl
  exact so_last h

def DrRel (W : World) (N p : Nat) (len : Nat) (v i : Value) (wr : World) : Prop :=
  ∃ j S, S.g = 0 ∧ j ≤ len ∧ i = .int .i64 (j : Nat) ∧ v = .int .i64 ((S.all.length : Nat) : Int) ∧ ShOn W N p S [] wr ∧ S.ok j
def DrRel2 (W : World) (N p na : Nat) (len : Nat) (i : Value) (wr : World) : Prop :=
  ∃ k S, k ≤ len ∧ i = .int .i64 (k : Nat) ∧ S.all.length = na ∧ na - S.g ≤ len - k ∧ ShOn W N p S [] wr ∧ S.ok 200

set_option maxRecDepth 20000 in
set_option maxHeartbeats 16000000 in
theorem law_ShipDrains (window : Int) (l : List ByteArray) (ao : Option Addr) (cap : Nat) (W : World) (hs : StrsAt W ao cap l) :
    Calls Try.prog 6 #[.int .i64 window, .slice ao l.length cap] W (ShOk W) := by
  have HS := Lib.hid hs
  have hfit := hs.fit
  have hmax := hs.max
  unfold maxLen at hmax
  clear hs
  go_enter Try.func6, Try.ntmps6
  go_wp2_with fail
  refine (sh_awake W).mono ?_
  rintro e w0 ⟨rfl, hb0⟩
  have B0 := Lib.hid hb0
  clear hb0
  by_cases h0 : window < 1
  · have d0 : decide (window < 1) = true := decide_eq_true h0
    clear h0
    go_wp2_with fail
    go_ret
    exact ⟨rfl, B0.out⟩
  have d0 : decide (window < 1) = false := decide_eq_false h0
  by_cases h1 : window > 16
  · have d1 : decide (window > 16) = true := decide_eq_true h1
    clear h0 h1
    go_wp2_with fail
    go_ret
    exact ⟨rfl, B0.out⟩
  have d1 : decide (window > 16) = false := decide_eq_false h1
  by_cases hlen : 30 < l.length
  · have d8 : decide ((l.length : Int) > 30) = true := decide_eq_true (by omega)
    go_wp2_with fail
    go_ret
    exact ⟨rfl, B0.out⟩
  have d8 : decide ((l.length : Int) > 30) = false := decide_eq_false (by omega)
  obtain ⟨a, rfl⟩ : ∃ n : Nat, window = n := ⟨window.toNat, by omega⟩
  have ha : 1 ≤ a ∧ a ≤ 16 := by omega
  have HAA := Lib.hid ha
  clear h0 h1 ha
  go_wp2_with fail
  refine (so_newz (a := a) (q := 32) (f := 1) (m := 2) rfl rfl rfl rfl HAA.out (by decide) (by decide) B0.out B0.out.size).mono ?_
  rintro e w1 ⟨p, rfl, hA1⟩
  have T1 := Lib.hid hA1
  have K0 := Lib.hid (show (Sh.new a 32 1 2).ok 0 from Sh.new_ok HAA.out (by decide) (by decide))
  clear hA1 B0 d0 d1 d8
  go_wp2_with fail
  go_loopw [7, 8] (fun v i wr => DrRel W W.heap.size p l.length v i wr) (fun _ i _ => l.length - (intOf i).toNat)
  case atStart => exact ⟨0, _, rfl, Nat.zero_le _, rfl, rfl, T1.out, K0.out⟩
  case round =>
    obtain ⟨j, S, hg0, hj, rfl, rfl, hT, hk⟩ := hrel
    by_cases hlt : j < l.length
    · obtain ⟨b0, off, rfl, hbW, -, x0⟩ := HS.out.cell j (.string l[j]) (by rw [List.getElem?_map, List.getElem?_eq_getElem hlt]; rfl)
      have c0 : wr.cell? ⟨b0, off + j, none⟩ = some (.string l[j]) := (hT.be.cell (p := ⟨b0, off + j, none⟩) hbW).trans x0
      have jb : (j : Int) < (l.length : Int) := by omega
      have j0 : (0 : Int) ≤ (j : Int) := by omega
      obtain ⟨na, hna⟩ : ∃ na, S.all.length = na := ⟨_, rfl⟩
      have hna2 : na ≤ 30 := by have := hk.all; omega
      rw [hna]
      have T := Lib.hid hT
      have K := Lib.hid hk
      have NA := Lib.hid hna
      have G0 := Lib.hid hg0
      clear hT hk T1 K0 x0 hna hg0
      generalize l[j] = s at *
      by_cases h50 : 50 < s.size
      · have d9 : decide ((s.size : Int) > 50) = true := decide_eq_true (by omega)
        go_wp2_with fail
        go_ret
        exact ⟨rfl, T.out.be⟩
      · have d9 : decide ((s.size : Int) > 50) = false := decide_eq_false (by omega)
        have hcv := Lib.run_convert_string_bytes (P := Try.prog) wr 9 30 5 s Try.underlying9 Try.underlying30 Try.underlying5
        have E4 := Lib.hid (T.out.below (Joins.below_bytesWorld wr.heap.size wr 5 s (Nat.le_refl _)))
        have BD := Lib.hid (body_str3 wr s (by omega))
        have hj5 : j ≤ 500 := by omega
        obtain ⟨bb, hbb⟩ : ∃ bb, S.room false = bb := ⟨_, rfl⟩
        have HB := Lib.hid hbb
        have hw : IntKind.i64.wrap ((na : Int) + 1) = (na : Int) + 1 := wrap_i (by omega)
        clear hbb
        go_wp2_with fail
        refine (so_pushb E4.out K.out hj5 BD.out (by omega) HB.out).mono ?_
        rintro e w5 ⟨a5, c5, rfl, h5⟩
        have E5 := Lib.hid h5
        clear h5 E4 BD hcv T c0
        cases bb
        · have AL := Lib.hid (show (S.pushed false s).all.length = na by unfold Sh.pushed; rw [HB.out]; exact NA.out)
          go_wp2_with fail
          go_roundw
          case rel => exact ⟨j + 1, S.pushed false s, by rw [g_pushed]; exact G0.out, by omega, by go_num, by rw [AL.out], E5.out, K.out.pushed (by omega)⟩
          case measure => simp only [intOf]; omega
        · have AL := Lib.hid (show (S.pushed false s).all.length = na + 1 by unfold Sh.pushed; rw [HB.out]; show (S.all ++ [s]).length = _; rw [List.length_append, NA.out]; rfl)
          go_wp2_with fail
          go_roundw
          case rel => exact ⟨j + 1, S.pushed false s, by rw [g_pushed]; exact G0.out, by omega, by go_num, by rw [AL.out]; go_num, E5.out, K.out.pushed (by omega)⟩
          case measure => simp only [intOf]; omega
    · obtain ⟨na, hna⟩ : ∃ na, S.all.length = na := ⟨_, rfl⟩
      have hna2 : na ≤ l.length := by have := hk.all; omega
      rw [hna]
      have T := Lib.hid hT
      have K := Lib.hid (hk.more (k := 200) (by omega))
      have NA := Lib.hid hna
      clear hT hk T1 K0 hna
      go_wp2_with fail
      go_loopw [11] (fun i wr => DrRel2 W W.heap.size p na l.length i wr) (fun i _ => l.length - (intOf i).toNat)
      case atStart => exact ⟨0, S, Nat.zero_le _, rfl, NA.out, by omega, T.out, K.out⟩
      case round =>
        obtain ⟨k, S1, hk5, rfl, hn1, hle, hT1, hk1⟩ := hrel
        have T1 := Lib.hid hT1
        have K1 := Lib.hid hk1
        have N1 := Lib.hid hn1
        clear hT1 hk1 hn1 T K
        obtain ⟨no, hno⟩ : ∃ no, S1.out.length = no := ⟨_, rfl⟩
        have NO := Lib.hid hno
        have hnoS : no = min S1.win (na - S1.g) := by rw [← hno, S1.out_len, ← N1.out]; rfl
        have NS := Lib.hid hnoS
        clear hno hnoS
        obtain ⟨bb, hbb⟩ : ∃ bb, decide (k < l.length ∧ 0 < no) = bb := ⟨_, rfl⟩
        have BB := Lib.hid hbb
        clear hbb
        go_upto_region 18 with fail
        go_cut [72] from 63 to 72 (fun v wx => v = .bool bb ∧ Below wr.heap.size wr wx)
        case first =>
          by_cases hlt5 : k < l.length
          · have d5 : decide ((k : Int) < (l.length : Int)) = true := decide_eq_true (by omega)
            obtain ⟨b2, hb2⟩ : ∃ b2, decide (0 < no) = b2 := ⟨_, rfl⟩
            have B2 := Lib.hid (show b2 = bb by rw [← hb2, ← BB.out]; exact decide_eq_decide.2 (by omega))
            have hb2' : decide ((no : Int) > 0) = b2 := by rw [← hb2]; exact decide_eq_decide.2 (by omega)
            go_wp2_with fail
            refine (so_out T1.out K1.out (by omega)).mono ?_
            rintro e w4 ⟨a4, c4, rfl, -, hb4⟩
            have B4 := Lib.hid hb4
            rw [NO.out]
            clear hb4
            go_wp2_with fail
            go_meet
            exact ⟨by rw [B2.out], B4.out⟩
          · have d5 : decide ((k : Int) < (l.length : Int)) = false := decide_eq_false (by omega)
            have B2 := Lib.hid (show bb = false by rw [← BB.out]; exact decide_eq_false (by omega))
            go_wp2_with fail
            go_meet
            exact ⟨by rw [B2.out], Below.refl _ _⟩
        case rest =>
          obtain ⟨rfl, hbe⟩ := hcut
          have T2 := Lib.hid (T1.out.below hbe)
          clear hbe T1
          cases bb
          · have hz : na - S1.g = 0 := by
              have h1 := of_decide_eq_false BB.out
              have h2 := NS.out
              have h3 := K1.out.win
              omega
            have h3 := K1.out.g
            have h4 : S1.all.length = na := N1.out
            have hg : S1.g = na := by omega
            have PL := Lib.hid (show S1.pa.l = 0 by have := K1.out.runs; omega)
            have WL := Lib.hid (show S1.waits.length = 0 by rw [S1.waits_len]; omega)
            have OL := Lib.hid (show S1.out.length = 0 by have := NO.out; have := NS.out; omega)
            have LL := Lib.hid (show S1.last = na by show S1.g + S1.n = na; have := S1.out_len; have := OL.out; omega)
            have w2 : IntKind.u64.wrap (na : Int) = (na : Int) := wrap_q (by omega)
            clear hz h3 h4 hg
            go_wp2_with fail
            refine (so_leftz (z := 0) (b := false) T2.out (by rw [PL.out]; rfl) (by rw [PL.out]; rfl)).mono ?_
            rintro e w5 ⟨rfl, q5, rfl⟩
            have T3 := Lib.hid (T2.out.drewN q5)
            generalize wc.drewN q5 = w3 at *
            clear T2
            go_wp2_with fail
            refine (so_out T3.out K1.out (by omega)).mono ?_
            rintro e w6 ⟨a6, c6, rfl, h6, -⟩
            have T4 := Lib.hid h6
            rw [OL.out]
            clear h6 T3
            go_wp2_with fail
            refine (so_waits T4.out K1.out (by omega)).mono ?_
            rintro e w7 ⟨a7, c7, rfl, h7, -⟩
            have T5 := Lib.hid h7
            rw [WL.out]
            clear h7 T4
            go_wp2_with fail
            refine (so_lastn T5.out LL.out).mono ?_
            rintro e w8 ⟨rfl, rfl⟩
            go_wp2_with fail
            go_ret
            exact ⟨rfl, T5.out.be⟩
          · have h1 := of_decide_eq_true BB.out
            obtain ⟨la, hla⟩ : ∃ la, S1.last = la := ⟨_, rfl⟩
            have LA := Lib.hid hla
            have AC := Lib.hid (show S1.acks la = true by
              rw [Sh.acks_spec]
              have h2 := NO.out
              have h3 := S1.out_len
              have h4 : S1.last = S1.g + S1.n := rfl
              omega)
            have hlg : S1.g < la := (Sh.acks_spec.1 AC.out).1
            have e1 : (S1.acked la).all = S1.all := by unfold Sh.acked; rw [AC.out]; rfl
            have e2 : (S1.acked la).g = la := by unfold Sh.acked; rw [AC.out]; rfl
            have E1 := Lib.hid e1
            have E2 := Lib.hid e2
            clear hla e1 e2
            go_wp2_with fail
            refine (so_lastn T2.out LA.out).mono ?_
            rintro e w8 ⟨rfl, rfl⟩
            go_wp2_with fail
            refine (so_ack (k := la) T2.out K1.out (by omega)).mono ?_
            rintro e w9 ⟨a9, c9, rfl, h9⟩
            have T3 := Lib.hid (h9.fewer (L' := []) (fun _ hx => by cases hx))
            clear h9 T2
            go_wp2_with fail
            go_roundw
            case rel => exact ⟨k + 1, S1.acked la, by omega, by go_num, by rw [E1.out]; exact N1.out, by rw [E2.out]; omega, T3.out, K1.out.acked⟩
            case measure => simp only [intOf]; omega

end Go.Proofs.Ytmahbmmeeifaiaa
