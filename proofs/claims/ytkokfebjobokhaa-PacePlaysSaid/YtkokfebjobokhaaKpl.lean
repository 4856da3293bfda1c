/-
  Any calls: both alarms ring at the same Ticks, and tell the same.
-/
import Derived.Test.YtkokfebjobokhaaKpair
import Derived.Test.YtkokfebjobokhaaLmem
import Derived.Deep.CutBlock
import Derived.Deep.CutRange
namespace Go.Proofs.Ytkokfebjobokhaa
open Go.RowKit

def PlayRel (W : World) (N p r : Nat) (len : Nat) (i : Value) (wr : World) : Prop :=
  ∃ j S, j ≤ len ∧ i = .int .i64 (j : Nat) ∧ Pair W N p r S S wr ∧ S.ok j

set_option maxRecDepth 20000 in
set_option maxHeartbeats 16000000 in
theorem law_PacePlays (first most : Int) (l : List Nat) (ao : Option Addr) (cap : Nat) (W : World) (hs : SlAt bV 256 W ao cap l) : Calls Try.prog 4 #[.int .i64 first, .int .i64 most, .slice ao l.length cap] W (PaOk W) := by
  have HS := Lib.hid hs
  have hfit := hs.fit
  have hmax := hs.max
  unfold maxLen at hmax
  clear hs
  go_enter Try.func4, Try.ntmps4
  go_wp2_with fail
  refine (pa_awake W).mono ?_
  rintro e w0 ⟨rfl, hb0⟩
  have B0 := Lib.hid hb0
  clear hb0
  by_cases hg : 1 ≤ first ∧ first ≤ most ∧ most ≤ 1000
  · obtain ⟨f, rfl⟩ : ∃ n : Nat, first = n := ⟨first.toNat, by omega⟩
    obtain ⟨m, rfl⟩ : ∃ n : Nat, most = n := ⟨most.toNat, by omega⟩
    have hg' : 1 ≤ f ∧ f ≤ m ∧ m ≤ 1000 := by omega
    have G := Lib.hid hg'
    have d1 : decide ((f : Int) < 1) = false := decide_eq_false (by omega)
    have d2 : decide (m < f) = false := decide_eq_false (by omega)
    have d3 : decide ((m : Int) > 1000) = false := decide_eq_false (by omega)
    clear hg hg'
    go_wp2_with fail
    refine (on_new (f := f) (m := m) rfl rfl G.out B0.out B0.out.size).mono ?_
    rintro e w1 ⟨rfl, h1⟩
    have L1 := Lib.hid h1
    clear h1
    obtain ⟨p, hp⟩ : ∃ p, w0.heap.size = p := ⟨_, rfl⟩
    rw [hp] at L1 ⊢
    clear hp
    by_cases hlen : 200 < l.length
    · have d5 : decide ((l.length : Int) > 200) = true := decide_eq_true (by omega)
      go_wp2_with fail
      go_ret
      exact ⟨rfl, L1.out.be⟩
    · have d5 : decide ((l.length : Int) > 200) = false := decide_eq_false (by omega)
      go_wp2_with fail
      refine (pr_new f m w1).mono ?_
      intro e w2 hP
      obtain ⟨rfl, hP2⟩ := Pair.of L1.out hP
      have T1 := Lib.hid hP2
      have K0 := Lib.hid (Pa.new_ok G.out)
      clear hP hP2
      obtain ⟨r, hr⟩ : ∃ r, w1.heap.size = r := ⟨_, rfl⟩
      rw [hr] at T1 ⊢
      clear hr L1
      go_wp2_with fail
      go_loopw [10] (fun i wr => PlayRel W W.heap.size p r l.length i wr) (fun i _ => l.length - (intOf i).toNat)
      case atStart => exact ⟨0, _, Nat.zero_le _, rfl, T1.out, K0.out⟩
      case round =>
        obtain ⟨j, S, hj, rfl, hT, hk⟩ := hrel
        by_cases hlt : j < l.length
        · obtain ⟨b, off, rfl, hbW, h0⟩ := HS.out.cell j hlt
          have k0 : wr.cell? ⟨b, off + j, none⟩ = some (.int .u8 (l[j] : Nat)) := (hT.be.cell (p := ⟨b, off + j, none⟩) hbW).trans h0
          have T := Lib.hid hT
          have K := Lib.hid hk
          have jb : (j : Int) < (l.length : Int) := by omega
          have j0 : (0 : Int) ≤ (j : Int) := by omega
          clear hT h0 hk T1 K0
          generalize l[j] = x at *
          go_upto_block 2 with fail
          go_cut [] from 58 to 121 (fun wx => ∃ S1, Pair W W.heap.size p r S1 S1 wx ∧ S1.ok (j + 1))
          case rest =>
            obtain ⟨S1, hT6, hk6⟩ := hcut
            have T6 := Lib.hid hT6
            have K6 := Lib.hid hk6
            clear hT6 hk6
            go_wp2_with fail
            refine (pa_left T6.out.pa).mono ?_
            rintro e w7 ⟨rfl, q, rfl⟩
            have T7 := Lib.hid (T6.out.drewN q)
            generalize wc.drewN q = w7 at *
            have hst := Lib.hid (fun n => pa_step (T7.out.drewN n).pa)
            have hri := Lib.hid (fun n => pa_rings (T7.out.drewN n).pa)
            have HQ := Lib.hid (fun n => T7.out.drewN n)
            obtain ⟨x0, x1, x2, x3, x4, x5⟩ := T7.out.pr.cells
            generalize decide (0 < S1.l) = bb at *
            generalize S1.l = ll at *
            generalize S1.s = ss at *
            generalize S1.r = rr at *
            go_wp2_with fail
            go_quiet (first
              | (go_at_call 12; exact Calls.quiet_of_same (hst.out _))
              | (go_at_call 14; exact Calls.quiet_of_same (hri.out _)))
            go_wp2_with fail
            go_roundw
            case rel => exact ⟨j + 1, S1, by omega, by go_num, HQ.out _, K6.out⟩
            case measure => simp only [intOf]; omega
          by_cases h1 : x = 1
          · subst h1
            go_wp2_with fail
            refine (pair_left T.out (pa_start T.out.pa)).mono ?_
            rintro e w5 ⟨rfl, h5⟩
            have T5 := Lib.hid h5
            clear h5
            go_wp2_with fail
            refine (pair_right T5.out (pr_start T5.out.pr K.out)).mono ?_
            rintro e w6 ⟨rfl, h6⟩
            have T6 := Lib.hid h6
            clear h6
            go_wp2_with fail
            go_meet
            exact ⟨_, T6.out, K.out.start.more (by omega)⟩
          · by_cases h2 : x = 2
            · subst h2
              clear h1
              go_wp2_with fail
              refine (pair_left T.out (pa_stop T.out.pa)).mono ?_
              rintro e w5 ⟨rfl, h5⟩
              have T5 := Lib.hid h5
              clear h5
              go_wp2_with fail
              refine (pair_right T5.out (pr_stop T5.out.pr)).mono ?_
              rintro e w6 ⟨rfl, h6⟩
              have T6 := Lib.hid h6
              clear h6
              go_wp2_with fail
              go_meet
              exact ⟨_, T6.out, K.out.stop.more (by omega)⟩
            · have d6 : (x == 1) = false := by simp; omega
              have d7 : (x == 2) = false := by simp; omega
              have d8 : ((x : Int) == 1) = false := by simp; omega
              have d9 : ((x : Int) == 2) = false := by simp; omega
              clear h1 h2
              go_wp2_with fail
              refine (pair_left T.out (pa_tick T.out.pa K.out (by omega))).mono ?_
              rintro e w5 ⟨rfl, h5⟩
              have T5 := Lib.hid h5
              clear h5
              go_wp2_with fail
              refine (pair_right T5.out (pr_tick T5.out.pr K.out (by omega))).mono ?_
              rintro e w6 ⟨rfl, h6⟩
              have T6 := Lib.hid h6
              clear h6
              generalize S.rings = bb at *
              go_wp2_with fail
              go_meet
              exact ⟨_, T6.out, K.out.tick⟩
        · have T := Lib.hid hT.be
          clear hT
          go_wp2_with fail
          go_ret
          exact ⟨rfl, T.out⟩
  · have N := Lib.hid (pa_new_no first most w0 hg)
    by_cases h1 : first < 1
    · have d1 : decide (first < 1) = true := decide_eq_true h1
      clear hg h1
      go_wp2_with (go_at_call 8; refine N.out.mono ?_; rintro e w' ⟨rfl, rfl⟩)
      go_ret
      exact ⟨rfl, B0.out⟩
    · have d1 : decide (first < 1) = false := decide_eq_false h1
      by_cases h2 : first > most
      · have d2 : decide (first > most) = true := decide_eq_true h2
        clear hg h1 h2
        go_wp2_with (go_at_call 8; refine N.out.mono ?_; rintro e w' ⟨rfl, rfl⟩)
        go_ret
        exact ⟨rfl, B0.out⟩
      · have d2 : decide (first > most) = false := decide_eq_false h2
        have d3 : decide (most > 1000) = true := decide_eq_true (by omega)
        clear hg h1 h2
        go_wp2_with (go_at_call 8; refine N.out.mono ?_; rintro e w' ⟨rfl, rfl⟩)
        go_ret
        exact ⟨rfl, B0.out⟩

end Go.Proofs.Ytkokfebjobokhaa
