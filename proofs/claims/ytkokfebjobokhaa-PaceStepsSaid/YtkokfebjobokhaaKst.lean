/-
  Steps double till the most; it rings in each row of as many Ticks as that.
-/
import Derived.Test.YtkokfebjobokhaaKaw
namespace Go.Proofs.Ytkokfebjobokhaa
open Go.RowKit

def StepsRel (W : World) (N p f m n : Nat) (q l i : Value) (wr : World) : Prop :=
  ∃ (j la : Nat) (S : Pa), j ≤ n ∧ i = .int .i64 (j : Nat) ∧ q = .int .i64 ((S.s - S.l : Nat) : Int) ∧ l = .int .i64 (la : Nat) ∧ la ≤ S.s ∧ PaOn W N p S wr ∧ S.ok j ∧ 0 < S.l ∧ S.f = f ∧ S.m = m

set_option maxRecDepth 20000 in
set_option maxHeartbeats 16000000 in
theorem law_PaceSteps (first most count : Int) (W : World) : Calls Try.prog 5 #[.int .i64 first, .int .i64 most, .int .i64 count] W (PaOk W) := by
  go_enter Try.func5, Try.ntmps5
  go_wp2_with fail
  refine (pa_awake W).mono ?_
  rintro e w0 ⟨rfl, hb0⟩
  have B0 := Lib.hid hb0
  clear hb0
  by_cases h1 : first < 1
  · have d1 : decide (first < 1) = true := decide_eq_true h1
    clear h1
    go_wp2_with fail
    go_ret
    exact ⟨rfl, B0.out⟩
  · have d1 : decide (first < 1) = false := decide_eq_false h1
    by_cases h2 : first > most
    · have d2 : decide (first > most) = true := decide_eq_true h2
      clear h1 h2
      go_wp2_with fail
      go_ret
      exact ⟨rfl, B0.out⟩
    · have d2 : decide (first > most) = false := decide_eq_false h2
      by_cases h3 : most > 100
      · have d3 : decide (most > 100) = true := decide_eq_true h3
        clear h1 h2 h3
        go_wp2_with fail
        go_ret
        exact ⟨rfl, B0.out⟩
      · have d3 : decide (most > 100) = false := decide_eq_false h3
        by_cases h4 : count < 0
        · have d4 : decide (count < 0) = true := decide_eq_true h4
          clear h1 h2 h3 h4
          go_wp2_with fail
          go_ret
          exact ⟨rfl, B0.out⟩
        · have d4 : decide (count < 0) = false := decide_eq_false h4
          by_cases h5 : count > 300
          · have d5 : decide (count > 300) = true := decide_eq_true h5
            clear h1 h2 h3 h4 h5
            go_wp2_with fail
            go_ret
            exact ⟨rfl, B0.out⟩
          · obtain ⟨f, rfl⟩ : ∃ n : Nat, first = n := ⟨first.toNat, by omega⟩
            obtain ⟨m, rfl⟩ : ∃ n : Nat, most = n := ⟨most.toNat, by omega⟩
            obtain ⟨n, rfl⟩ : ∃ n : Nat, count = n := ⟨count.toNat, by omega⟩
            have d5 : decide ((n : Int) > 300) = false := decide_eq_false h5
            have d6 : decide (m < f) = false := decide_eq_false (by omega)
            have hg : 1 ≤ f ∧ f ≤ m ∧ m ≤ 1000 := by omega
            have hx : m ≤ 100 ∧ n ≤ 300 := by omega
            have G := Lib.hid hg
            clear h1 h2 h3 h4 h5 hg d2
            go_wp2_with fail
            refine (on_new (f := f) (m := m) rfl rfl G.out B0.out B0.out.size).mono ?_
            rintro e w1 ⟨rfl, hh⟩
            have L1 := Lib.hid hh
            clear hh
            obtain ⟨p, hp⟩ : ∃ p, w0.heap.size = p := ⟨_, rfl⟩
            rw [hp] at L1 ⊢
            clear hp
            go_wp2_with fail
            refine (on_start (S2 := ⟨f, m, f, f, 0⟩) L1.out rfl).mono ?_
            rintro e w2 ⟨rfl, hh⟩
            have L2 := Lib.hid hh
            clear hh
            have Z := Lib.hid (show StepsRel W W.heap.size p f m n (.int .i64 0) (.int .i64 0) (.int .i64 0) w2 from
              ⟨0, 0, ⟨f, m, f, f, 0⟩, Nat.zero_le _, rfl, by show _ = Value.int .i64 ((f - f : Nat) : Int); rw [Nat.sub_self]; rfl, rfl, Nat.zero_le _, L2.out, ⟨⟨G.out.1, Nat.le_refl _⟩, G.out.2, Nat.le_refl _, Nat.le_refl _⟩, G.out.1, rfl, rfl⟩)
            go_wp2_with fail
            go_loopw [9, 10, 11] (fun q l i wr => StepsRel W W.heap.size p f m n q l i wr) (fun _ _ i _ => n - (intOf i).toNat)
            case atStart => exact Z.out
            case round =>
              obtain ⟨j, la, S, hj, rfl, rfl, rfl, hla, hL, hk, h0, rfl, rfl⟩ := hrel
              have L := Lib.hid hL
              have K := Lib.hid hk
              have hm := hk.m
              have hf := hk.f
              have hl := hk.l
              have hnx := hk.next
              clear hL hk Z L2 L1
              by_cases hlt : j < n
              · have e1 : decide ((S.s : Int) < (la : Int)) = false := decide_eq_false (by omega)
                have e2 : decide ((S.s : Int) > (S.m : Int)) = false := decide_eq_false (by omega)
                have e3 : decide ((S.s : Int) < (S.f : Int)) = false := decide_eq_false (by omega)
                have e4 : decide (S.s < la) = false := decide_eq_false (by omega)
                have e5 : decide (S.m < S.s) = false := decide_eq_false (by omega)
                have e6 : decide (S.s < S.f) = false := decide_eq_false (by omega)
                have hw : IntKind.i64.wrap (((S.s - S.l : Nat) : Int) + 1) = ((S.s - (S.l - 1) : Nat) : Int) := by rw [wrap_i (by omega)]; omega
                by_cases h1 : S.l = 1
                · have T := Lib.hid (on_tick (b := true) L.out K.out (by omega) (S2 := S.tick) rfl (decide_eq_true h1))
                  have E := Lib.hid (show S.tick = { S with s := S.next, l := S.next, r := S.r + 1 } by unfold Pa.tick; rw [if_neg (by omega), if_pos h1])
                  have KT := Lib.hid K.out.tick
                  rw [E.out] at T KT
                  have e7 : ((S.s - (S.l - 1) : Nat) : Int) = (S.s : Int) := by omega
                  rw [e7] at hw
                  generalize hq : ((S.s - S.l : Nat) : Int) = qq at *
                  generalize hs : S.s = ss at *
                  clear hq e7
                  go_wp2_with (first
                    | (go_at_call 12; refine (on_step (z := (ss : Int)) L.out (by rw [hs])).mono ?_; rintro e w5 ⟨rfl, rfl⟩)
                    | (go_at_call 9; refine T.out.mono ?_; rintro e w6 ⟨rfl, h6⟩; have L6 := Lib.hid h6; clear h6))
                  go_roundw
                  case rel => exact ⟨j + 1, ss, _, by omega, by go_num, by show _ = Value.int .i64 ((S.next - S.next : Nat) : Int); rw [Nat.sub_self]; rfl, rfl, hnx.1, L6.out, KT.out, by show 0 < S.next; omega, rfl, rfl⟩
                  case measure => simp only [intOf]; omega
                · have T := Lib.hid (on_tick (b := false) L.out K.out (by omega) (S2 := S.tick) rfl (decide_eq_false h1))
                  have E := Lib.hid (show S.tick = { S with l := S.l - 1 } by unfold Pa.tick; rw [if_neg (by omega), if_neg h1])
                  have KT := Lib.hid K.out.tick
                  rw [E.out] at T KT
                  have hl1 := Lib.hid (show 0 < S.l - 1 by omega)
                  generalize hq : ((S.s - S.l : Nat) : Int) = qq at *
                  generalize hq2 : ((S.s - (S.l - 1) : Nat) : Int) = qq2 at *
                  generalize hs : S.s = ss at *
                  have HQ := Lib.hid hq2
                  clear hq hq2
                  go_wp2_with (first
                    | (go_at_call 12; refine (on_step (z := (ss : Int)) L.out (by rw [hs])).mono ?_; rintro e w5 ⟨rfl, rfl⟩)
                    | (go_at_call 9; refine T.out.mono ?_; rintro e w6 ⟨rfl, h6⟩; have L6 := Lib.hid h6; clear h6))
                  go_roundw
                  case rel => exact ⟨j + 1, ss, _, by omega, by go_num, by rw [← HQ.out], rfl, Nat.le_refl _, L6.out, KT.out, hl1.out, rfl, rfl⟩
                  case measure => simp only [intOf]; omega
              · have e1 : decide (((S.s - S.l : Nat) : Int) < (S.m : Int)) = true := decide_eq_true (by omega)
                have e2 : decide (S.s - S.l < S.m) = true := decide_eq_true (by omega)
                have e3 : decide ((j : Int) < (n : Int)) = false := decide_eq_false (by omega)
                generalize S.s - S.l = qq at *
                go_wp2_with fail
                go_ret
                exact ⟨rfl, L.out.be⟩

end Go.Proofs.Ytkokfebjobokhaa
