/-
  Stopped and begun again it begins with its first step.
-/
import Derived.Test.YtkokfebjobokhaaKaw
import Derived.Deep.CutBlock
namespace Go.Proofs.Ytkokfebjobokhaa
open Go.RowKit

/-- Apart, both the program's; all below N as it was. -/
structure Both (W : World) (N p r : Nat) (S T : Pa) (w : World) : Prop where
  pa : PaAt w p S
  pr : PaAt w r T
  ne : p ≠ r
  lp : N ≤ p
  lr : N ≤ r
  be : Below N W w
section
variable {W w : World} {N p r : Nat} {S T S2 T2 : Pa} {R : Value} {f : FuncId} {args : Array Value}
theorem Both.low (h : Both W N p r S T w) : N ≤ w.heap.size := Nat.le_trans h.lp (Nat.le_of_lt h.pa.lt)
theorem both_left (h : Both W N p r S T w) (hc : Calls Try.prog f args w (PaPost S2 w p R)) : Calls Try.prog f args w fun e w' => e = .returned R ∧ Both W N p r S2 T w' :=
  hc.mono fun _ _ ⟨he, hA, hK⟩ => ⟨he, hA, h.pr.keep hK (fun e => h.ne e.symm), h.ne, h.lp, h.lr, h.be.trans (hK.below h.low (fun _ e => e ▸ h.lp))⟩
theorem both_right (h : Both W N p r S T w) (hc : Calls Try.prog f args w (PaPost T2 w r R)) : Calls Try.prog f args w fun e w' => e = .returned R ∧ Both W N p r S T2 w' :=
  hc.mono fun _ _ ⟨he, hA, hK⟩ => ⟨he, h.pa.keep hK (fun e => h.ne e), hA, h.ne, h.lp, h.lr, h.be.trans (hK.below h.low (fun _ e => e ▸ h.lr))⟩
end

/-- Alike but for how often they rang. -/
def Like (S T : Pa) : Prop := T = { S with r := T.r }
theorem Like.tick {S T : Pa} (h : Like S T) : Like S.tick T.tick ∧ T.rings = S.rings ∧ T.tick.s = S.tick.s := by
  obtain ⟨f, m, s, l, r⟩ := T
  obtain ⟨f', m', s', l', r'⟩ := S
  unfold Like at h ⊢
  simp only [Pa.mk.injEq] at h
  obtain ⟨rfl, rfl, rfl, rfl, _⟩ := h
  unfold Pa.tick Pa.rings Pa.next
  refine ⟨?_, rfl, ?_⟩
  · split
    · rfl
    · split <;> rfl
  · split
    · rfl
    · split <;> rfl

def StopRel (W : World) (N p r n : Nat) (i : Value) (wr : World) : Prop :=
  ∃ (j : Nat) (S : Pa), j ≤ n ∧ i = .int .i64 (j : Nat) ∧ S.ok j ∧ ∃ f m, S.f = f ∧ S.m = m ∧ Both W N p r S (Pa.new f m) wr
def GoRel (W : World) (N p r n k : Nat) (i : Value) (wr : World) : Prop :=
  ∃ (j : Nat) (S T : Pa), j ≤ n ∧ i = .int .i64 (j : Nat) ∧ S.ok (k + j) ∧ T.ok j ∧ Like S T ∧ Both W N p r S T wr
theorem tick_f (S : Pa) : S.tick.f = S.f ∧ S.tick.m = S.m := by
  unfold Pa.tick
  split
  · exact ⟨rfl, rfl⟩
  · split <;> exact ⟨rfl, rfl⟩

set_option maxRecDepth 20000 in
set_option maxHeartbeats 16000000 in
theorem law_PaceStops (first most count more : Int) (W : World) : Calls Try.prog 6 #[.int .i64 first, .int .i64 most, .int .i64 count, .int .i64 more] W (PaOk W) := by
  go_enter Try.func6, Try.ntmps6
  try simp only [List.append_eq, List.cons_append, List.nil_append]
  go_wp2_with fail
  refine (pa_awake W).mono ?_
  rintro e w0 ⟨rfl, hb0⟩
  have B0 := Lib.hid hb0
  clear hb0
  by_cases h1 : first < 1
  · have d1 : decide (first < 1) = true := decide_eq_true h1
    clear h1
    go_wp2_with fail
    go_ret
    exact ⟨rfl, B0.out⟩
  · have d1 : decide (first < 1) = false := decide_eq_false h1
    by_cases h2 : first > most
    · have d2 : decide (first > most) = true := decide_eq_true h2
      clear h1 h2
      go_wp2_with fail
      go_ret
      exact ⟨rfl, B0.out⟩
    · have d2 : decide (first > most) = false := decide_eq_false h2
      by_cases h3 : most > 60
      · have d3 : decide (most > 60) = true := decide_eq_true h3
        clear h1 h2 h3
        go_wp2_with fail
        go_ret
        exact ⟨rfl, B0.out⟩
      · have d3 : decide (most > 60) = false := decide_eq_false h3
        by_cases h4 : count < 0
        · have d4 : decide (count < 0) = true := decide_eq_true h4
          clear h1 h2 h3 h4
          go_wp2_with fail
          go_ret
          exact ⟨rfl, B0.out⟩
        · have d4 : decide (count < 0) = false := decide_eq_false h4
          by_cases h5 : count > 100
          · have d5 : decide (count > 100) = true := decide_eq_true h5
            clear h1 h2 h3 h4 h5
            go_wp2_with fail
            go_ret
            exact ⟨rfl, B0.out⟩
          · have d5 : decide (count > 100) = false := decide_eq_false h5
            by_cases h6 : more < 0
            · have d6 : decide (more < 0) = true := decide_eq_true h6
              clear h1 h2 h3 h4 h5 h6
              go_wp2_with fail
              go_ret
              exact ⟨rfl, B0.out⟩
            · have d6 : decide (more < 0) = false := decide_eq_false h6
              by_cases h7 : more > 100
              · have d7 : decide (more > 100) = true := decide_eq_true h7
                clear h1 h2 h3 h4 h5 h6 h7
                go_wp2_with fail
                go_ret
                exact ⟨rfl, B0.out⟩
              · obtain ⟨f, rfl⟩ : ∃ n : Nat, first = n := ⟨first.toNat, by omega⟩
                obtain ⟨m, rfl⟩ : ∃ n : Nat, most = n := ⟨most.toNat, by omega⟩
                obtain ⟨n, rfl⟩ : ∃ n : Nat, count = n := ⟨count.toNat, by omega⟩
                obtain ⟨k, rfl⟩ : ∃ n : Nat, more = n := ⟨more.toNat, by omega⟩
                have d7 : decide ((k : Int) > 100) = false := decide_eq_false h7
                have d8 : decide (m < f) = false := decide_eq_false (by omega)
                have hg : 1 ≤ f ∧ f ≤ m ∧ m ≤ 1000 := by omega
                have hx : m ≤ 60 ∧ n ≤ 100 ∧ k ≤ 100 := by omega
                have G := Lib.hid hg
                clear h1 h2 h3 h4 h5 h6 h7 hg d2
                go_wp2_with fail
                refine (on_new (f := f) (m := m) rfl rfl G.out B0.out B0.out.size).mono ?_
                rintro e w1 ⟨rfl, hh⟩
                have L1 := Lib.hid hh
                clear hh
                obtain ⟨p, hp⟩ : ∃ p, w0.heap.size = p := ⟨_, rfl⟩
                rw [hp] at L1 ⊢
                clear hp
                go_wp2_with fail
                refine (pa_new f m w1 G.out).mono ?_
                rintro e w2 ⟨rfl, hA, hB, hS⟩
                have T2 := Lib.hid (show Both W W.heap.size p w1.heap.size (Pa.new f m) (Pa.new f m) w2 from
                  ⟨L1.out.at'.below hB, hA, by have := L1.out.at'.lt; omega, L1.out.low, by have := L1.out.at'.lt; have := L1.out.low; omega, L1.out.be.trans (hB.mono (by have := L1.out.at'.lt; have := L1.out.low; omega))⟩)
                clear hA hB hS
                obtain ⟨r, hr⟩ : ∃ r, w1.heap.size = r := ⟨_, rfl⟩
                rw [hr] at T2 ⊢
                clear hr L1
                go_wp2_with fail
                refine (both_left T2.out (pa_start T2.out.pa)).mono ?_
                rintro e w3 ⟨rfl, hh⟩
                have Z := Lib.hid (show StopRel W W.heap.size p r n (.int .i64 0) w3 from ⟨0, _, Nat.zero_le _, rfl, (Pa.new_ok G.out).start, f, m, rfl, rfl, hh⟩)
                clear hh
                go_wp2_with fail
                go_loopw [13] (fun i wr => StopRel W W.heap.size p r n i wr) (fun i _ => n - (intOf i).toNat)
                case atStart => exact Z.out
                case round =>
                  obtain ⟨j, S, hj, rfl, hk, f0, m0, hf, hm, hT⟩ := hrel
                  have T := Lib.hid hT
                  have K := Lib.hid hk
                  have F := Lib.hid hf
                  have M := Lib.hid hm
                  clear hT hk hf hm
                  by_cases hlt : j < n
                  · go_wp2_with fail
                    refine (both_left T.out (pa_tick T.out.pa K.out (by omega))).mono ?_
                    rintro e w5 ⟨rfl, hh⟩
                    have T5 := Lib.hid hh
                    clear hh
                    generalize S.rings = bb at *
                    go_wp2_with fail
                    go_roundw
                    case rel => exact ⟨j + 1, S.tick, by omega, by go_num, K.out.tick, f0, m0, (tick_f S).1.trans F.out, (tick_f S).2.trans M.out, T5.out⟩
                    case measure => simp only [intOf]; omega
                  · have e3 : decide ((j : Int) < (n : Int)) = false := decide_eq_false (by omega)
                    go_wp2_with fail
                    refine (both_left T.out (pa_stop T.out.pa)).mono ?_
                    rintro e w5 ⟨rfl, hh⟩
                    have T5 := Lib.hid hh
                    clear hh
                    go_wp2_with fail
                    refine (both_left T5.out (pa_start T5.out.pa)).mono ?_
                    rintro e w6 ⟨rfl, hh⟩
                    have T6 := Lib.hid hh
                    clear hh
                    go_wp2_with fail
                    refine (both_right T6.out (pa_start T6.out.pr)).mono ?_
                    rintro e w7 ⟨rfl, hh⟩
                    have Z2 := Lib.hid (show GoRel W W.heap.size p r k j (.int .i64 0) w7 from
                      ⟨0, _, _, Nat.zero_le _, rfl, K.out.stop.start.more (by omega), (Pa.new_ok (by have := K.out.f; have := K.out.m; have := F.out; have := M.out; omega)).start, by
                        have h1 := F.out
                        have h2 := M.out
                        subst h1 h2
                        rfl, hh⟩)
                    clear hh
                    go_wp2_with fail
                    go_loopw [14] (fun i wr => GoRel W W.heap.size p r k j i wr) (fun i _ => k - (intOf i).toNat)
                    case atStart => exact Z2.out
                    case round =>
                      obtain ⟨i, S2, U2, hi, rfl, hk2, hu2, hs2, hT2⟩ := hrel
                      have T8 := Lib.hid hT2
                      have K8 := Lib.hid hk2
                      have U8 := Lib.hid hu2
                      have S8 := Lib.hid hs2
                      clear hT2 hk2 hu2 hs2
                      by_cases hlt2 : i < k
                      · have E := Lib.hid S8.out.tick
                        have Ta := Lib.hid (fun w (h : Both W W.heap.size p r S2 U2 w) => both_left h (pa_tick h.pa K8.out (by omega)))
                        have Tb := Lib.hid (fun w (h : Both W W.heap.size p r S2.tick U2 w) => both_right h (pa_tick h.pr U8.out (by omega)))
                        rw [E.out.2.1] at Tb
                        generalize S2.rings = bb at *
                        go_wp2_with fail
                        refine (Ta.out _ T8.out).mono ?_
                        rintro e w9 ⟨rfl, hh⟩
                        have T9 := Lib.hid hh
                        clear hh
                        go_wp2_with fail
                        refine (Tb.out _ T9.out).mono ?_
                        rintro e w10 ⟨rfl, hh⟩
                        have T10 := Lib.hid hh
                        clear hh
                        have Sa := Lib.hid (pa_step T10.out.pa)
                        have Sb := Lib.hid (pa_step T10.out.pr)
                        rw [E.out.2.2] at Sb
                        generalize S2.tick.s = ss at *
                        go_wp2_with fail
                        refine Sa.out.mono ?_
                        rintro e w11 ⟨rfl, rfl⟩
                        go_wp2_with fail
                        refine Sb.out.mono ?_
                        rintro e w12 ⟨rfl, rfl⟩
                        go_wp2_with fail
                        go_roundw
                        case rel => exact ⟨i + 1, S2.tick, U2.tick, by omega, by go_num, K8.out.tick, U8.out.tick, E.out.1, T10.out⟩
                        case measure => simp only [intOf]; omega
                      · have e4 : decide ((i : Int) < (k : Int)) = false := decide_eq_false (by omega)
                        go_wp2_with fail
                        go_ret
                        exact ⟨rfl, T8.out.be⟩

end Go.Proofs.Ytkokfebjobokhaa
