/-
  The document's own squares: one more.
-/
import Derived.Test.YtfiamomadicbpaaCrc
namespace Go.Proofs.Ytfiamomadicbpaa
open Go.RowKit

def UpR (T : TypeId) (W : World) (m : List (List Nat)) (i to : Nat) (s v : Value) (wr : World) : Prop :=
  ∃ (k : Nat) (L : List Rd), k ≤ m.length ∧ v = .int .i64 (k : Nat) ∧ L.length = m.length ∧ mOf L = m.set i (incL (m.getD i []) to k) ∧ OwnSq T W.heap.size wr s L ∧ Below W.heap.size W wr

theorem UpR.look {T : TypeId} {W wr : World} {m : List (List Nat)} {i to k n : Nat} {s : Value} {L : List Rd} (hn : m.length = n) (hr : ∀ r ∈ m, r.length = n) (hi : i < n) (hk : k < n) (hl : L.length = m.length) (hm : mOf L = m.set i (incL (m.getD i []) to k)) (hO : OwnSq T W.heap.size wr s L) (hb : Below W.heap.size W wr) :
    ∃ gs cap g c v, s = .slice (some ⟨gs, 0, none⟩) n cap ∧ wr.cell? ⟨gs, i, none⟩ = some (.slice (some ⟨g, 0, none⟩) n c) ∧ wr.cell? ⟨g, k, none⟩ = some (.int .u64 ((v : Nat) : Int)) ∧ wr.frozen? ⟨g, k, none⟩ = false ∧ v < 18446744073709551616 ∧
      ((¬ (hasN to (k : Int) = true ∧ v < 18446744073709551615)) → UpR T W m i to s (.int .i64 ((k + 1 : Nat) : Int)) wr) ∧
      ((hasN to (k : Int) = true ∧ v < 18446744073709551615) → UpR T W m i to s (.int .i64 ((k + 1 : Nat) : Int)) (wr.setCell ⟨g, k, none⟩ (.int .u64 ((v + 1 : Nat) : Int)))) := by
  have hiL : i < L.length := by omega
  have him : i < m.length := by omega
  have e1 : m.getD i [] = m[i] := by rw [List.getD, List.getElem?_eq_getElem him]; rfl
  have hrow : m[i].length = n := hr _ (List.getElem_mem _)
  have eL : L[i].l = incL m[i] to k := by
    rw [← mOf_at hiL]
    have : (mOf L)[i]'(by rw [mOf_len]; exact hiL) = (m.set i (incL (m.getD i []) to k))[i]'(by simpa using him) := getElem_congr_coll hm
    rw [this, List.getElem_set_self, e1]
  have hlen : L[i].l.length = n := by rw [eL, incL_length, hrow]
  obtain ⟨gs, cap, es, -, hc⟩ := hO.look hiL
  have hlt : atN m[i] k < 18446744073709551616 := by
    have := atN_lt (show 0 < QM by decide) (hO.lt _ (List.getElem_mem hiL)) k
    rw [eL, incL_same] at this
    exact this
  have hp := fun (v : Nat) (hv : v < QM) => hO.put hiL (j := k) (v := v) (by rw [hlen]; exact hk) hv
  obtain ⟨g, ea, -, hcg, hfz, -⟩ := hp 0 (by decide)
  rw [eL, incL_same] at hcg
  rw [ea, hlen] at hc
  refine ⟨gs, cap, g, L[i].c, atN m[i] k, by rw [es, hl, hn], hc, hcg, hfz, hlt, fun h => ?_, fun h => ?_⟩
  · exact ⟨k + 1, L, by omega, rfl, hl, by rw [hm, e1, incL_no h], hO, hb⟩
  · obtain ⟨g2, ea2, hB, -, -, hO2⟩ := hp (atN m[i] k + 1) (by show _ < 18446744073709551616; omega)
    rw [ea] at ea2
    cases ea2
    refine ⟨k + 1, _, by omega, rfl, by simpa using hl, ?_, hO2, hb.setCell hB _⟩
    have : mOf (L.set i ⟨L[i].a, L[i].c, L[i].l.set k (atN m[i] k + 1)⟩) = (mOf L).set i (L[i].l.set k (atN m[i] k + 1)) := by simp [mOf, List.map_set]
    rw [this, hm, e1, List.set_set, eL, incL_yes (by omega) h.1 h.2]

set_option maxRecDepth 20000 in
set_option maxHeartbeats 8000000 in
theorem rupm_any {W : World} {a : Option Addr} {cap n to : Nat} {L : List Rd} {z i : Int} (h : SqV W a cap L) (hn : L.length = n) (hl : n ≤ 10000) (hl2 : ∀ r ∈ L, r.l.length ≤ 10000) (hto : to < 18446744073709551616) :
    Calls Try.prog 22 #[.int .i64 z, .slice a n cap, .int .i64 i, .int .u64 (to : Int)] W (NewSq 37 W (upM z (mOf L) i to) n) := by
  have C1 := Lib.hid (copied_any h hn hl hl2)
  have S := Lib.hid h
  have HN := Lib.hid hn
  have HT := Lib.hid hto
  clear h hn hto
  go_enter Try.func22, Try.ntmps22
  go_wp2_with fail
  refine C1.out.mono ?_
  rintro e w1 ⟨s, M, rfl, hm, hM, hO, hb⟩
  have SB := Lib.hid (S.out.below hb)
  obtain ⟨sa, sc, rfl⟩ := own_form hO.out
  rw [hM]
  rw [hM] at hO
  obtain ⟨g, hg⟩ : ∃ g, g = goodM z (mOf L) := ⟨_, rfl⟩
  have HG := Lib.hid hg.symm
  clear hg
  go_wp2_with fail
  refine (rgood_any (z := z) SB.out HN.out HG.out).mono ?_
  rintro e w' ⟨rfl, rfl⟩
  cases g
  · have R := Lib.hid (show NewSq 37 W (upM z (mOf L) i to) n (.returned (.slice sa n sc)) w1 from ⟨_, M, rfl, by rw [hm, upM_no (fun h => by rw [HG.out] at h; cases h.1)], hM, hO, hb⟩)
    clear hm hM hO hb
    go_wp2_with fail
    go_ret
    exact R.out
  · by_cases h0 : i < 0
    · have d0 : decide (i < 0) = true := decide_eq_true h0
      have R := Lib.hid (show NewSq 37 W (upM z (mOf L) i to) n (.returned (.slice sa n sc)) w1 from ⟨_, M, rfl, by rw [hm, upM_no (fun h => by omega)], hM, hO, hb⟩)
      clear hm hM hO hb h0
      go_wp2_with fail
      go_ret
      exact R.out
    · have d0 : decide (i < 0) = false := decide_eq_false h0
      by_cases h1 : i ≥ z
      · have d1 : decide (i ≥ z) = true := decide_eq_true h1
        have R := Lib.hid (show NewSq 37 W (upM z (mOf L) i to) n (.returned (.slice sa n sc)) w1 from ⟨_, M, rfl, by rw [hm, upM_no (fun h => by omega)], hM, hO, hb⟩)
        clear hm hM hO hb h0 h1
        go_wp2_with fail
        go_ret
        exact R.out
      · have d1 : decide (i ≥ z) = false := decide_eq_false h1
        obtain ⟨N, rfl, hN1, hN2, hN3, hN4⟩ := goodM_is HG.out
        obtain ⟨p, rfl⟩ : ∃ p : Nat, i = p := ⟨i.toNat, by omega⟩
        have hpN : p < N := by omega
        obtain rfl : N = n := by rw [← hN3, mOf_len, HN.out]
        have q0 : (0 : Int) ≤ (p : Int) := by omega
        have q1 : (p : Int) < (N : Int) := by omega
        have d2 : decide (N ≤ p) = false := decide_eq_false (by omega)
        have HP := Lib.hid hpN
        have H3 := Lib.hid hN3
        have H4 := Lib.hid hN4
        have I0 := Lib.hid (show UpR 37 W (mOf L) p to (.slice sa N sc) (.int .i64 0) w1 from
          ⟨0, M, Nat.zero_le _, rfl, by rw [hM, hN3], by rw [incL_zero, hm, List.getD, List.getElem?_eq_getElem (by rw [hN3]; exact hpN)]; simp, hO, hb⟩)
        have FIN := Lib.hid (upM_yes (to := to) HG.out hpN)
        clear hm hM hO hb h0 h1 hpN hN3 hN4 SB
        go_wp2_with fail
        go_loopw [10] (fun v wr => UpR 37 W (mOf L) p to (.slice sa N sc) v wr) (fun v _ => N - (intOf v).toNat)
        case atStart => exact I0.out
        case round =>
          obtain ⟨k, M2, hk, rfl, hl9, hm9, hO, hb⟩ := hrel
          rw [H3.out] at hk
          clear I0
          by_cases hlt : k < N
          · obtain ⟨gs, cs, g, c, v, e9, k1, k2, f0, hv, hno, hyes⟩ := UpR.look H3.out H4.out HP.out hlt hl9 hm9 hO hb
            simp only [Value.slice.injEq, true_and] at e9
            obtain ⟨rfl, -⟩ := e9
            have IN := Lib.hid (in_any to (k : Int) wr HT.out ⟨by omega, by omega⟩)
            have NO := Lib.hid hno
            have YES := Lib.hid hyes
            clear hno hyes hO hb hl9 hm9 hk
            have j0 : (0 : Int) ≤ (k : Int) := by omega
            have j1 : (k : Int) < (N : Int) := by omega
            generalize hasN to (k : Int) = b at *
            cases b
            · have R := Lib.hid (NO.out (by simp))
              clear NO YES hv
              go_wp2_with fail
              refine IN.out.mono ?_
              rintro e w' ⟨rfl, rfl⟩
              go_wp2_with fail
              go_roundw
              case rel => exact R.out
              case measure => simp only [intOf]; omega
            · by_cases hv2 : v < 18446744073709551615
              · have R := Lib.hid (YES.out ⟨rfl, hv2⟩)
                have e1 : decide ((v : Int) < 18446744073709551615) = true := decide_eq_true (by omega)
                have e2 : decide (v < 18446744073709551615) = true := decide_eq_true hv2
                obtain ⟨v1, hv1⟩ : ∃ v1, v1 = v + 1 := ⟨_, rfl⟩
                have wv : IntKind.u64.wrap ((v : Int) + 1) = (v1 : Int) := by rw [wrapQ (by omega)]; omega
                rw [← hv1] at R
                clear NO YES hv hv2 hv1
                go_wp2_with fail
                refine IN.out.mono ?_
                rintro e w' ⟨rfl, rfl⟩
                go_wp2_with fail
                go_roundw
                case rel => exact R.out
                case measure => simp only [intOf]; omega
              · have R := Lib.hid (NO.out (by simp; omega))
                have e1 : decide ((v : Int) < 18446744073709551615) = false := decide_eq_false (by omega)
                have e2 : decide (v < 18446744073709551615) = false := decide_eq_false hv2
                clear NO YES hv hv2
                go_wp2_with fail
                refine IN.out.mono ?_
                rintro e w' ⟨rfl, rfl⟩
                go_wp2_with fail
                go_roundw
                case rel => exact R.out
                case measure => simp only [intOf]; omega
          · obtain rfl : k = N := by omega
            have dk : decide ((k : Int) < (k : Int)) = false := decide_eq_false (by omega)
            have R := Lib.hid (show NewSq 37 W (upM (k : Int) (mOf L) (p : Int) to) k (.returned (.slice sa k sc)) wr from
              ⟨_, M2, rfl, by rw [FIN.out, hm9], by rw [hl9, H3.out], hO, hb⟩)
            clear hO hb hl9 hm9
            go_wp2_with fail
            go_ret
            exact R.out

end Go.Proofs.Ytfiamomadicbpaa
