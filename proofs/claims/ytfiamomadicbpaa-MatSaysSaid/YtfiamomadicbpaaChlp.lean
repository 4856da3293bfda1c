/-
  Squares: too heavy; whether they may be; alike.
-/
import Derived.Test.YtfiamomadicbpaaCmat
import Derived.Test.YtfiamomadicbpaaBcal
namespace Go.Proofs.Ytfiamomadicbpaa
open Go.RowKit

set_option maxRecDepth 20000 in
set_option maxHeartbeats 2000000 in
theorem heavy_any {W : World} {a : Option Addr} {cap n : Nat} {L : List Rd} (h : SqV W a cap L) (hn : L.length = n) {r : Bool} (hr : heavyM (mOf L) = r) :
    Calls Try.prog 19 #[.slice a n cap] W fun e w' => e = .returned (.bool r) ∧ W = w' := by
  have hfit := h.fit
  have hmax := h.out.max
  unfold maxLen at hmax
  have S := Lib.hid h
  have HR := Lib.hid hr
  clear h hr
  have HN := Lib.hid hn
  rw [hn] at hfit
  clear hn
  go_enter Try.func19, Try.ntmps19
  by_cases hb : 20 < n
  · have d1 : decide ((n : Int) > 20) = true := decide_eq_true (by omega)
    have d2 : decide (20 < n) = true := decide_eq_true hb
    have R := Lib.hid (show r = true from by rw [← HR.out]; exact heavyM_len (by rw [mOf_len, HN.out]; exact hb))
    clear hb
    go_wp2_with fail
    go_ret
    exact ⟨by rw [R.out]; rfl, rfl⟩
  · have d1 : decide ((n : Int) > 20) = false := decide_eq_false (by omega)
    have d2 : decide (20 < n) = false := decide_eq_false hb
    have h20 : n ≤ 20 := by omega
    clear hb
    go_wp2_with fail
    go_loop [3] (fun v => ∃ k : Nat, k ≤ n ∧ v = .int .i64 (k : Nat) ∧ Hid (∀ r ∈ L.take k, r.l.length ≤ 20)) (fun v => n - (intOf v).toNat)
    case atStart => exact ⟨0, Nat.zero_le _, rfl, Lib.hid (fun r hr => by simp at hr)⟩
    case round =>
      obtain ⟨k, hk, rfl, hT⟩ := hrel
      by_cases hlt : k < n
      · have kl : k < L.length := by rw [HN.out]; exact hlt
        obtain ⟨b, off, rfl, hb, hc⟩ := S.out.at kl
        have i0 : (0 : Int) ≤ (k : Int) := by omega
        have i1 : (k : Int) < (n : Int) := by omega
        have hgt := Lib.hid (fun (h : 20 < L[k].l.length) => show r = true from by rw [← HR.out]; exact heavyM_row (r := L[k].l) (List.mem_map.2 ⟨L[k], List.getElem_mem _, rfl⟩) h)
        have hle := Lib.hid (fun (h : L[k].l.length ≤ 20) => show ∀ r ∈ L.take (k + 1), r.l.length ≤ 20 from fun r hr => by
          rw [List.take_succ_eq_append_getElem kl] at hr
          rcases List.mem_append.1 hr with hr | hr
          · exact hT.out r hr
          · rw [List.mem_singleton.1 hr]; exact h)
        have hf := (S.out.row kl).fit
        have hm := (S.out.row kl).max
        unfold maxLen at hm
        generalize L[k].l.length = x at *
        generalize L[k].a = ra at *
        generalize L[k].c = rc at *
        by_cases hx : 20 < x
        · have d1 : decide ((x : Int) > 20) = true := decide_eq_true (by omega)
          have d2 : decide (20 < x) = true := decide_eq_true hx
          have R := Lib.hid (hgt.out hx)
          clear hx
          go_wp2_with fail
          go_ret
          exact ⟨by rw [R.out]; rfl, rfl⟩
        · have d1 : decide ((x : Int) > 20) = false := decide_eq_false (by omega)
          have d2 : decide (20 < x) = false := decide_eq_false hx
          have R := Lib.hid (hle.out (by omega))
          clear hx
          go_wp2_with fail
          go_round
          case rel => exact ⟨k + 1, by omega, by go_num, R⟩
          case measure => simp only [intOf]; omega
      · have R := Lib.hid (show r = false from by
          rw [← HR.out]
          refine heavyM_of (by rw [mOf_len, HN.out]; exact h20) (fun r hr => ?_)
          obtain ⟨x, hx, rfl⟩ := List.mem_map.1 hr
          refine hT.out x ?_
          rwa [List.take_of_length_le (by rw [HN.out]; omega)])
        go_wp2_with fail
        go_ret
        exact ⟨by rw [R.out]; rfl, rfl⟩

set_option maxRecDepth 20000 in
set_option maxHeartbeats 2000000 in
theorem rgood_any {W : World} {a : Option Addr} {cap n : Nat} {L : List Rd} {z : Int} (h : SqV W a cap L) (hn : L.length = n) {r : Bool} (hr : goodM z (mOf L) = r) :
    Calls Try.prog 21 #[.int .i64 z, .slice a n cap] W fun e w' => e = .returned (.bool r) ∧ W = w' := by
  have hfit := h.fit
  have hmax := h.out.max
  unfold maxLen at hmax
  have S := Lib.hid h
  have HR := Lib.hid hr
  clear h hr
  have HN := Lib.hid hn
  rw [hn] at hfit
  clear hn
  go_enter Try.func21, Try.ntmps21
  by_cases h1 : z < 1
  · have d1 : decide (z < 1) = true := decide_eq_true h1
    have R := Lib.hid (show r = false from by rw [← HR.out]; exact goodM_low h1)
    clear h1
    go_wp2_with fail
    go_ret
    exact ⟨by rw [R.out]; rfl, rfl⟩
  · have d1 : decide (z < 1) = false := decide_eq_false h1
    by_cases h2 : z > 16
    · have d2 : decide (z > 16) = true := decide_eq_true h2
      have R := Lib.hid (show r = false from by rw [← HR.out]; exact goodM_high h2)
      clear h1 h2
      go_wp2_with fail
      go_ret
      exact ⟨by rw [R.out]; rfl, rfl⟩
    · have d2 : decide (z > 16) = false := decide_eq_false h2
      by_cases h3 : (n : Int) = z
      · subst h3
        have d3 : ((n : Int) != (n : Int)) = false := by simp
        have h16 : n ≤ 16 := by omega
        have HP := Lib.hid (show 1 ≤ n by omega)
        clear h1 h2
        go_wp2_with fail
        go_loop [5] (fun v => ∃ k : Nat, k ≤ n ∧ v = .int .i64 (k : Nat) ∧ Hid (∀ r ∈ L.take k, r.l.length = n)) (fun v => n - (intOf v).toNat)
        case atStart => exact ⟨0, Nat.zero_le _, rfl, Lib.hid (fun r hr => by simp at hr)⟩
        case round =>
          obtain ⟨k, hk, rfl, hT⟩ := hrel
          by_cases hlt : k < n
          · have kl : k < L.length := by rw [HN.out]; exact hlt
            obtain ⟨b, off, rfl, hb, hc⟩ := S.out.at kl
            have i0 : (0 : Int) ≤ (k : Int) := by omega
            have i1 : (k : Int) < (n : Int) := by omega
            have hgt := Lib.hid (fun (h : L[k].l.length ≠ n) => show r = false from by rw [← HR.out]; exact goodM_row (r := L[k].l) (List.mem_map.2 ⟨L[k], List.getElem_mem _, rfl⟩) (by omega))
            have hle := Lib.hid (fun (h : L[k].l.length = n) => show ∀ r ∈ L.take (k + 1), r.l.length = n from fun r hr => by
              rw [List.take_succ_eq_append_getElem kl] at hr
              rcases List.mem_append.1 hr with hr | hr
              · exact hT.out r hr
              · rw [List.mem_singleton.1 hr]; exact h)
            have hf := (S.out.row kl).fit
            have hm := (S.out.row kl).max
            unfold maxLen at hm
            generalize L[k].l.length = x at *
            generalize L[k].a = ra at *
            generalize L[k].c = rc at *
            by_cases hx : x = n
            · have d1 : ((x : Int) != (n : Int)) = false := by simp; omega
              have R := Lib.hid (hle.out hx)
              clear hx
              go_wp2_with fail
              go_round
              case rel => exact ⟨k + 1, by omega, by go_num, R⟩
              case measure => simp only [intOf]; omega
            · have d1 : ((x : Int) != (n : Int)) = true := by simp; omega
              have R := Lib.hid (hgt.out hx)
              clear hx
              go_wp2_with fail
              go_ret
              exact ⟨by rw [R.out]; rfl, rfl⟩
          · have R := Lib.hid (show r = true from by
              rw [← HR.out]
              refine goodM_of HP.out h16 (by rw [mOf_len, HN.out]) (fun r hr => ?_)
              obtain ⟨x, hx, rfl⟩ := List.mem_map.1 hr
              refine hT.out x ?_
              rwa [List.take_of_length_le (by rw [HN.out]; omega)])
            go_wp2_with fail
            go_ret
            exact ⟨by rw [R.out]; rfl, rfl⟩
      · have d3 : ((n : Int) != z) = true := by simpa using h3
        have R := Lib.hid (show r = false from by rw [← HR.out]; exact goodM_len (by rw [mOf_len, HN.out]; exact h3))
        clear h1 h2 h3
        go_wp2_with fail
        go_ret
        exact ⟨by rw [R.out]; rfl, rfl⟩

theorem m_same {xs ys : List (List Nat)} {k : Nat} (h : xs.take k = ys.take k) (hx : k < xs.length) (hy : k < ys.length) (e : xs[k] = ys[k]) : xs.take (k + 1) = ys.take (k + 1) := by
  rw [List.take_succ_eq_append_getElem hx, List.take_succ_eq_append_getElem hy, h, e]

set_option maxRecDepth 20000 in
set_option maxHeartbeats 2000000 in
theorem squares_any {W : World} {a1 a2 : Option Addr} {c1 c2 n m : Nat} {L M : List Rd} (h1 : SqV W a1 c1 L) (h2 : SqV W a2 c2 M) (hn : L.length = n) (hm : M.length = m) {r : Bool} (hr : decide (mOf L = mOf M) = r) :
    Calls Try.prog 12 #[.slice a1 n c1, .slice a2 m c2] W fun e w' => e = .returned (.bool r) ∧ ∃ q, w' = W.drewN q := by
  have hfa := h1.fit
  have hma := h1.out.max
  have hfb := h2.fit
  have hmb := h2.out.max
  unfold maxLen at hma hmb
  have A := Lib.hid h1
  have B := Lib.hid h2
  have HN := Lib.hid hn
  have HM := Lib.hid hm
  have HR := Lib.hid hr
  rw [hn] at hfa
  rw [hm] at hfb
  clear h1 h2 hn hm hr
  go_enter Try.func12, Try.ntmps12
  by_cases hl : n = m
  · subst hl
    go_wp2_with fail
    go_loopw [5] (fun i wr => ∃ (k q : Nat), k ≤ n ∧ i = .int .i64 (k : Nat) ∧ wr = W.drewN q ∧ Hid ((mOf L).take k = (mOf M).take k)) (fun i _ => n - (intOf i).toNat)
    case atStart => exact ⟨0, 0, Nat.zero_le _, rfl, rfl, rfl⟩
    case round =>
      obtain ⟨k, q, hk, rfl, rfl, hc⟩ := hrel
      by_cases hlt : k < n
      · have kl : k < L.length := by rw [HN.out]; exact hlt
        have km : k < M.length := by rw [HM.out]; exact hlt
        obtain ⟨b, off, rfl, hb, k1⟩ := (A.out.drewN q).at kl
        obtain ⟨b2, off2, rfl, hb2, k2⟩ := (B.out.drewN q).at km
        have S1 := Lib.hid ((A.out.drewN q).row kl)
        have S2 := Lib.hid ((B.out.drewN q).row km)
        have H1 := Lib.hid (fun (h : L[k].l = M[k].l) => m_same hc.out (by rw [mOf_len]; exact kl) (by rw [mOf_len]; exact km) (by rw [mOf_at kl, mOf_at km]; exact h))
        have H2 := Lib.hid (fun (h : ¬ L[k].l = M[k].l) => show ¬ mOf L = mOf M from fun e => h (by
          have e1 := mOf_at kl
          have e2 := mOf_at km
          rw [← e1, ← e2]
          exact getElem_congr_coll e))
        have hQ := Lib.hid (fun n => (show ∃ q', (W.drewN q).drewN n = W.drewN q' from ⟨q + n, by rw [World.drewN_drewN]⟩))
        have ib : (k : Int) < (n : Int) := by omega
        have hf1 := S1.out.fit
        have hf2 := S2.out.fit
        generalize W.drewN q = ww at *
        generalize hx : L[k] = x at *
        generalize hy : M[k] = y at *
        clear hx hy hb hb2
        obtain ⟨xa, xc, xl⟩ := x
        obtain ⟨ya, yc, yl⟩ := y
        simp only at k1 k2
        have CQ := Lib.hid (fun n => longs_any (S1.out.drewN n) (S2.out.drewN n) rfl rfl rfl)
        clear S1 S2
        simp only at CQ H1 H2 hf1 hf2
        by_cases d : xl = yl
        · have R := Lib.hid (H1.out d)
          rw [decide_eq_true d] at CQ
          generalize xl.length = x1 at *
          generalize yl.length = y1 at *
          clear d H1 H2
          go_wp2_with fail
          go_quiet ((go_at_call 14; exact Calls.quiet_of (CQ.out _)))
          go_wp2_with fail
          go_roundw
          case rel => exact (hQ.out _).elim fun q' e => ⟨k + 1, q', by omega, by go_num, e, R⟩
          case measure => simp only [intOf]; omega
        · have R := Lib.hid (H2.out d)
          rw [decide_eq_false d] at CQ
          generalize xl.length = x1 at *
          generalize yl.length = y1 at *
          clear d H1 H2
          go_wp2_with fail
          go_quiet ((go_at_call 14; exact Calls.quiet_of (CQ.out _)))
          go_wp2_with fail
          go_ret
          exact ⟨by rw [← HR.out, decide_eq_false R.out]; rfl, hQ.out _⟩
      · have R := Lib.hid (show mOf L = mOf M by have h := hc.out; rwa [List.take_of_length_le (by rw [mOf_len, HN.out]; omega), List.take_of_length_le (by rw [mOf_len, HM.out]; omega)] at h)
        go_wp2_with fail
        go_ret
        exact ⟨by rw [← HR.out, decide_eq_true R.out]; rfl, _, rfl⟩
  · have R := Lib.hid (show ¬ mOf L = mOf M from fun e => hl (by rw [← HN.out, ← HM.out, ← mOf_len L, ← mOf_len M, e]))
    go_wp2_with fail
    go_ret
    exact ⟨by rw [← HR.out, decide_eq_false R.out]; rfl, 0, rfl⟩

end Go.Proofs.Ytfiamomadicbpaa
