/-
  Alike rows: bodies and strings.
-/
import Derived.Test.YthipdinpbihhmaaNheld
namespace Go.Proofs.Ythipdinpbihhmaa
open Go.RowKit

def RowsRel (W : World) (n : Nat) (ss rs : List ByteArray) (i : Value) (wr : World) : Prop := ∃ k q, k ≤ n ∧ i = .int .i64 ((k : Nat) : Int) ∧ wr = W.drewN q ∧ ss.take k = rs.take k

theorem rows_more {ss rs : List ByteArray} {k : Nat} (h : ss.take k = rs.take k) (h1 : k < ss.length) (h2 : k < rs.length) (e : ss[k] = rs[k]) : ss.take (k + 1) = rs.take (k + 1) := by
  rw [List.take_succ_eq_append_getElem h1, List.take_succ_eq_append_getElem h2, h, e]

theorem str_ne {s r : ByteArray} (h : s ≠ r) : (s.toList == r.toList) = false := by
  rw [Lib.toList_data, Lib.toList_data]
  refine beq_eq_false_iff_ne.2 (fun e => h ?_)
  cases s
  cases r
  simpa using Array.toList_inj.1 e

set_option maxRecDepth 20000 in
set_option maxHeartbeats 4000000 in
theorem rows_any {W : World} {M : Nat} {a1 a2 : Option Addr} {n m c1 c2 : Nat} {ss rs : List ByteArray} (h1 : UpR M W (.slice a1 n c1) ss) (h2 : SlV W a2 c2 (rs.map Value.string)) (hm : rs.length = m) (b : Bool) (hb : decide (ss = rs) = b) :
    Calls Try.prog 12 #[.slice a1 n c1, .slice a2 m c2] W fun E w' => E = .returned (.bool b) ∧ ∃ q, w' = W.drewN q := by
  obtain ⟨a, cap, L, e1, e2, r1, bo⟩ := h1
  simp only [Value.slice.injEq] at e1
  obtain ⟨rfl, hn1, rfl⟩ := e1
  rw [← hn1] at r1
  have hfit := r1.fit
  have hmax := r1.max
  have hfit2 := h2.fit
  have hmax2 := h2.max
  unfold maxLen at hmax hmax2
  rw [List.length_map] at hfit2
  have hls : ss.length = n := by rw [← e2, List.length_map, hn1]
  have R1 := Lib.hid r1
  have R2 := Lib.hid h2
  have BO := Lib.hid bo
  have E2 := Lib.hid e2
  have N1 := Lib.hid hn1
  have NS := Lib.hid hls
  have NM := Lib.hid hm
  clear r1 h2 bo e2 hn1
  by_cases hnm : n = m
  · subst hnm
    have HB := Lib.hid hb
    clear hls hm hb
    go_enter Try.func12, Try.ntmps12
    go_wp2_with fail
    go_loopw [5] (fun i wr => RowsRel W n ss rs i wr) (fun i _ => n - (intOf i).toNat)
    case atStart => exact ⟨0, 0, Nat.zero_le _, rfl, rfl, rfl⟩
    case round =>
      obtain ⟨k, q, hk, rfl, rfl, hT⟩ := hrel
      by_cases hlt : k < n
      · have hk1 : k < L.length := by rw [← N1.out]; exact hlt
        have hk2 : k < ss.length := by rw [NS.out]; exact hlt
        have hk3 : k < rs.length := by rw [NM.out]; exact hlt
        obtain ⟨o1, f1, rfl, hb1, -, k0⟩ := R1.out.cell k (bdV L[k]) (by rw [List.getElem?_map, List.getElem?_eq_getElem hk1]; rfl)
        obtain ⟨o2, f2, rfl, hb2, m0⟩ := R2.out.at k hk3
        have hs : L[k].s = ss[k] := by
          have := E2.out
          subst this
          rw [List.getElem_map]
        have HT := Lib.hid (rows_more hT hk2 hk3)
        have HF := Lib.hid (show ss[k] ≠ rs[k] → b = false from fun h => by
          rw [← HB.out]
          exact decide_eq_false (fun e => h (by subst e; rfl)))
        have hB := BO.out L[k] (List.getElem_mem _)
        generalize L[k] = bd at *
        generalize hsx : ss[k] = sx at *
        generalize rs[k] = rx at *
        obtain ⟨ab, cb, sb⟩ := bd
        have hs' : sb = sx := hs
        subst hs'
        have y1 : (W.drewN q).cell? ⟨o1, f1 + k, none⟩ = some (.slice ab sb.size cb) := k0
        have y2 : (W.drewN q).cell? ⟨o2, f2 + k, none⟩ = some (.string rx) := m0
        have cv : ∀ j, (convert 31 9 (.slice ab sb.size cb)).run Try.prog ((W.drewN q).drewN j) = .ok (.string sb) ((W.drewN q).drewN j) := fun j => by
          have := conv_any (w := (W.drewN q).drewN j) (hB.1.below ⟨rfl, rfl, rfl, Nat.le_refl _, fun _ _ => rfl⟩) (bsN_len sb)
          rw [strB_bsN] at this
          exact this
        have cv0 := cv 0
        have i0 : (0 : Int) ≤ (k : Int) := by omega
        have i1 : (k : Int) < (n : Int) := by omega
        have hQ := Lib.hid (fun j => (show ∃ q', (W.drewN q).drewN j = W.drewN q' from ⟨q + j, by rw [World.drewN_drewN]⟩))
        clear k0 m0 hs hsx hB hk1 hk2 hk3 hT
        by_cases he : sb = rx
        · have HT2 := Lib.hid (HT.out he)
          subst he
          clear HT HF
          generalize W.drewN q = ww at *
          go_wp2_with fail
          go_quiet (fail)
          go_wp2_with fail
          go_roundw
          case rel => exact (hQ.out _).elim fun q' e => ⟨k + 1, q', by omega, by go_num, e, HT2.out⟩
          case measure => simp only [intOf]; omega
        · have hF := HF.out he
          have hne := str_ne he
          subst hF
          clear HF HT HB he
          generalize W.drewN q = ww at *
          go_wp2_with fail
          go_quiet (fail)
          go_wp2_with fail
          go_ret
          exact ⟨rfl, hQ.out _⟩
      · obtain rfl : k = n := by omega
        have dk : decide ((k : Int) < (k : Int)) = false := decide_eq_false (by omega)
        have HR := Lib.hid (show b = true from by
          rw [← HB.out]
          refine decide_eq_true ?_
          rw [List.take_of_length_le (by rw [NS.out]; exact Nat.le_refl _), List.take_of_length_le (by rw [NM.out]; exact Nat.le_refl _)] at hT
          exact hT)
        clear hT
        have hR := HR.out
        subst hR
        go_wp2_with fail
        go_ret
        exact ⟨rfl, _, rfl⟩
  · have HF := Lib.hid (show b = false from by
      rw [← hb]
      refine decide_eq_false (fun e => hnm ?_)
      rw [← hls, ← hm, e])
    have dn : ((n : Int) != (m : Int)) = true := by simp; omega
    clear hb hls hm
    have hF := HF.out
    subst hF
    go_enter Try.func12, Try.ntmps12
    go_wp2_with fail
    go_ret
    exact ⟨rfl, 0, rfl⟩

end Go.Proofs.Ythipdinpbihhmaa
