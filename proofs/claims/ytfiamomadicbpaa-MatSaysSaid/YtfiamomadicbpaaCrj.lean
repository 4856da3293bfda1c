/-
  The document's own squares: put together.
-/
import Derived.Test.YtfiamomadicbpaaCrc
import Derived.Test.YtfiamomadicbpaaBaw
namespace Go.Proofs.Ytfiamomadicbpaa
open Go.RowKit

/-- The first k rows put together. -/
def mixM (a b : List (List Nat)) (k : Nat) : List (List Nat) := (List.range a.length).map fun i => if i < k then joinL (a.getD i []) (b.getD i []) else a.getD i []
theorem mixM_len (a b : List (List Nat)) (k : Nat) : (mixM a b k).length = a.length := by simp [mixM]
theorem mixM_zero (a b : List (List Nat)) : mixM a b 0 = a := List.ext_getElem (by simp [mixM]) fun i h1 h2 => by simp [mixM, List.getD, h2]
theorem mixM_all (a b : List (List Nat)) : mixM a b a.length = joinM a b := by
  refine List.ext_getElem (by simp [mixM, joinM]) fun i h1 h2 => ?_
  have : i < a.length := by simpa [mixM] using h1
  simp [mixM, joinM, this]
theorem mixM_at {a b : List (List Nat)} {k : Nat} (h : k < a.length) : (mixM a b k)[k]'(by rw [mixM_len]; exact h) = a[k] := by simp [mixM, List.getD, h]
theorem mixM_set {a b : List (List Nat)} {k : Nat} (ha : k < a.length) (hb : k < b.length) : (mixM a b k).set k (joinL a[k] b[k]) = mixM a b (k + 1) := by
  refine List.ext_getElem (by simp [mixM]) fun i h1 h2 => ?_
  have hi : i < a.length := by simpa [mixM] using h2
  rw [List.getElem_set]
  by_cases e : k = i
  · subst e
    simp [mixM, List.getD, ha, hb]
  · rw [if_neg e]
    simp only [mixM, List.getElem_map, List.getElem_range]
    by_cases h : i < k
    · rw [if_pos h, if_pos (by omega)]
    · rw [if_neg h, if_neg (by omega)]

def JnR (T : TypeId) (W : World) (A B : List (List Nat)) (s v : Value) (wr : World) : Prop :=
  ∃ (k : Nat) (L : List Rd), k ≤ A.length ∧ v = .int .i64 (k : Nat) ∧ L.length = A.length ∧ mOf L = mixM A B k ∧ OwnSq T W.heap.size wr s L ∧ Below W.heap.size W wr

set_option maxRecDepth 20000 in
set_option maxHeartbeats 8000000 in
theorem rjoinm_any {W : World} {a1 a2 : Option Addr} {c1 c2 n m : Nat} {L M : List Rd} (h1 : SqV W a1 c1 L) (h2 : SqV W a2 c2 M) (hn : L.length = n) (hm : M.length = m) (hnm : n ≤ m) (hl : n ≤ 10000) (hl2 : ∀ r ∈ L, r.l.length ≤ 10000) (hl3 : ∀ r ∈ M, r.l.length ≤ 10000) :
    Calls Try.prog 23 #[.slice a1 n c1, .slice a2 m c2] W (NewSq 37 W (joinM (mOf L) (mOf M)) n) := by
  have C1 := Lib.hid (copied_any h1 hn hl hl2)
  have S := Lib.hid h2
  have HN := Lib.hid hn
  have HM := Lib.hid hm
  have H2 := Lib.hid hl2
  have H3 := Lib.hid hl3
  clear h1 h2 hn hm hl2 hl3
  go_enter Try.func23, Try.ntmps23
  go_wp2_with fail
  refine C1.out.mono ?_
  rintro e w1 ⟨s, K, rfl, hk, hK, hO, hb⟩
  obtain ⟨sa, sc, rfl⟩ := own_form hO.out
  rw [hK]
  rw [hK] at hO
  have I0 := Lib.hid (show JnR 37 W (mOf L) (mOf M) (.slice sa n sc) (.int .i64 0) w1 from ⟨0, K, Nat.zero_le _, rfl, by rw [hK, mOf_len, HN.out], by rw [hk, mixM_zero], hO, hb⟩)
  clear hk hK hO hb C1
  go_wp2_with fail
  go_loopw [6] (fun v wr => JnR 37 W (mOf L) (mOf M) (.slice sa n sc) v wr) (fun v _ => n - (intOf v).toNat)
  case atStart => exact I0.out
  case round =>
    obtain ⟨k, K, hk, rfl, hl9, hm9, hO, hb⟩ := hrel
    clear I0
    rw [mOf_len, HN.out] at hk hl9
    by_cases hlt : k < n
    · have kL : k < L.length := by rw [HN.out]; exact hlt
      have kM : k < M.length := by rw [HM.out]; omega
      have kK : k < K.length := by rw [hl9]; exact hlt
      have eK : K[k].l = L[k].l := by
        rw [← mOf_at kK, ← mOf_at kL]
        have : (mOf K)[k]'(by rw [mOf_len]; exact kK) = (mixM (mOf L) (mOf M) k)[k]'(by rw [mixM_len, mOf_len]; exact kL) := getElem_congr_coll hm9
        rw [this, mixM_at]
      obtain ⟨gs, cs, es, hgB, hc0⟩ := hO.look kK
      rw [hl9] at es
      simp only [Value.slice.injEq, true_and] at es
      obtain ⟨rfl, -⟩ := es
      obtain ⟨b, off, rfl, -, hc1⟩ := (S.out.below hb).at kM
      have R1 : SlAt qV QM wr K[k].a K[k].c K[k].l := by
        obtain ⟨a9, c9, -, hsq, -⟩ := hO.sq
        exact hsq.each _ (List.getElem_mem _)
      have R2 := (S.out.below hb).row kM
      have n1 : K[k].l.length ≤ 10000 := by rw [eK]; exact H2.out _ (List.getElem_mem _)
      have n2 : M[k].l.length ≤ 10000 := H3.out _ (List.getElem_mem _)
      have d0 := drew_below wr
      have CJ := Lib.hid (cl_rjoin (W := wr.drew) (R1.below d0) (R2.below d0) rfl rfl (by omega) (by omega) rfl rfl)
      have FIN := Lib.hid (fun (w2 : World) (a c : _) (h1 : Below wr.drew.heap.size wr.drew w2) (hr : w2.ownsRow wr.drew.heap.size 30 1 (.slice a (joinL K[k].l M[k].l).length c) (joinL K[k].l M[k].l).length ((joinL K[k].l M[k].l).map qV)) =>
        show ∃ c2, w2.cell? ⟨gs, k, none⟩ = some c2 ∧ w2.frozen? ⟨gs, k, none⟩ = false ∧ JnR 37 W (mOf L) (mOf M) (.slice (some ⟨gs, 0, none⟩) n sc) (.int .i64 ((k + 1 : Nat) : Int)) (w2.setCell ⟨gs, k, none⟩ (.slice a (joinL K[k].l M[k].l).length c)) from by
          obtain ⟨g, cap, e1, hg, hc, hf, hO2⟩ := (hO.below d0).setrow (i := k) kK h1 hr hb.size (joinL_lt (by decide) R1.lt R2.lt)
          rw [hl9] at e1
          simp only [Value.slice.injEq, Option.some.injEq, Addr.mk.injEq, and_true, true_and] at e1
          obtain ⟨rfl, -⟩ := e1
          refine ⟨_, hc, hf, k + 1, _, by rw [mOf_len, HN.out]; omega, rfl, by rw [List.length_set, hl9, mOf_len, HN.out], ?_, hO2, ((hb.trans (d0.mono hb.size)).trans (h1.mono hb.size)).setCell hg _⟩
          have : mOf (K.set k ⟨a, c, joinL K[k].l M[k].l⟩) = (mOf K).set k (joinL K[k].l M[k].l) := by simp [mOf, List.map_set]
          rw [this, hm9, eK, ← mOf_at kL, ← mOf_at kM, mixM_set (by rw [mOf_len]; exact kL) (by rw [mOf_len]; exact kM)])
      have c0d : wr.drew.cell? ⟨gs, k, none⟩ = some (.slice K[k].a K[k].l.length K[k].c) := hc0
      have c1d : wr.drew.cell? ⟨b, off + k, none⟩ = some (.slice M[k].a M[k].l.length M[k].c) := hc1
      have j0 : (0 : Int) ≤ (k : Int) := by omega
      have j1 : (k : Int) < (n : Int) := by omega
      have j2 : (k : Int) < (m : Int) := by omega
      have hsm := (S.out).fit
      rw [HM.out] at hsm
      clear eK hO hb R1 R2 n1 n2 d0 hm9 hl9 hk hgB
      generalize joinL K[k].l M[k].l = r at *
      generalize K[k] = x at *
      generalize M[k] = y at *
      obtain ⟨xa, xc, xl⟩ := x
      obtain ⟨ya, yc, yl⟩ := y
      simp only at hc0 hc1 c0d c1d CJ
      clear kL kM kK
      generalize xl.length = x1 at *
      generalize yl.length = y1 at *
      generalize r.length = rl at *
      go_wp2_with fail
      go_region_law (go_simp; go_at_call 41; refine CJ.out.mono ?_; rintro e w3 ⟨a3, c3, rfl, -, hb3, -, ho3⟩; obtain ⟨c9, k1, k2, k3⟩ := FIN.out w3 a3 c3 hb3 ho3; have R := Lib.hid k3; clear hb3 ho3 k3)
      all_goals
        try go_simp
        go_wp2_with fail
        go_roundw
        case rel => exact R.out
        case measure => simp only [intOf]; omega
    · obtain rfl : k = n := by omega
      have dk : decide ((k : Int) < (k : Int)) = false := decide_eq_false (by omega)
      have R := Lib.hid (show NewSq 37 W (joinM (mOf L) (mOf M)) k (.returned (.slice sa k sc)) wr from
        ⟨_, K, rfl, by rw [hm9, ← mixM_all, mOf_len, HN.out], hl9, hO, hb⟩)
      clear hO hb hm9 hl9
      go_wp2_with fail
      go_ret
      exact R.out

end Go.Proofs.Ytfiamomadicbpaa
