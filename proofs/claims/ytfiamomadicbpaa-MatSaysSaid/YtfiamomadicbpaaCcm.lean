/-
  mat.Column.
-/
import Derived.Test.YtfiamomadicbpaaCwi
import Derived.Test.YtfiamomadicbpaaBaw
namespace Go.Proofs.Ytfiamomadicbpaa
open Go.RowKit

def ClmR (U : World) (N : Nat) (j : Nat) (m : List (List Nat)) (s i : Value) (wr : World) : Prop :=
  ∃ (k : Nat) (xs : List Nat), k ≤ N ∧ i = .int .i64 (k : Nat) ∧ xs.length = N ∧ (∀ t, t < k → atN xs t = atN (m.getD t []) j) ∧ (∀ x ∈ xs, x < QM) ∧ wr.ownsRow U.heap.size 30 1 s N (xs.map qV) ∧ Below U.heap.size U wr

theorem ClmR.step {U wr w3 : World} {N j k v : Nat} {m : List (List Nat)} {s : Value} {xs : List Nat} (hk : k < N) (hx : xs.length = N) (ha : ∀ t, t < k → atN xs t = atN (m.getD t []) j) (hq : ∀ x ∈ xs, x < QM) (ho : wr.ownsRow U.heap.size 30 1 s N (xs.map qV)) (hb : Below U.heap.size U wr) (h3 : Below wr.heap.size wr w3) (hv : atN (m.getD k []) j = v) (hv2 : v < QM) :
    ∃ g cap c9, s = .slice (some ⟨g, 0, none⟩) N cap ∧ w3.cell? ⟨g, k, none⟩ = some c9 ∧ w3.frozen? ⟨g, k, none⟩ = false ∧ ClmR U N j m s (.int .i64 ((k + 1 : Nat) : Int)) (w3.setCell ⟨g, k, none⟩ (.int .u64 (v : Int))) := by
  subst hv
  have ho3 := own_below ho h3
  obtain ⟨g, cap, e, hg1, hg2⟩ := ho.form (by omega)
  subst e
  have hc := ho3.cellAt k (by omega)
  rw [List.getElem?_map, List.getElem?_eq_getElem (by omega)] at hc
  have hst := (ho3.stored k (.int .u64 ((atN (m.getD k []) j : Nat) : Int))).1
  refine ⟨g, cap, _, rfl, hc, ho3.frozenAt k, k + 1, xs.set k (atN (m.getD k []) j), by omega, rfl, by simpa using hx, fun t ht => ?_, fun x hx' => ?_, ?_, (hb.trans (h3.mono hb.size)).setCell hg1 _⟩
  · rw [set_atN (by omega)]
    by_cases e : t = k
    · rw [if_pos e, e]
    · rw [if_neg e]; exact ha t (by omega)
  · rcases List.mem_or_eq_of_mem_set hx' with h | rfl
    · exact hq x h
    · exact hv2
  · rw [List.map_set]
    exact hst

theorem colM_no {z : Int} {m : List (List Nat)} {j : Int} (h : ¬ (goodM z m = true ∧ 0 ≤ j ∧ j < z)) : colM z m j = [] := if_neg h
theorem colM_yes {n j : Nat} {m : List (List Nat)} (h : goodM (n : Int) m = true) (hj : j < n) : colM (n : Int) m (j : Int) = m.map fun r => atN r j := by
  unfold colM
  rw [if_pos ⟨h, by omega, by omega⟩, Int.toNat_natCast]
theorem ClmR.fin {U wr : World} {N j : Nat} {m : List (List Nat)} {a : Option Addr} {cap : Nat} {xs : List Nat} (hm : m.length = N) (hx : xs.length = N) (ha : ∀ t, t < N → atN xs t = atN (m.getD t []) j) (hq : ∀ x ∈ xs, x < QM) (ho : wr.ownsRow U.heap.size 30 1 (.slice a N cap) N (xs.map qV)) :
    SlAt qV QM wr a cap (m.map fun r => atN r j) := by
  obtain ⟨-, a2, c2, e, hs⟩ := own_sl ho hq
  have : xs = m.map fun r => atN r j := row_ext (by simp [hx, hm]) fun t ht => by
    rw [ha t (by omega), atN_of (xs := m.map fun r => atN r j) (by simp; omega)]
    simp [List.getD, List.getElem?_eq_getElem (show t < m.length by omega)]
  rw [this] at hs e
  simp only [Value.slice.injEq] at e
  obtain ⟨rfl, -, rfl⟩ := e
  exact hs

set_option maxRecDepth 20000 in
set_option maxHeartbeats 4000000 in
theorem mcol_at {A : Nat → Prop} {W : World} {a : Option Addr} {cap n : Nat} {m : List (List Nat)} {z j : Int} (h : SqAt A W a cap n m) {r : List Nat} (hr : colM z m j = r) {k : Nat} (hk : r.length = k) :
    Calls Try.prog 15 #[.agg #[.int .i64 z, .slice a n cap], .int .i64 j] W fun e w' => ∃ a' cap', e = .returned (.slice a' k cap') ∧ SlAt qV QM w' a' cap' r ∧ Below W.heap.size W w' := by
  subst hk
  obtain ⟨U, hU⟩ : ∃ U, U = W.alloc (.cells #[.int .i64 z, .slice a n cap] 25) := ⟨_, rfl⟩
  have hb : Below W.heap.size W U := by rw [hU]; exact box_b W _
  have C1 : Cel 2 U W.heap.size (mkC z (.slice a n cap)) := by rw [hU]; exact box_new W z _ _
  have p0 : U.cell? ⟨W.heap.size, 0, none⟩ = some (.int .i64 z) := C1.c 0 (by decide)
  have p1 : U.cell? ⟨W.heap.size, 1, none⟩ = some (.slice a n cap) := C1.c 1 (by decide)
  obtain ⟨g, hg⟩ : ∃ b, b = goodM z m := ⟨_, rfl⟩
  have CG := Lib.hid (mgood_at (h.below hb) hg.symm)
  have S := Lib.hid (h.below hb)
  have P := Lib.hid C1
  have HB := Lib.hid hb
  have HU := Lib.hid hU.symm
  have HG := Lib.hid hg
  have HR := Lib.hid hr
  clear hU hb C1 h hg hr
  go_enter Try.func15, Try.ntmps15
  go_wp2_with fail
  rw [HU.out]
  go_wp2_with fail
  refine CG.out.mono ?_
  rintro e w1 ⟨rfl, hb1⟩
  have q0 : w1.cell? ⟨W.heap.size, 0, none⟩ = some (.int .i64 z) := (P.out.below hb1).c 0 (by decide)
  have R0 := Lib.hid (HB.out.trans (hb1.mono HB.out.size))
  replace P := Lib.hid (P.out.below hb1)
  replace S := Lib.hid (S.out.below hb1)
  clear p0 p1 hb1 CG HU HB
  cases g
  · obtain rfl : r = [] := by rw [← HR.out]; exact colM_no (fun h => by rw [← HG.out] at h; cases h.1)
    go_wp2_with fail
    go_ret
    exact ⟨none, 0, rfl, SlAt.none _ _ _, R0.out⟩
  · by_cases hj : 0 ≤ j ∧ j < z
    · have CW := Lib.hid (mwithin_any (W := w1) (i := j) (z := z) (decide_eq_true hj))
      obtain ⟨N, rfl, hN1, hN2, hN3, hN4⟩ := goodM_is HG.out.symm
      obtain ⟨jn, rfl⟩ : ∃ q : Nat, j = q := ⟨j.toNat, by omega⟩
      have hjn : jn < N := by omega
      obtain rfl : N = n := by rw [← hN3, S.out.len]
      have hr2 : m.map (fun r => atN r jn) = r := by rw [← HR.out, colM_yes HG.out.symm hjn]
      subst hr2
      have L := Lib.hid hN3
      have CN := Lib.hid (cl_new w1 (z := (N : Int)) (n := N) (by unfold newN; omega) rfl)
      clear hN3 hN4 hj HG HR
      go_wp2_with (first
        | (go_at_call 30; refine CW.out.mono ?_; rintro e w' ⟨rfl, rfl⟩)
        | (go_at_call 28; refine CN.out.mono ?_; rintro e w2 ⟨ca, cc, rfl, -, hb2, -, ho2⟩))
      have I0 := Lib.hid (show ClmR w1 N jn m (.slice ca N cc) (.int .i64 0) w2 from ⟨0, List.replicate N 0, Nat.zero_le _, rfl, by simp, fun t ht => by omega, zeros_lt N, ho2, hb2⟩)
      clear hb2 ho2 CN CW
      go_loopw [22] (fun i wr => ClmR w1 N jn m (.slice ca N cc) i wr) (fun i _ => N - (intOf i).toNat)
      case atStart => exact I0.out
      case round =>
        obtain ⟨k, xs, hk, rfl, hx, ha, hq, ho, hb⟩ := hrel
        clear I0
        by_cases hlt : k < N
        · have e0 : wr.cell? ⟨W.heap.size, 0, none⟩ = some (.int .i64 (N : Int)) := (P.out.below hb).c 0 (by decide)
          have e1 : wr.cell? ⟨W.heap.size, 1, none⟩ = some (.slice a N cap) := (P.out.below hb).c 1 (by decide)
          have hv : atM m (k : Int) (jn : Int) = atN (m.getD k []) jn := by rw [atM_in, atZ_nat]
          have hv2 : atN (m.getD k []) jn < QM := by
            obtain ⟨_, _, _, _, _, _, hs⟩ := (S.out).row hlt
            exact atN_lt (by decide) hs.lt jn
          have CA := Lib.hid (mat_any (z := (N : Int)) ((S.out).below hb) hv)
          have FIN := Lib.hid (fun (w3 : World) (h3 : Below wr.heap.size wr w3) => ClmR.step (w3 := w3) hlt hx ha hq ho hb h3 rfl hv2)
          obtain ⟨gs, cap9, es, -⟩ := ho.form (by omega)
          simp only [Value.slice.injEq] at es
          obtain ⟨rfl, -, rfl⟩ := es
          have j0 : (0 : Int) ≤ (k : Int) := by omega
          have j1 : (k : Int) < (N : Int) := by omega
          clear hx ha hq ho hb hv hv2
          generalize atN (m.getD k []) jn = v at *
          go_wp2_with (go_at_call 16; refine CA.out.mono ?_; rintro e w3 ⟨rfl, hb3⟩; obtain ⟨g9, cap8, c9, e9, k1, k2, k3⟩ := FIN.out w3 hb3; cases e9; have R := Lib.hid k3; clear hb3 k3)
          go_roundw
          case rel => exact R.out
          case measure => simp only [intOf]; omega
        · obtain rfl : k = N := by omega
          have dk : decide ((k : Int) < (k : Int)) = false := decide_eq_false (by omega)
          have R := Lib.hid (And.intro (ClmR.fin L.out hx ha hq ho) (R0.out.trans (hb.mono R0.out.size)))
          have ll := L.out
          clear hx ha hq ho hb
          go_wp2_with fail
          go_ret
          exact ⟨_, _, by rw [List.length_map, ll]; rfl, R.out⟩
    · have CW := Lib.hid (mwithin_any (W := w1) (i := j) (z := z) (decide_eq_false hj))
      obtain rfl : r = [] := by rw [← HR.out]; exact colM_no (fun h => hj h.2)
      go_wp2_with (go_at_call 30; refine CW.out.mono ?_; rintro e w' ⟨rfl, rfl⟩)
      go_ret
      exact ⟨none, 0, rfl, SlAt.none _ _ _, R0.out⟩

end Go.Proofs.Ytfiamomadicbpaa
