/-
  mat.At, mat.Within.
-/
import Derived.Test.YtfiamomadicbpaaCgp
import Derived.Test.YtfiamomadicbpaaBcal
namespace Go.Proofs.Ytfiamomadicbpaa
open Go.RowKit

theorem atM_in {m : List (List Nat)} {i : Nat} {j : Int} : atM m (i : Int) j = atZ (m.getD i []) j := by
  unfold atM
  rw [if_pos (by omega), Int.toNat_natCast]
theorem atM_none {m : List (List Nat)} {i j : Int} (h : ¬ (0 ≤ i ∧ i < m.length)) : atM m i j = 0 := by
  unfold atM
  by_cases h0 : 0 ≤ i
  · rw [if_pos h0, List.getD, List.getElem?_eq_none (by omega)]
    by_cases hj : j < 0
    · exact atZ_neg hj
    · obtain ⟨k, rfl⟩ : ∃ k : Nat, j = k := ⟨j.toNat, by omega⟩
      rw [atZ_nat]
      exact atN_out (Nat.zero_le _)
  · rw [if_neg h0]

set_option maxRecDepth 20000 in
set_option maxHeartbeats 2000000 in
theorem mat_any {A : Nat → Prop} {W : World} {a : Option Addr} {cap n : Nat} {m : List (List Nat)} {z i j : Int} (h : SqAt A W a cap n m) {v : Nat} (hv : atM m i j = v) :
    Calls Try.prog 16 #[.agg #[.int .i64 z, .slice a n cap], .int .i64 i, .int .i64 j] W fun e w' => e = .returned (.int .u64 (v : Int)) ∧ Below W.heap.size W w' := by
  obtain ⟨w0, hw0⟩ : ∃ w0, w0 = W.alloc (.cells #[.int .i64 z, .slice a n cap] 25) := ⟨_, rfl⟩
  have hb : Below W.heap.size W w0 := by rw [hw0]; exact box_b W _
  have C1 : Cel 2 w0 W.heap.size (mkC z (.slice a n cap)) := by rw [hw0]; exact box_new W z _ _
  have p1 : w0.cell? ⟨W.heap.size, 1, none⟩ = some (.slice a n cap) := C1.c 1 (by decide)
  have HB := Lib.hid hb
  have HW := Lib.hid hw0.symm
  have hl := h.len
  by_cases hi : 0 ≤ i ∧ i < (n : Int)
  · obtain ⟨k, rfl⟩ : ∃ k : Nat, i = k := ⟨i.toNat, by omega⟩
    have CW := Lib.hid (mwithin_any (W := w0) (i := (k : Int)) (z := (n : Int)) (decide_eq_true hi))
    have hk : k < n := by omega
    obtain ⟨b, off, ra, rc, rfl, hc, hs⟩ := (h.below hb).row hk
    have CV := Lib.hid (vat_any (z := j) hs rfl (atM_in.symm.trans hv))
    have i0 : (0 : Int) ≤ (k : Int) := by omega
    have i1 : (k : Int) < (n : Int) := by omega
    generalize (m.getD k []).length = rn at *
    clear hs hv h hi hb C1 hw0
    go_enter Try.func16, Try.ntmps16
    go_wp2_with fail
    rw [HW.out]
    go_wp2_with (first
      | (go_at_call 30; refine CW.out.mono ?_; rintro e w' ⟨rfl, rfl⟩)
      | (go_at_call 36; refine CV.out.mono ?_; rintro e w' ⟨rfl, rfl⟩))
    go_ret
    exact ⟨rfl, HB.out⟩
  · have CW := Lib.hid (mwithin_any (W := w0) (i := i) (z := (n : Int)) (decide_eq_false hi))
    have R := Lib.hid (show v = 0 from by rw [← hv]; exact atM_none (by rw [hl]; exact hi))
    clear hv h hi hb C1 hw0
    go_enter Try.func16, Try.ntmps16
    go_wp2_with fail
    rw [HW.out]
    go_wp2_with (go_at_call 30; refine CW.out.mono ?_; rintro e w' ⟨rfl, rfl⟩)
    go_ret
    exact ⟨by rw [R.out]; rfl, HB.out⟩

theorem cmp_gt {xs ys : List Nat} : decide (cmpZ xs ys > 0) = !wiB xs ys := by
  rw [cmpZ_of rfl rfl]
  cases wiB xs ys <;> cases wiB ys xs <;> rfl
theorem bothM_is {z1 z2 : Int} {m1 m2 : List (List Nat)} (h : bothM z1 m1 z2 m2 = true) : goodM z1 m1 = true ∧ goodM z2 m2 = true ∧ z1 = z2 := by
  unfold bothM at h
  simp only [Bool.and_eq_true, decide_eq_true_eq] at h
  exact ⟨h.1.1, h.1.2, h.2⟩
theorem wiM_no {z1 z2 : Int} {m1 m2 : List (List Nat)} (h : bothM z1 m1 z2 m2 = false) : wiM z1 m1 z2 m2 = false := by
  unfold wiM; rw [h]; rfl
theorem wiM_yes {z1 z2 : Int} {m1 m2 : List (List Nat)} (h : bothM z1 m1 z2 m2 = true) : wiM z1 m1 z2 m2 = decide (∀ i, i < m1.length → wiB (m1.getD i []) (m2.getD i []) = true) := by
  unfold wiM
  rw [h, Bool.true_and, Bool.eq_iff_iff, List.all_eq_true, decide_eq_true_eq]
  exact ⟨fun h i hi => h i (List.mem_range.2 hi), fun h i hi => h i (List.mem_range.1 hi)⟩

set_option maxRecDepth 20000 in
set_option maxHeartbeats 4000000 in
theorem mwi_at {A B : Nat → Prop} {W : World} {a1 a2 : Option Addr} {c1 c2 n1 n2 : Nat} {m1 m2 : List (List Nat)} {z1 z2 : Int} (h1 : SqAt A W a1 c1 n1 m1) (h2 : SqAt B W a2 c2 n2 m2) {r : Bool} (hr : wiM z1 m1 z2 m2 = r) :
    Calls Try.prog 18 #[.agg #[.int .i64 z1, .slice a1 n1 c1], .agg #[.int .i64 z2, .slice a2 n2 c2]] W fun e w' => e = .returned (.bool r) ∧ Below W.heap.size W w' := by
  obtain ⟨g, hg⟩ : ∃ b, b = bothM z1 m1 z2 m2 := ⟨_, rfl⟩
  obtain ⟨w0, hw0⟩ : ∃ w0, w0 = (W.alloc (.cells #[.int .i64 z1, .slice a1 n1 c1] 25)).alloc (.cells #[.int .i64 z2, .slice a2 n2 c2] 25) := ⟨_, rfl⟩
  have hb : Below W.heap.size W w0 := by rw [hw0]; exact below_alloc (box_b W _) _
  have C1 : Cel 2 w0 W.heap.size (mkC z1 (.slice a1 n1 c1)) := by rw [hw0]; exact (box_new W z1 _ _).below (box_b _ _)
  have C2 : Cel 2 w0 (W.heap.size + 1) (mkC z2 (.slice a2 n2 c2)) := by
    have := box_new (W.alloc (.cells #[.int .i64 z1, .slice a1 n1 c1] 25)) z2 (.slice a2 n2 c2) 25
    rw [← hw0, show (W.alloc (.cells #[.int .i64 z1, .slice a1 n1 c1] 25)).heap.size = W.heap.size + 1 by simp] at this
    exact this
  have p0 : w0.cell? ⟨W.heap.size, 0, none⟩ = some (.int .i64 z1) := C1.c 0 (by decide)
  have p1 : w0.cell? ⟨W.heap.size, 1, none⟩ = some (.slice a1 n1 c1) := C1.c 1 (by decide)
  have q0 : w0.cell? ⟨W.heap.size + 1, 0, none⟩ = some (.int .i64 z2) := C2.c 0 (by decide)
  have q1 : w0.cell? ⟨W.heap.size + 1, 1, none⟩ = some (.slice a2 n2 c2) := C2.c 1 (by decide)
  have CP := Lib.hid (mpair_at (h1.below hb) (h2.below hb) hg.symm)
  have P1 := Lib.hid C1
  have P2 := Lib.hid C2
  have S1 := Lib.hid (h1.below hb)
  have S2 := Lib.hid (h2.below hb)
  have HB := Lib.hid hb
  have HW := Lib.hid hw0.symm
  have HG := Lib.hid hg
  have HR := Lib.hid hr
  have HL := Lib.hid h1.len
  clear hg hb C1 C2 hw0 h1 h2 hr
  go_enter Try.func18, Try.ntmps18
  go_wp2_with fail
  rw [HW.out]
  go_wp2_with fail
  refine CP.out.mono ?_
  rintro e w1 ⟨rfl, hb1⟩
  have R0 := Lib.hid (HB.out.trans (hb1.mono HB.out.size))
  have t1 : w1.cell? ⟨W.heap.size, 1, none⟩ = some (.slice a1 n1 c1) := (P1.out.below hb1).c 1 (by decide)
  have u1 : w1.cell? ⟨W.heap.size + 1, 1, none⟩ = some (.slice a2 n2 c2) := (P2.out.below hb1).c 1 (by decide)
  replace S1 := Lib.hid (S1.out.below hb1)
  replace S2 := Lib.hid (S2.out.below hb1)
  clear hb1 CP p0 p1 q0 q1 P1 P2 HB HW
  cases g
  · go_wp2_with fail
    go_ret
    exact ⟨by rw [← HR.out, wiM_no HG.out.symm]; rfl, R0.out⟩
  · obtain ⟨g1, g2, rfl⟩ := bothM_is HG.out.symm
    obtain ⟨N, rfl, hN1, hN2, hN3, hN4⟩ := goodM_is g1
    obtain ⟨N', hN, -, -, hM3, hM4⟩ := goodM_is g2
    obtain rfl : N = N' := by omega
    obtain rfl : N = n1 := by rw [← hN3, HL.out]
    obtain rfl : N = n2 := by rw [← hM3, S2.out.len]
    have HR2 := Lib.hid (show r = decide (∀ i, i < N → wiB (m1.getD i []) (m2.getD i []) = true) from by rw [← HR.out, wiM_yes HG.out.symm, hN3])
    clear g1 g2 hN3 hM3 hN4 hM4 hN HR HG
    go_wp2_with fail
    go_loop [14] (fun v => ∃ k : Nat, k ≤ N ∧ v = .int .i64 (k : Nat) ∧ Hid (∀ i, i < k → wiB (m1.getD i []) (m2.getD i []) = true)) (fun v => N - (intOf v).toNat)
    case atStart => exact ⟨0, Nat.zero_le _, rfl, Lib.hid (fun i hi => by omega)⟩
    case round =>
      obtain ⟨k, hk, rfl, hT⟩ := hrel
      by_cases hlt : k < N
      · obtain ⟨b, off, ra, rc, rfl, hc, hs⟩ := S1.out.row hlt
        obtain ⟨b2, off2, ra2, rc2, rfl, hc2, hs2⟩ := S2.out.row hlt
        have CC := Lib.hid (vcmp_any hs hs2 rfl rfl rfl)
        have i0 : (0 : Int) ≤ (k : Int) := by omega
        have i1 : (k : Int) < (N : Int) := by omega
        have hgt := cmp_gt (xs := m1.getD k []) (ys := m2.getD k [])
        have hyes := Lib.hid (fun (h : wiB (m1.getD k []) (m2.getD k []) = true) => show ∀ i, i < k + 1 → wiB (m1.getD i []) (m2.getD i []) = true from fun i hi => by
          by_cases e : i = k
          · subst e; exact h
          · exact hT.out i (by omega))
        have hno := Lib.hid (fun (h : wiB (m1.getD k []) (m2.getD k []) = false) => show r = false from by
          rw [HR2.out]
          exact decide_eq_false fun h' => by rw [h' k hlt] at h; cases h)
        generalize cmpZ (m1.getD k []) (m2.getD k []) = cz at *
        generalize hbw : wiB (m1.getD k []) (m2.getD k []) = bw at *
        generalize (m1.getD k []).length = x1 at *
        generalize (m2.getD k []).length = x2 at *
        clear hs hs2 hbw
        cases bw
        · have R := Lib.hid (hno.out rfl)
          simp only [Bool.not_false] at hgt
          go_wp2_with (go_at_call 26; refine CC.out.mono ?_; rintro e w' ⟨rfl, rfl⟩)
          go_ret
          exact ⟨by rw [R.out]; rfl, R0.out⟩
        · have R := Lib.hid (hyes.out rfl)
          simp only [Bool.not_true] at hgt
          go_wp2_with (go_at_call 26; refine CC.out.mono ?_; rintro e w' ⟨rfl, rfl⟩)
          go_round
          case rel => exact ⟨k + 1, by omega, by go_num, R⟩
          case measure => simp only [intOf]; omega
      · have R := Lib.hid (show r = true from by rw [HR2.out]; exact decide_eq_true fun i hi => hT.out i (by omega))
        go_wp2_with fail
        go_ret
        exact ⟨by rw [R.out]; rfl, R0.out⟩

end Go.Proofs.Ytfiamomadicbpaa
