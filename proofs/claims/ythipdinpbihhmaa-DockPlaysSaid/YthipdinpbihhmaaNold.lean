/-
  DockOld.
-/
import Derived.Test.YthipdinpbihhmaaNkn
namespace Go.Proofs.Ythipdinpbihhmaa
open Go.RowKit

def sY : ByteArray := ⟨#[121]⟩

section
variable {win k num : Nat} {s : ByteArray}
/-- Nothing is held: what comes next goes on. -/
theorem old_next (h : 1 ≤ win) : (⟨win, k + 1, []⟩ : Dk).may (k + 1) = true ∧ (⟨win, k + 1, []⟩ : Dk).came (k + 1) s = ⟨win, k + 1 + 1, []⟩ ∧ (⟨win, k + 1, []⟩ : Dk).gave (k + 1) s = [s] := by
  have hm : (⟨win, k + 1, []⟩ : Dk).may (k + 1) = true := Dk.may_is.2 ⟨Nat.le_refl _, by show k + 1 < k + 1 + win; omega, rfl⟩
  have hg : goN (k + 1) (ins (k + 1) s []) = ([s], []) := by rw [ins, goN_first, goN]
  refine ⟨hm, ?_, ?_⟩
  · unfold Dk.came Dk.take Dk.went
    rw [hm, if_pos rfl]
    simp only [hg]
    rfl
  · unfold Dk.gave Dk.went
    rw [hm, if_pos rfl]
    simp only [hg]
/-- What is ahead of it is held. -/
theorem old_ahead (h1 : k + 1 < num) (h2 : num < k + 1 + win) : (⟨win, k + 1, []⟩ : Dk).may num = true ∧ (⟨win, k + 1, []⟩ : Dk).came num s = ⟨win, k + 1, [(num, s)]⟩ ∧ (⟨win, k + 1, []⟩ : Dk).gave num s = [] := by
  have hm : (⟨win, k + 1, []⟩ : Dk).may num = true := Dk.may_is.2 ⟨Nat.le_of_lt h1, h2, rfl⟩
  have hg : goN (k + 1) (ins num s []) = ([], [(num, s)]) := by rw [ins, goN, if_neg (by show num ≠ k + 1; omega)]
  refine ⟨hm, ?_, ?_⟩
  · unfold Dk.came Dk.take Dk.went
    rw [hm, if_pos rfl]
    simp only [hg]
    rfl
  · unfold Dk.gave Dk.went
    rw [hm, if_pos rfl]
    simp only [hg]
/-- What is old, or too far, is not new. -/
theorem old_no (h : num < k + 1 ∨ k + 1 + win ≤ num) : (⟨win, k + 1, []⟩ : Dk).may num = false ∧ (⟨win, k + 1, []⟩ : Dk).came num s = ⟨win, k + 1, []⟩ ∧ (⟨win, k + 1, []⟩ : Dk).gave num s = [] := by
  have hm : (⟨win, k + 1, []⟩ : Dk).may num = false := by
    cases e : (⟨win, k + 1, []⟩ : Dk).may num
    · rfl
    · obtain ⟨h1, h2, -⟩ := Dk.may_is.1 e
      simp only at h1 h2
      omega
  refine ⟨hm, ?_, ?_⟩
  · unfold Dk.came; rw [hm]; rfl
  · unfold Dk.gave; rw [hm]; rfl
theorem old_ok (h : 1 ≤ win ∧ win ≤ 16) : (⟨win, k + 1, []⟩ : Dk).ok k := ⟨h, ⟨Nat.succ_pos k, Nat.le_refl _⟩, up_nil _ _⟩
end

theorem wrapU {z : Int} (h : 0 ≤ z ∧ z ≤ 18446744073709551615) : IntKind.u64.wrap z = z := by
  simp only [IntKind.wrap, IntKind.bits, IntKind.signed]
  simp
  omega

def OldRel (W : World) (N p q M win n : Nat) (v : Value) (wr : World) : Prop := ∃ k L, v = .int .i64 ((k : Nat) : Int) ∧ k ≤ n ∧ DkOn W N p q M ⟨win, k + 1, []⟩ L wr

set_option maxRecDepth 20000 in
set_option maxHeartbeats 8000000 in
theorem law_DockOld (v0 v1 : Int) (v2 : Nat) (W : World) (h2 : v2 < 18446744073709551616) : Calls Try.prog 7 #[.int .i64 v0, .int .i64 v1, .int .u64 (v2 : Int)] W (DkOk W) := by
  have hcv := fun (w : World) (C : Array Value) (n c : Nat) => Lib.run_convert_bytes_const (P := Try.prog) w 31 5 C n c Try.underlying31 Try.underlying5
  go_enter Try.func7, Try.ntmps7
  go_wp2_with fail
  refine (dk_awake W).mono ?_
  rintro e w0 ⟨rfl, b0⟩
  have B0 := Lib.hid b0
  clear b0
  by_cases hb : v0 < 1 ∨ v0 > 16 ∨ v1 < 0 ∨ v1 > 40
  · cases d1 : decide (v0 < 1) <;> cases d2 : decide (v0 > 16) <;> cases d3 : decide (v1 < 0) <;> cases d4 : decide (v1 > 40)
    case false.false.false.false =>
      simp only [decide_eq_false_iff_not] at d1 d2 d3 d4
      omega
    all_goals
      clear hb
      go_wp2_with fail
      go_ret
      exact ⟨rfl, B0.out⟩
  · obtain ⟨win, rfl⟩ := Int.eq_ofNat_of_zero_le (show 0 ≤ v0 by omega)
    obtain ⟨n, rfl⟩ := Int.eq_ofNat_of_zero_le (show 0 ≤ v1 by omega)
    have hw : 1 ≤ win ∧ win ≤ 16 := by omega
    have hn : n ≤ 40 := by omega
    have d1 : decide ((win : Int) < 1) = false := decide_eq_false (by omega)
    have d2 : decide ((win : Int) > 16) = false := decide_eq_false (by omega)
    have d3 : decide ((n : Int) < 0) = false := decide_eq_false (by omega)
    have d4 : decide ((n : Int) > 40) = false := decide_eq_false (by omega)
    have HW := Lib.hid hw
    clear hb hw
    go_wp2_with fail
    refine (on_new (W := W) (N := W.heap.size) win HW.out.1 HW.out.2 B0.out B0.out.size rfl).mono ?_
    rintro e w1 ⟨p, q, M, rfl, h1, -, -⟩
    have L1 := Lib.hid h1
    clear h1 B0
    go_wp2_with fail
    go_loopw [9] (fun v wr => OldRel W W.heap.size p q M win n v wr) (fun v _ => n - (intOf v).toNat)
    case atStart => exact ⟨0, [], rfl, Nat.zero_le _, L1.out⟩
    case round =>
      clear L1
      obtain ⟨k, L, rfl, hk, hL⟩ := hrel
      have L2 := Lib.hid hL
      clear hL
      by_cases hlt : k < n
      · have wk : IntKind.i64.wrap ((k : Int) + 1) = (k : Int) + 1 := wrapN (by omega)
        have wk2 : IntKind.u64.wrap ((k : Int) + 1) = (k : Int) + 1 := wrapU (by omega)
        obtain ⟨o1, o2, o3⟩ := old_next (k := k) (s := sX) HW.out.1
        have O := Lib.hid (on_lit (c := 50) (num := k + 1) (ch := 120) (s := sX) (z := (k : Int) + 1) L2.out ((old_ok HW.out).more (by omega)) (by decide) (by omega) (by omega) (by decide) rfl rfl o2 o3 rfl o1)
        clear o1 o2 o3
        go_wp2_with fail
        refine O.out.mono ?_
        rintro e w3 ⟨a3, c3, rfl, h3, -⟩
        have L3 := Lib.hid h3
        clear h3 L2 O
        go_wp2_with fail
        go_roundw
        case rel => exact ⟨k + 1, _, by go_num, by omega, L3.out⟩
        case measure => simp only [intOf]; omega
      · obtain rfl : k = n := by omega
        have dk : decide ((k : Int) < (k : Int)) = false := decide_eq_false (by omega)
        have wk : IntKind.u64.wrap (k : Int) = (k : Int) := wrapU (by omega)
        have wk1 : IntKind.u64.wrap ((k : Int) + 1) = (k : Int) + 1 := wrapU (by omega)
        have wi1 : IntKind.i64.wrap ((k : Int) + 1) = (k : Int) + 1 := wrapN (by omega)
        have ww : IntKind.u64.wrap (win : Int) = (win : Int) := wrapU (by have := HW.out; omega)
        by_cases hgt : k < v2
        · obtain ⟨d, hd⟩ : ∃ d, d = v2 - k := ⟨_, rfl⟩
          have g1 : decide ((v2 : Int) > (k : Int)) = true := decide_eq_true (by omega)
          have g2 : decide (k < v2) = true := decide_eq_true hgt
          have wd : IntKind.u64.wrap ((v2 : Int) - (k : Int)) = (d : Int) := by rw [wrapU (by omega)]; omega
          by_cases hin : v2 < k + 1 + win
          · have g3 : decide ((d : Int) ≤ (win : Int)) = true := decide_eq_true (by omega)
            have g4 : decide (d ≤ win) = true := decide_eq_true (by omega)
            by_cases he : v2 = k + 1
            · subst he
              have wi2 : IntKind.i64.wrap ((k : Int) + 1 + 1) = (k : Int) + 1 + 1 := wrapN (by omega)
              have wu2 : IntKind.u64.wrap ((k : Int) + 1 + 1) = (k : Int) + 1 + 1 := wrapU (by omega)
              obtain ⟨o1, o2, o3⟩ := old_next (k := k) (s := sY) HW.out.1
              have O := Lib.hid (on_lit (c := 50) (num := k + 1) (ch := 121) (s := sY) (z := (((k + 1 : Nat) : Nat) : Int)) L2.out ((old_ok HW.out).more (by omega)) (by decide) rfl h2 (by decide) rfl rfl o2 o3 rfl o1)
              clear o1 o2 o3 hd
              go_wp2_with fail
              refine O.out.mono ?_
              rintro e w3 ⟨a3, c3, rfl, h3, -⟩
              have L3 := Lib.hid h3
              clear h3 L2 O
              go_wp2_with fail
              refine (on_next (z := (k : Int) + 1 + 1) L3.out (by simp)).mono ?_
              rintro e w4 ⟨rfl, hw4⟩
              have hw5 := hw4.symm
              clear hw4
              subst hw5
              go_wp2_with fail
              go_ret
              exact ⟨rfl, L3.out.be⟩
            · have ne : ((v2 : Int) == (k : Int) + 1) = false := by simp; omega
              obtain ⟨o1, o2, o3⟩ := old_ahead (k := k) (s := sY) (win := win) (num := v2) (by omega) hin
              have O := Lib.hid (on_lit (c := 50) (num := v2) (ch := 121) (s := sY) (z := (v2 : Int)) L2.out ((old_ok HW.out).more (by omega)) (by decide) rfl h2 (by decide) rfl rfl o2 o3 rfl o1)
              clear o1 o2 o3 hd
              go_wp2_with fail
              refine O.out.mono ?_
              rintro e w3 ⟨a3, c3, rfl, h3, -⟩
              have L3 := Lib.hid h3
              clear h3 L2 O
              go_wp2_with fail
              refine (on_next (z := (k : Int) + 1) L3.out (by simp)).mono ?_
              rintro e w4 ⟨rfl, hw4⟩
              have hw5 := hw4.symm
              clear hw4
              subst hw5
              go_wp2_with fail
              go_ret
              exact ⟨rfl, L3.out.be⟩
          · have g3 : decide ((d : Int) ≤ (win : Int)) = false := decide_eq_false (by omega)
            have g4 : decide (d ≤ win) = false := decide_eq_false (by omega)
            have ne : ((v2 : Int) == (k : Int) + 1) = false := by simp; have := HW.out; omega
            obtain ⟨o1, o2, o3⟩ := old_no (k := k) (s := sY) (win := win) (num := v2) (Or.inr (by omega))
            have O := Lib.hid (on_lit (c := 50) (num := v2) (ch := 121) (s := sY) (z := (v2 : Int)) L2.out ((old_ok HW.out).more (by omega)) (by decide) rfl h2 (by decide) rfl rfl o2 o3 rfl o1)
            clear o1 o2 o3 hd
            go_wp2_with fail
            refine O.out.mono ?_
            rintro e w3 ⟨a3, c3, rfl, h3, -⟩
            have L3 := Lib.hid h3
            clear h3 L2 O
            go_wp2_with fail
            refine (on_next (z := (k : Int) + 1) L3.out (by simp)).mono ?_
            rintro e w4 ⟨rfl, hw4⟩
            have hw5 := hw4.symm
            clear hw4
            subst hw5
            go_wp2_with fail
            go_ret
            exact ⟨rfl, L3.out.be⟩
        · have g1 : decide ((v2 : Int) > (k : Int)) = false := decide_eq_false (by omega)
          have g2 : decide (k < v2) = false := decide_eq_false hgt
          have ne : ((v2 : Int) == (k : Int) + 1) = false := by simp; omega
          obtain ⟨o1, o2, o3⟩ := old_no (k := k) (s := sY) (win := win) (num := v2) (Or.inl (by omega))
          have O := Lib.hid (on_lit (c := 50) (num := v2) (ch := 121) (s := sY) (z := (v2 : Int)) L2.out ((old_ok HW.out).more (by omega)) (by decide) rfl h2 (by decide) rfl rfl o2 o3 rfl o1)
          clear o1 o2 o3
          go_wp2_with fail
          refine O.out.mono ?_
          rintro e w3 ⟨a3, c3, rfl, h3, -⟩
          have L3 := Lib.hid h3
          clear h3 L2 O
          go_wp2_with fail
          refine (on_next (z := (k : Int) + 1) L3.out (by simp)).mono ?_
          rintro e w4 ⟨rfl, hw4⟩
          have hw5 := hw4.symm
          clear hw4
          subst hw5
          go_wp2_with fail
          go_ret
          exact ⟨rfl, L3.out.be⟩

end Go.Proofs.Ythipdinpbihhmaa
