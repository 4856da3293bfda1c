/-
  New, Start, Stop, Tick, Left, Step, Rings: pace.
-/
import Derived.Test.YtmahbmmeeifaiaaKpa
namespace Go.Proofs.Ytmahbmmeeifaiaa
open Go.RowKit

section
variable {W : World} {p : Nat} {S : Pa}

theorem pa_runs (h : PaAt W p S) : Calls Try.prog 39 #[.pointer (some ⟨p, 0, none⟩)] W fun e w' => e = .returned (.bool (decide (0 < S.l))) ∧ w' = W := by
  obtain ⟨c0, c1, c2, c3, c4⟩ := h.cells
  clear h
  go_enter Try.func39, Try.ntmps39
  cases d : decide (0 < S.l)
  · have d1 : decide ((S.l : Int) > 0) = false := decide_eq_false (by have := of_decide_eq_false d; omega)
    go_wp2_with fail
    go_ret
    exact ⟨rfl, rfl⟩
  · have d1 : decide ((S.l : Int) > 0) = true := decide_eq_true (by have := of_decide_eq_true d; omega)
    go_wp2_with fail
    go_ret
    exact ⟨rfl, rfl⟩

theorem pa_start (h : PaAt W p S) : Calls Try.prog 38 #[.pointer (some ⟨p, 0, none⟩)] W (PaPost S.start W p (.tuple #[])) := by
  have H := Lib.hid h
  have R := Lib.hid (pa_runs h)
  obtain ⟨c0, c1, c2, c3, c4⟩ := h.cells
  have f3 := h.fz 3
  clear h
  go_enter Try.func38, Try.ntmps38
  by_cases hl : S.l = 0
  · have E := Lib.hid (show S.start = { S with l := S.s } from if_pos hl)
    have R1 := Lib.hid (show Calls Try.prog 39 #[.pointer (some ⟨p, 0, none⟩)] W fun e w' => e = .returned (.bool false) ∧ w' = W by
      have := R.out
      rwa [decide_eq_false (by omega)] at this)
    have P := Lib.hid (show PaPost { S with l := S.s } W p (.tuple #[]) (.returned (.tuple #[])) (W.setCell ⟨p, 3, none⟩ (.int .i64 (S.s : Nat))) from
      ⟨rfl, (H.out.put 3 _).conv (five rfl rfl rfl rfl rfl), (Keep.refl _ W).put 3 _⟩)
    rw [E.out]
    clear R hl E
    go_wp2_with (go_at_call 39; refine R1.out.mono ?_; rintro e w' ⟨rfl, rfl⟩)
    go_end0
    exact P.out
  · have E := Lib.hid (show S.start = S from if_neg hl)
    have R1 := Lib.hid (show Calls Try.prog 39 #[.pointer (some ⟨p, 0, none⟩)] W fun e w' => e = .returned (.bool true) ∧ w' = W by
      have := R.out
      rwa [decide_eq_true (by omega)] at this)
    rw [E.out]
    clear R hl E
    go_wp2_with (go_at_call 39; refine R1.out.mono ?_; rintro e w' ⟨rfl, rfl⟩)
    go_end0
    exact ⟨rfl, H.out, Keep.refl _ _⟩

theorem pa_stop (h : PaAt W p S) : Calls Try.prog 28 #[.pointer (some ⟨p, 0, none⟩)] W (PaPost S.stop W p (.tuple #[])) := by
  have P := Lib.hid (show PaPost S.stop W p (.tuple #[]) (.returned (.tuple #[])) ((W.setCell ⟨p, 2, none⟩ (.int .i64 (S.f : Nat))).setCell ⟨p, 3, none⟩ (.int .i64 0)) from
      ⟨rfl, ((h.put 2 _).put 3 _).conv (five rfl rfl rfl rfl rfl), ((Keep.refl _ W).put 2 _).put 3 _⟩)
  obtain ⟨c0, c1, c2, c3, c4⟩ := h.cells
  have f2 := h.fz 2
  have f3 := h.fz 3
  clear h
  go_enter Try.func28, Try.ntmps28
  go_wp2_with fail
  go_end0
  exact P.out



theorem pa_left (h : PaAt W p S) : Calls Try.prog 30 #[.pointer (some ⟨p, 0, none⟩)] W fun e w' => e = .returned (.tuple #[.int .i64 (S.l : Nat), .bool (decide (0 < S.l))]) ∧ ∃ q, w' = W.drewN q := by
  have R := Lib.hid (fun q => pa_runs (h.drewN q))
  have c3 : ∀ q, (W.drewN q).cell? ⟨p, 3, none⟩ = some (.int .i64 (S.l : Nat)) := fun q => (h.drewN q).cells.2.2.2.1
  have k3 := h.cells.2.2.2.1
  clear h
  generalize decide (0 < S.l) = b at *
  go_enter Try.func30, Try.ntmps30
  go_wp2_with fail
  go_quiet ((go_at_call 39; exact Calls.quiet_of_same (R.out _)))
  go_wp2_with fail
  go_ret2
  exact ⟨rfl, _, rfl⟩
end

end Go.Proofs.Ytmahbmmeeifaiaa
