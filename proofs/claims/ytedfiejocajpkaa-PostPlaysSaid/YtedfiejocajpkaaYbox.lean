/-
  A box; how many wait in it: post.Post[int].
-/
import Derived.Test.YtedfiejocajpkaaYpo
import Derived.Deep.QuietTactic
import Derived.BigQuiet
import Derived.Deep.Cut
import Derived.KernelRfl
namespace Go.Proofs.Ytedfiejocajpkaa
open Go.RowKit

section
variable {w : World} {N p n room b : Nat} {F : Nat → Prop} {c : Nat → Nat} {L : Nat → List (Nat × Int)} {B : Nat → List Int}

theorem pi_box (h : PoV iV w N p F n room b c L) (k : Nat) (hk : k < n) :
    Calls Try.prog 25 #[.pointer (some ⟨p, 0, none⟩), .int .i64 (k : Int)] w fun e w' => e = .returned (.chan (some (c k))) ∧ w' = w := by
  have c0 := h.c0
  have c1 := h.row k hk
  have d1 : decide ((k : Int) < 0) = false := decide_eq_false (by omega)
  have d2 : decide ((k : Int) ≥ (n : Int)) = false := decide_eq_false (by omega)
  have hn := h.nn
  clear h
  go_enter Try.func25, Try.ntmps25
  go_wp2_with fail
  go_ret
  exact ⟨rfl, rfl⟩

theorem pi_box_no (h : PoV iV w N p F n room b c L) (k : Int) (hk : hasZ n k = false) :
    Calls Try.prog 25 #[.pointer (some ⟨p, 0, none⟩), .int .i64 k] w fun e w' => e = .returned (.chan none) ∧ w' = w := by
  have c0 := h.c0
  have hk' := of_decide_eq_false hk
  clear h hk
  go_enter Try.func25, Try.ntmps25
  by_cases h0 : k < 0
  · have d1 : decide (k < 0) = true := decide_eq_true h0
    clear hk'
    go_wp2_with fail
    go_ret
    exact ⟨rfl, rfl⟩
  · have d1 : decide (k < 0) = false := decide_eq_false h0
    have d2 : decide (k ≥ (n : Int)) = true := decide_eq_true (by omega)
    clear hk'
    go_wp2_with fail
    go_ret
    exact ⟨rfl, rfl⟩
end

theorem pi_len {w : World} {N p n room : Nat} {F : Nat → Prop} {B : Nat → List Int} (h : PoAt iV w N p F n room B) (k : Int) :
    Calls Try.prog 23 #[.pointer (some ⟨p, 0, none⟩), .int .i64 k] w fun e w' => e = .returned (.int .i64 (lenB n B k : Nat)) ∧ w' = w := by
  obtain ⟨b, c, L, hv, hL⟩ := h
  have V := Lib.hid hv
  have u := Try.underlying57
  cases hz : hasZ n k
  · have e0 : lenB n B k = 0 := by unfold lenB; rw [hz]; rfl
    have hl := fun ty => len_chan_nil (w := w) 57 ty u
    have H := Lib.hid hz
    rw [e0]
    clear hv u hz e0 hL
    go_enter Try.func23, Try.ntmps23
    go_wp2_with (go_at_call 25; refine (pi_box_no V.out k H.out).mono ?_; rintro e w' ⟨rfl, rfl⟩)
    go_ret
    exact ⟨rfl, rfl⟩
  · obtain ⟨j, rfl, hj⟩ := hasZ_nat hz
    rw [lenB_nat hj, ← hL j hj, List.length_map]
    obtain ⟨s, r, hc⟩ := hv.ch j hj
    have hl := fun ty => len_chan 57 ty u hc
    rw [List.size_toArray, List.length_map] at hl
    clear hv u hz hL hc
    go_enter Try.func23, Try.ntmps23
    go_wp2_with (go_at_call 25; refine (pi_box V.out j hj).mono ?_; rintro e w' ⟨rfl, rfl⟩)
    go_ret
    exact ⟨rfl, rfl⟩

end Go.Proofs.Ytedfiejocajpkaa
