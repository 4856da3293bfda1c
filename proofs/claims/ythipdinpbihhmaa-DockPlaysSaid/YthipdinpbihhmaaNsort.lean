/-
  A short row of unlike numbers, sorted by the library.
-/
import Derived.Test.YthipdinpbihhmaaNpdq
import Derived.Test.YthipdinpbihhmaaNlen
namespace Go.Proofs.Ythipdinpbihhmaa
open Go.RowKit

theorem pdq_any {n g cap : Nat} (hn : n ≤ 15) : ∀ m, PdqIs n g cap m := fun m => Nat.strongRecOn m (fun _ ih => pdq_step hn ih)

theorem sort_any {n g cap : Nat} {f : Nat → Nat} {W : World} (hr : Row n W g f) (hf : Inj n f) (hn : n ≤ 15) :
    Calls Try.prog 23 #[.slice (some ⟨g, 0, none⟩) n cap] W (SwPost n g 0 n f W (Srt 0 n)) := by
  have C := Lib.hid (fun (L : Nat) (h1 : 0 < n → 1 ≤ L) (h2 : L ≤ 8) => pdq_any (g := g) (cap := cap) hn n 0 n L f W (by omega) hr hf (Nat.zero_le _) (Nat.le_refl _) (fun h => h1 (by omega)) (by omega) (fun h => by omega))
  have wn : IntKind.u64.wrap (n : Int) = (n : Int) := by
    simp only [IntKind.wrap, IntKind.bits, IntKind.signed]
    simp
    omega
  clear hr hf
  go_enter Try.func23, Try.ntmps23
  go_wp2_with (first
    | (go_at_call 27; refine (len_any n _ (by omega)).mono ?_; rintro e w' ⟨L, rfl, h1, h2, rfl⟩)
    | (go_at_call 26; refine (C.out L h1 h2).mono ?_; rintro e w' ⟨rfl, f2, h3, h4, h5, h6⟩))
  go_end0
  exact ⟨rfl, f2, h3, h4, h5, h6⟩

/-- Of no numbers. -/
theorem ins_none (W : World) : Calls Try.prog 28 #[.slice none 0 0, .int .i64 0, .int .i64 0] W fun e w' => e = .returned (.tuple #[]) ∧ w' = W := by
  go_enter Try.func28, Try.ntmps28
  go_wp2_with fail
  go_loopw [6] (fun v wr => v = .int .i64 1 ∧ wr = W) (fun _ _ => 0)
  case atStart => exact ⟨rfl, rfl⟩
  case round =>
    obtain ⟨rfl, rfl⟩ := hrel
    go_wp2_with fail
    go_end0
    exact ⟨rfl, rfl⟩
set_option maxRecDepth 20000 in
theorem pdq_none (L : Nat) (W : World) : Calls Try.prog 26 #[.slice none 0 0, .int .i64 0, .int .i64 0, .int .i64 (L : Nat)] W fun e w' => e = .returned (.tuple #[]) ∧ w' = W := by
  go_enter Try.func26, Try.ntmps26
  go_wp2_with fail
  go_loopw [1, 2, 3, 8, 9] (fun va vb _ _ _ wr => va = .int .i64 0 ∧ vb = .int .i64 0 ∧ wr = W) (fun _ _ _ _ _ _ => 0)
  case atStart => exact ⟨rfl, rfl, rfl⟩
  case round =>
    obtain ⟨rfl, rfl, rfl⟩ := hrel
    go_wp2_with (go_at_call 28; refine (ins_none _).mono ?_; rintro e w' ⟨rfl, rfl⟩)
    refine bodyPost_ret (results_none rfl _ _ _) rfl ?_
    exact ⟨rfl, rfl⟩
theorem sort_none (W : World) : Calls Try.prog 23 #[.slice none 0 0] W fun e w' => e = .returned (.tuple #[]) ∧ w' = W := by
  go_enter Try.func23, Try.ntmps23
  go_wp2_with (first
    | (go_at_call 27; refine (len_any 0 _ (by omega)).mono ?_; rintro e w' ⟨L, rfl, h1, h2, rfl⟩)
    | (go_at_call 26; refine (pdq_none L _).mono ?_; rintro e w' ⟨rfl, rfl⟩))
  go_end0
  exact ⟨rfl, rfl⟩

end Go.Proofs.Ythipdinpbihhmaa
