/-
  That the document's own examples hold: what each statement asks first.
-/
import Derived.Test.YtfpfgimgnmhnaaaDoorHexa
namespace Go.Proofs.YtfpfgimgnmhnaaaDoor
open Go.RowKit

theorem aw_key (w : World) : Calls Tryd.prog 19 #[.float .f64 4607182418800017408] w fun e w' => e = .returned (.int .u64 13830554455654793216) ∧ w = w' :=
  (key_any _ w (by decide)).mono fun _ _ ⟨he, hw⟩ => ⟨he.trans (ret_int (by decide +kernel)), hw⟩
theorem aw_of (w : World) : Calls Tryd.prog 14 #[.int .u64 13830554455654793216] w fun e w' => e = .returned (.tuple #[.float .f64 4607182418800017408, .bool true]) ∧ w = w' :=
  (of_any 13830554455654793216 w (by decide)).mono fun _ _ ⟨he, hw⟩ => ⟨he.trans (by rw [show ofF 13830554455654793216 = 4607182418800017408 from by decide +kernel, show ofB 13830554455654793216 = true from by decide +kernel]), hw⟩
theorem aw_copy (w : World) : Calls Tryd.prog 17 #[.float .f64 0, .float .f64 13830554455654793216] w fun e w' => e = .returned (.float .f64 9223372036854775808) ∧ w = w' :=
  (copysign_any _ _ w (by decide) (by decide)).mono fun _ _ ⟨he, hw⟩ => ⟨he.trans (ret_float (by decide +kernel)), hw⟩
theorem aw_cmp (w : World) : Calls Tryd.prog 20 #[.float .f64 9223372036854775808, .float .f64 0] w fun e w' => e = .returned (.int .i64 (-1)) ∧ w = w' :=
  (cmp_any _ _ w (by decide) (by decide)).mono fun _ _ ⟨he, hw⟩ => ⟨he.trans (ret_int (by decide +kernel)), hw⟩
theorem aw_class (w : World) : Calls Tryd.prog 16 #[.float .f64 4607182418800017408] w fun e w' => e = .returned (.int .i64 5) ∧ w = w' :=
  (class_any _ w (by decide)).mono fun _ _ ⟨he, hw⟩ => ⟨he.trans (ret_int (by decide +kernel)), hw⟩
theorem aw_show (w : World) (h : Tab w) : Calls Tryd.prog 21 #[.float .f64 4607182418800017408] w fun e w' => e = .returned (.string ⟨#[51, 102, 102, 48, 48, 48, 48, 48, 48, 48, 48, 48, 48, 48, 48, 48]⟩) ∧ Below w.heap.size w w' :=
  (show_any _ w h (by decide)).mono fun _ _ ⟨he, hw⟩ => ⟨he.trans (ret_str (by kernel_rfl)), hw⟩

set_option maxHeartbeats 1000000 in
theorem awake_any (w : World) (h : Tab w) :
    Calls Tryd.prog 10 #[] w fun e w' => e = .returned (.bool true) ∧ Below w.heap.size w w' := by
  have ho : (FloatKind.f64.format.order 4607182418800017408 4607182418800017408 == some .eq) = true := by decide +kernel
  go_enter Tryd.func10, Tryd.ntmps10
  go_wp2_with fail
  refine (aw_key _).mono ?_
  rintro e w' ⟨rfl, rfl⟩
  go_wp2_with fail
  refine (aw_of _).mono ?_
  rintro e w' ⟨rfl, rfl⟩
  go_wp2_with fail
  refine (aw_copy _).mono ?_
  rintro e w' ⟨rfl, rfl⟩
  go_wp2_with fail
  refine (aw_cmp _).mono ?_
  rintro e w' ⟨rfl, rfl⟩
  go_wp2_with fail
  refine (aw_show _ h).mono ?_
  rintro e w' ⟨rfl, hb⟩
  go_wp2_with fail
  refine (aw_class _).mono ?_
  rintro e w'' ⟨rfl, rfl⟩
  go_wp2_with fail
  go_ret
  exact ⟨rfl, hb⟩

end Go.Proofs.YtfpfgimgnmhnaaaDoor
