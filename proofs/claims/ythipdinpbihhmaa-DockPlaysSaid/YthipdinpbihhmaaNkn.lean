/-
  DockKnown.
-/
import Derived.Test.YthipdinpbihhmaaNaw
namespace Go.Proofs.Ythipdinpbihhmaa
open Go.RowKit

def sX : ByteArray := ⟨#[120]⟩
def sZ : ByteArray := ⟨#[122]⟩

set_option maxRecDepth 20000 in
set_option maxHeartbeats 8000000 in
theorem law_DockKnown (W : World) : Calls Try.prog 3 #[] W (DkOk W) := by
  have hcv := fun (w : World) (C : Array Value) (n c : Nat) => Lib.run_convert_bytes_const (P := Try.prog) w 31 5 C n c Try.underlying31 Try.underlying5
  go_enter Try.func3, Try.ntmps3
  go_wp2_with fail
  refine (dk_awake W).mono ?_
  rintro e w0 ⟨rfl, b0⟩
  have B0 := Lib.hid b0
  clear b0
  go_wp2_with fail
  refine (new_bad 0 w0 (by decide)).mono ?_
  rintro e w' ⟨rfl, hw⟩
  have hw2 := hw.symm
  clear hw
  subst hw2
  go_wp2_with fail
  refine (new_bad 17 w0 (by decide)).mono ?_
  rintro e w' ⟨rfl, hw⟩
  have hw2 := hw.symm
  clear hw
  subst hw2
  go_wp2_with fail
  refine (on_new (W := W) (N := W.heap.size) 2 (by decide) (by decide) B0.out B0.out.size rfl).mono ?_
  rintro e w1 ⟨p, q, M, rfl, h1, -, -⟩
  have L1 := Lib.hid h1
  clear h1 B0
  go_wp2_with fail
  refine (on_lit (c := 9) (num := 3) (ch := 120) (s := sX) (T := ⟨2, 1, []⟩) (ss := []) (k := 0) (b := false) L1.out (Dk.ok_of (by decide)) (by decide) rfl (by decide) (by decide) rfl rfl rfl rfl rfl rfl).mono ?_
  rintro e w2 ⟨a2, c2, rfl, h2, -⟩
  have L2 := Lib.hid h2
  clear h2 L1
  go_wp2_with fail
  refine (on_lit (c := 9) (num := 0) (ch := 120) (s := sX) (T := ⟨2, 1, []⟩) (ss := []) (k := 0) (b := false) L2.out (Dk.ok_of (by decide)) (by decide) rfl (by decide) (by decide) rfl rfl rfl rfl rfl rfl).mono ?_
  rintro e w3 ⟨a3, c3, rfl, h3, -⟩
  have L3 := Lib.hid h3
  clear h3 L2
  go_wp2_with fail
  refine (on_lit (c := 9) (num := 2) (ch := 98) (s := sB) (T := ⟨2, 1, [(2, sB)]⟩) (ss := []) (k := 0) (b := true) L3.out (Dk.ok_of (by decide)) (by decide) rfl (by decide) (by decide) rfl rfl rfl rfl rfl rfl).mono ?_
  rintro e w4 ⟨a4, c4, rfl, h4, -⟩
  have L4 := Lib.hid h4
  clear h4 L3
  go_wp2_with fail
  refine (on_lit (c := 9) (num := 2) (ch := 122) (s := sZ) (T := ⟨2, 1, [(2, sB)]⟩) (ss := []) (k := 0) (b := false) L4.out (Dk.ok_of (by decide)) (by decide) rfl (by decide) (by decide) rfl rfl rfl rfl rfl rfl).mono ?_
  rintro e w5 ⟨a5, c5, rfl, h5, -⟩
  have L5 := Lib.hid h5
  clear h5 L4
  go_wp2_with fail
  refine (on_held (c := 9) L5.out (Dk.ok_of (by decide))).mono ?_
  rintro e w6 ⟨a6, c6, rfl, hs6, hf6, h6, -⟩
  obtain ⟨g, off, rfl, hgl, hc6⟩ := hs6.at 0 (by decide)
  have hc6' : w6.cell? ⟨g, off, none⟩ = some (.int .u64 2) := hc6
  have hgM : M ≤ g := by
    obtain ⟨E, hE, -⟩ := L5.out.at'
    exact Nat.le_trans hE.size (hf6 _ rfl)
  have L6 := Lib.hid h6
  have hfit := hs6.fit
  have hnum : Dk.nums ⟨2, 1, [(2, sB)]⟩ = [2] := rfl
  rw [hnum] at hfit ⊢
  clear h6 L5 hs6 hf6 hc6 hnum
  go_wp2_with fail
  refine (on_lit (c := 9) (num := 1) (ch := 97) (s := sA) (T := ⟨2, 3, []⟩) (ss := [sA, sB]) (k := 2) (b := true) L6.out (Dk.ok_of (by decide)) (by decide) rfl (by decide) (by decide) rfl rfl rfl rfl rfl rfl).mono ?_
  rintro e w7 ⟨a7, c7, rfl, h7, k7⟩
  have L7 := Lib.hid h7
  have hc7 := (k7 ⟨g, off, none⟩ hgM hgl).trans hc6'
  have hgl7 : g < w7.heap.size := cell_lt hc7
  clear h7 L6 k7 hc6'
  go_wp2_with fail
  refine (on_lit (c := 9) (num := 1) (ch := 97) (s := sA) (T := ⟨2, 3, []⟩) (ss := []) (k := 0) (b := false) L7.out (Dk.ok_of (by decide)) (by decide) rfl (by decide) (by decide) rfl rfl rfl rfl rfl rfl).mono ?_
  rintro e w8 ⟨a8, c8, rfl, h8, k8⟩
  have L8 := Lib.hid h8
  have hc8 := (k8 ⟨g, off, none⟩ hgM hgl7).trans hc7
  clear h8 L7 k8 hc7 hgl7
  have B9 : Below w8.heap.size w8 (w8.alloc (.cells #[.string ⟨#[97]⟩, .string ⟨#[98]⟩] 9)) := (Below.refl _ _).alloc (Nat.le_refl _) _
  have L9 := Lib.hid (L8.out.below B9 L8.out.nle)
  have I9 := Lib.hid (slv_lit w8 [.string ⟨#[97]⟩, .string ⟨#[98]⟩] #[.string ⟨#[97]⟩, .string ⟨#[98]⟩] 9 2 rfl rfl (by unfold maxLen; omega))
  clear B9
  go_wp2_with fail
  refine (rows_any (ss := [sA, sB]) (rs := [sA, sB]) (L9.out.ups (.slice a7 2 c7, [sA, sB]) (by simp)) I9.out rfl true (by decide)).mono ?_
  rintro e w10 ⟨rfl, q10, rfl⟩
  have L10 := Lib.hid (L9.out.drewN q10)
  clear L8 L9 I9 hc8
  generalize (w8.alloc (.cells #[.string ⟨#[97]⟩, .string ⟨#[98]⟩] 9)).drewN q10 = w11 at *
  go_wp2_with fail
  refine (on_held (c := 9) L10.out (Dk.ok_of (by decide))).mono ?_
  rintro e w12 ⟨a12, c12, rfl, -, -, h12, -⟩
  have L12 := Lib.hid h12
  clear h12
  rw [show Dk.nums ⟨2, 3, []⟩ = [] from rfl]
  go_wp2_with fail
  go_ret
  exact ⟨rfl, L12.out.be⟩

end Go.Proofs.Ythipdinpbihhmaa
