/-
  What all the laws begin with.
-/
import Derived.Test.YthnglifjijfplaaFget
namespace Go.Proofs.Ythnglifjijfplaa
open Go.RowKit

def ackF : Frm := ⟨true, 5, []⟩
theorem ack_good : goodF ackF = true := rfl
theorem ack_bytes : bytesF ackF = [1, 5] := by
  unfold bytesF
  rw [ack_good, if_pos rfl]
  simp [putF, ackF, lebL_lo]
theorem ack_got : gotF [1, 5] = ackF ∧ okF [1, 5] = true := by
  have h := gotF_put (f := ackF) (by decide) ack_good
  have e : putF ackF = [1, 5] := by
    have := ack_bytes
    unfold bytesF at this
    rwa [ack_good, if_pos rfl] at this
  rw [e] at h
  exact ⟨h.2, h.1⟩
theorem str_15 : strB [1, 5] = ⟨#[1, 5]⟩ := rfl

set_option maxRecDepth 20000 in
set_option maxHeartbeats 4000000 in
theorem awake_any (W : World) : Calls Try.prog 7 #[] W (Ok W) := by
  have L0 := Lib.hid (sl_lit bV 256 W [1, 5] #[.int .u8 1, .int .u8 5] 5 (0, 0) 2 rfl rfl (by simp) (by unfold maxLen; omega))
  have B0 := Lib.hid (below_alloc (Below.refl _ W) (.cells #[.int .u8 1, .int .u8 5] 5))
  go_enter Try.func7, Try.ntmps7
  go_wp2_with fail
  generalize W.alloc (.cells #[.int .u8 1, .int .u8 5] 5) = w1 at L0 B0 ⊢
  refine (fget_of L0.out rfl (by simp) ack_got.1 ack_got.2).mono ?_
  rintro e w2 ⟨a2, c2, rfl, hs2, hb, _⟩
  have X3 := Lib.hid (Fun.lay (t := 27) B0.out B0.out.size hb hs2).out
  clear hb hs2 L0 B0
  go_wp2_with fail
  generalize w2.alloc (.cells (frmA ackF a2 c2) 27) = w3 at X3 ⊢
  generalize w2.heap.size = D at X3 ⊢
  refine (fput_is (f := ackF) (a := none) (c := 0) (SlAt.none _ _ _) (by decide) ack_bytes).mono ?_
  rintro e w4 ⟨a4, c4, rfl, hs4, hb⟩
  have X4 := Fun.of hb X3
  have cv := conv_any hs4 (len := 2) rfl
  rw [str_15] at cv
  obtain ⟨j0, j1, j2⟩ := X4.out.bx
  have k0 : w4.cell? ⟨D, 0, none⟩ = some (.bool true) := j0
  have k1 : w4.cell? ⟨D, 1, none⟩ = some (.int .u64 5) := j1
  clear hb hs4 X3 j0 j1 j2
  go_wp2_with fail
  go_ret
  exact ⟨rfl, X4.out.be⟩

end Go.Proofs.Ythnglifjijfplaa
