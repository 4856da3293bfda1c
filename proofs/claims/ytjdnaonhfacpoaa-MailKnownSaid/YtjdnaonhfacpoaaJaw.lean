/-
  What all the laws begin with: a message as the document's own; two alike; a word.
-/
import Derived.Test.YtjdnaonhfacpoaaJget
import Derived.Test.YtjdnaonhfacpoaaJrgd
import Derived.Test.YtjdnaonhfacpoaaJback
import Derived.Lib.SlBytesConst
namespace Go.Proofs.Ytjdnaonhfacpoaa
open Go.RowKit

set_option maxRecDepth 20000 in
set_option maxHeartbeats 8000000 in
theorem own_any (m : Msg) (ba : Option Addr) (bc : Nat) (sa : Option Addr) (sc : Nat) (W : World) :
    Calls Try.prog 16 #[.agg (msgA m ba bc sa sc)] W fun e w' => e = .returned (.agg (msgA m ba bc sa sc)) ∧ Below W.heap.size W w' := by
  have hst := store_float
  have B0 := Lib.hid (below_alloc (below_alloc (Below.refl _ W) (.cells (msgA m ba bc sa sc) 29)) (.cells (msgA m ba bc sa sc) 41))
  have X0 := msgB_new (W.alloc (.cells (msgA m ba bc sa sc) 29)) m ba bc sa sc 41
  rw [show (W.alloc (.cells (msgA m ba bc sa sc) 29)).heap.size = W.heap.size + 1 by simp] at X0
  have X := Lib.hid X0
  clear X0
  go_enter Try.func16, Try.ntmps16
  go_wp2_with fail
  generalize (W.alloc (.cells (msgA m ba bc sa sc) 29)).alloc (.cells (msgA m ba bc sa sc) 41) = wf at X B0 ⊢
  obtain ⟨r0, r1, r2, r3, r4, r5, r6, r7, r8, r9⟩ := X.out
  refine bodyPost_ret (v := .agg (msgA m ba bc sa sc)) (by simp [results, Try.results16, go_sem, r0, r1, r2, r3, r4, r5, r6, r7, r8, r9]) rfl ?_
  exact ⟨rfl, B0.out⟩

/-- A message with another value. -/
abbrev msgV (m : Msg) (v : Nat) (ba : Option Addr) (bc : Nat) (sa : Option Addr) (sc : Nat) : Array Value :=
  #[.int .i64 m.frm, .int .u64 (m.num : Nat), .int .u64 (m.to : Nat), .int .i64 m.kind, .int .i64 m.vr, .float .f64 v, .int .i64 m.wri, .int .u64 (m.tag : Nat), .slice ba m.bod.length bc, .slice sa m.stp.length sc]

set_option maxRecDepth 20000 in
set_option maxHeartbeats 16000000 in
theorem alike_any (m : Msg) (v u : Nat) (ba : Option Addr) (bc : Nat) (sa : Option Addr) (sc : Nat) (b2 : Option Addr) (c2 : Nat) (s2 : Option Addr) (d2 : Nat) (W : World) (h1 : MsgS W m ba bc sa sc) (h2 : MsgS W m b2 c2 s2 d2)
    (hv : v < 18446744073709551616) (hu : u < 18446744073709551616) (h : sameN v u = true) :
    Calls Try.prog 15 #[.agg (msgV m v ba bc sa sc), .agg (msgV m u b2 c2 s2 d2)] W fun e w' => e = .returned (.bool true) ∧ Below W.heap.size W w' := by
  have B0 := below_alloc (below_alloc (Below.refl _ W) (.cells (msgV m v ba bc sa sc) 41)) (.cells (msgV m u b2 c2 s2 d2) 41)
  have X0 := (msgB_new W ⟨m.frm, m.num, m.to, m.kind, m.vr, v, m.wri, m.tag, m.bod, m.stp⟩ ba bc sa sc 41).below (below_alloc (Below.refl _ _) (.cells (msgV m u b2 c2 s2 d2) 41))
  have Y0 := msgB_new (W.alloc (.cells (msgV m v ba bc sa sc) 41)) ⟨m.frm, m.num, m.to, m.kind, m.vr, u, m.wri, m.tag, m.bod, m.stp⟩ b2 c2 s2 d2 41
  rw [show (W.alloc (.cells (msgV m v ba bc sa sc) 41)).heap.size = W.heap.size + 1 by simp] at Y0
  have cv1 := conv_any (h1.b.below B0) rfl
  have cv2 := conv_any (h2.b.below B0) rfl
  have cv3 := conv_any (h1.s.below B0) rfl
  have cv4 := conv_any (h2.s.below B0) rfl
  have BB := Lib.hid B0
  have SM := Lib.hid h
  clear h1 h2 h B0
  have XX := Lib.hid X0
  have YY := Lib.hid Y0
  clear X0 Y0
  go_enter Try.func15, Try.ntmps15
  simp only [List.append_eq, List.cons_append, List.nil_append]
  go_wp2_with fail
  generalize (W.alloc (.cells (msgV m v ba bc sa sc) 41)).alloc (.cells (msgV m u b2 c2 s2 d2) 41) = w1 at XX YY BB cv1 cv2 cv3 cv4 ⊢
  refine (rsame_of _ hv hu SM.out).mono ?_
  rintro e w' ⟨rfl, rfl⟩
  obtain ⟨j0, j1, j2, j3, j4, j5, j6, j7, j8, j9⟩ := XX.out
  obtain ⟨k0, k1, k2, k3, k4, k5, k6, k7, k8, k9⟩ := YY.out
  dsimp only at j0 j1 j2 j3 j4 j5 j6 j7 j8 j9 k0 k1 k2 k3 k4 k5 k6 k7 k8 k9
  go_wp2_with fail
  go_ret
  exact ⟨rfl, BB.out⟩

end Go.Proofs.Ytjdnaonhfacpoaa
