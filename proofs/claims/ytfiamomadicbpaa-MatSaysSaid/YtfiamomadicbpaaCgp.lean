/-
  mat: whether two squares can be held against each other.
-/
import Derived.Test.YtfiamomadicbpaaCgm
import Derived.Test.YtfiamomadicbpaaCsq
namespace Go.Proofs.Ytfiamomadicbpaa
open Go.RowKit

theorem mgood_at {A : Nat → Prop} {W : World} {a : Option Addr} {cap n : Nat} {m : List (List Nat)} {z : Int} (h : SqAt A W a cap n m) {r : Bool} (hr : goodM z m = r) :
    Calls Try.prog 17 #[.agg #[.int .i64 z, .slice a n cap]] W fun e w' => e = .returned (.bool r) ∧ Below W.heap.size W w' := by
  obtain ⟨L, rfl, l, s, -⟩ := h
  exact mgood_any s l hr

/-- A struct in a box. -/
theorem box_new (W : World) (z : Int) (s : Value) (t : TypeId) : Cel 2 (W.alloc (.cells #[.int .i64 z, s] t)) W.heap.size (mkC z s) :=
  (Cel.new W [.int .i64 z, s] t).conv (fun o ho => by
    rcases (show o = 0 ∨ o = 1 by simp at ho; omega) with rfl | rfl <;> rfl)
theorem box_b (W : World) (o : Obj) : Below W.heap.size W (W.alloc o) := below_alloc (Below.refl _ _) _

set_option maxRecDepth 20000 in
set_option maxHeartbeats 2000000 in
theorem mpair_at {A B : Nat → Prop} {W : World} {a1 a2 : Option Addr} {c1 c2 n1 n2 : Nat} {m1 m2 : List (List Nat)} {z1 z2 : Int} (h1 : SqAt A W a1 c1 n1 m1) (h2 : SqAt B W a2 c2 n2 m2) {r : Bool} (hr : bothM z1 m1 z2 m2 = r) :
    Calls Try.prog 34 #[.agg #[.int .i64 z1, .slice a1 n1 c1], .agg #[.int .i64 z2, .slice a2 n2 c2]] W fun e w' => e = .returned (.bool r) ∧ Below W.heap.size W w' := by
  obtain ⟨g1, hg1⟩ : ∃ b, b = goodM z1 m1 := ⟨_, rfl⟩
  obtain ⟨g2, hg2⟩ : ∃ b, b = goodM z2 m2 := ⟨_, rfl⟩
  obtain ⟨g3, hg3⟩ : ∃ b, b = decide (z1 = z2) := ⟨_, rfl⟩
  have HR := Lib.hid (show r = (g1 && g2 && g3) from by rw [← hr, hg1, hg2, hg3]; rfl)
  have e3 : (z1 == z2) = g3 := by rw [hg3]; rfl
  obtain ⟨w0, hw0⟩ : ∃ w0, w0 = (W.alloc (.cells #[.int .i64 z1, .slice a1 n1 c1] 25)).alloc (.cells #[.int .i64 z2, .slice a2 n2 c2] 25) := ⟨_, rfl⟩
  have hb : Below W.heap.size W w0 := by rw [hw0]; exact below_alloc (box_b W _) _
  have C1 : Cel 2 w0 W.heap.size (mkC z1 (.slice a1 n1 c1)) := by rw [hw0]; exact (box_new W z1 _ _).below (box_b _ _)
  have C2 : Cel 2 w0 (W.heap.size + 1) (mkC z2 (.slice a2 n2 c2)) := by
    have := box_new (W.alloc (.cells #[.int .i64 z1, .slice a1 n1 c1] 25)) z2 (.slice a2 n2 c2) 25
    rw [← hw0, show (W.alloc (.cells #[.int .i64 z1, .slice a1 n1 c1] 25)).heap.size = W.heap.size + 1 by simp] at this
    exact this
  have p0 : w0.cell? ⟨W.heap.size, 0, none⟩ = some (.int .i64 z1) := C1.c 0 (by decide)
  have p1 : w0.cell? ⟨W.heap.size, 1, none⟩ = some (.slice a1 n1 c1) := C1.c 1 (by decide)
  have P1 := Lib.hid C1
  have P2 := Lib.hid C2
  have CA := Lib.hid (mgood_at (h1.below hb) hg1.symm)
  have S2 := Lib.hid (h2.below hb)
  have G2 := Lib.hid hg2.symm
  have HB := Lib.hid hb
  have HW := Lib.hid hw0.symm
  clear hr hg1 hg2 hg3 h1 h2 hb C1 C2 hw0
  go_enter Try.func34, Try.ntmps34
  go_wp2_with fail
  rw [HW.out]
  go_wp2_with fail
  refine CA.out.mono ?_
  rintro e w1 ⟨rfl, hb1⟩
  have q0 : w1.cell? ⟨W.heap.size + 1, 0, none⟩ = some (.int .i64 z2) := (P2.out.below hb1).c 0 (by decide)
  have q1 : w1.cell? ⟨W.heap.size + 1, 1, none⟩ = some (.slice a2 n2 c2) := (P2.out.below hb1).c 1 (by decide)
  have CB := Lib.hid (mgood_at (S2.out.below hb1) G2.out)
  have F := Lib.hid (fun w2 (hb2 : Below w1.heap.size w1 w2) => show Below W.heap.size W w2 ∧ w2.cell? ⟨W.heap.size, 0, none⟩ = some (.int .i64 z1) ∧ w2.cell? ⟨W.heap.size + 1, 0, none⟩ = some (.int .i64 z2) from
    ⟨HB.out.trans ((hb1.mono HB.out.size).trans (hb2.mono (Nat.le_trans HB.out.size hb1.size))), ((P1.out.below hb1).below hb2).c 0 (by decide), ((P2.out.below hb1).below hb2).c 0 (by decide)⟩)
  have R0 := Lib.hid (HB.out.trans (hb1.mono HB.out.size))
  clear hb1 HB CA
  cases g1
  · go_wp2_with fail
    go_ret
    exact ⟨by rw [HR.out]; rfl, R0.out⟩
  · go_wp2_with fail
    refine CB.out.mono ?_
    rintro e w2 ⟨rfl, hb2⟩
    obtain ⟨B2, u0, u1⟩ := F.out w2 hb2
    have B3 := Lib.hid B2
    clear B2 hb2 CB F
    cases g2
    all_goals
      go_wp2_with fail
      go_ret
      exact ⟨by rw [HR.out]; rfl, B3.out⟩

end Go.Proofs.Ytfiamomadicbpaa
