/-
  One is added.
-/
import Derived.Test.YtlbbbabieepabaaMturn
namespace Go.Proofs.Ytlbbbabieepabaa
open Go.RowKit

set_option maxHeartbeats 400000 in
theorem abs_any (b : Nat) (w : World) (h : b < 18446744073709551616) :
    Calls Try.prog 50 #[.float .f64 b] w fun e w' => e = .returned (.float .f64 (b % 9223372036854775808)) ∧ w = w' := by
  have hn := f64frombits_run
  have hm := f64bits_run
  go_enter Try.func50, Try.ntmps50
  go_wp2
  go_ret
  exact ⟨ret_float (by rw [andNot_sign b h]; rfl), rfl⟩

set_option maxHeartbeats 400000 in
theorem isInf_both (b : Nat) (w : World) (h : b < 18446744073709551616) :
    Calls Try.prog 39 #[.float .f64 b, .int .i64 0] w fun e w' => e = .returned (.bool (infB b)) ∧ w = w' := by
  go_enter Try.func39, Try.ntmps39
  go_wp2_with (go_at_call 50; refine (abs_any b _ h).mono ?_; rintro e w' ⟨rfl, rfl⟩)
  go_ret
  exact ⟨ret_bool (ord_max _ (by omega)), rfl⟩

theorem store_float (a : Addr) (b : Nat) (m : Mode) (w : World) : (store a (.float .f64 b) m).run Try.prog w = stored Try.prog w a (.float .f64 b) m := run_store Try.prog w a _ m rfl

def FollowPost (W : World) (N p : Nat) (F : Nat → Prop) (s : MS) (v : Value) (vs : List Value) (rs : List (List Nat)) (x : Nat) (e : Ending) (w' : World) : Prop :=
  e = .returned (.tuple #[]) ∧ ∃ r, Sim r (if s.fin = 1 then x else smoothS s.smooth x) ∧ Mem w' N p F { s with smooth := r } v vs rs ∧ Keep F W w'

set_option maxHeartbeats 1000000 in
theorem follow_any (W : World) (N p : Nat) (F : Nat → Prop) (s : MS) (v : Value) (vs : List Value) (rs : List (List Nat)) (x : Nat) (hM : Mem W N p F s v vs rs) (hx : x < 18446744073709551616) :
    Calls Try.prog 40 #[.pointer (some ⟨p, 0, none⟩), .float .f64 x] W (FollowPost W N p F s v vs rs x) := by
  have hp : p < W.heap.size := (hM.low p hM.inP).2
  have c2 := hM.cells.c2
  have c6 := hM.cells.c6
  have f6 := hM.cells.fz 6
  have HM := Lib.hid hM
  have hst := store_float
  clear hM
  by_cases h1 : s.fin = 1
  · have d1 : ((s.fin : Int) == 1) = true := by simp; omega
    have H1 := Lib.hid h1
    clear h1
    go_enter Try.func40, Try.ntmps40
    go_wp2
    go_end0
    exact ⟨rfl, x, by rw [if_pos H1.out]; exact Sim.refl x, HM.out.put6 hx, (Keep.refl _ _).setCell (p := ⟨p, 6, none⟩) HM.out.inP _⟩
  · have d1 : ((s.fin : Int) == 1) = false := by simp; omega
    have H1 := Lib.hid h1
    clear h1
    obtain ⟨r1, q1, e1, s1, l1⟩ := op_run .sub rfl 28 x s.smooth W
    obtain ⟨r2, q2, e2, s2, l2⟩ := op_run .quo rfl 28 r1 eightW (W.drewN q1)
    obtain ⟨r3, q3, e3, s3, l3⟩ := op_run .add rfl 28 s.smooth r2 (W.drewN (q1 + q2))
    have e2' : (binOp .quo 28 (.float .f64 r1) (.float .f64 4620693217682128896)).run Try.prog (W.drewN q1) = .ok (.float .f64 r2) (W.drewN (q1 + q2)) := by rw [← World.drewN_drewN]; exact e2
    have e3' : (binOp .add 28 (.float .f64 s.smooth) (.float .f64 r2)).run Try.prog (W.drewN (q1 + q2)) = .ok (.float .f64 r3) (W.drewN (q1 + q2 + q3)) := by rw [e3, World.drewN_drewN]
    have S1 := Lib.hid s1
    have S2 := Lib.hid s2
    have S3 := Lib.hid s3
    clear e2 e3 s1 s2 s3
    go_enter Try.func40, Try.ntmps40
    go_wp2
    go_end0
    refine ⟨rfl, r3, ?_, (HM.out.drewN _).put6 l3, ((Keep.refl _ _).drewN _).setCell (p := ⟨p, 6, none⟩) HM.out.inP _⟩
    rw [if_neg H1.out]
    refine S3.out.trans (opN_sim .add rfl (Sim.refl _) (S2.out.trans (opN_sim .quo rfl S1.out (Sim.refl _))))

end Go.Proofs.Ytlbbbabieepabaa
