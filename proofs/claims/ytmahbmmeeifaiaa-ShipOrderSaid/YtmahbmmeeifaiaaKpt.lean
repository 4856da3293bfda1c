/-
  Tick, New: pace.
-/
import Derived.Test.YtmahbmmeeifaiaaKpc
namespace Go.Proofs.Ytmahbmmeeifaiaa
open Go.RowKit

theorem wrap_i {z : Int} (h : -9223372036854775808 ≤ z ∧ z ≤ 9223372036854775807) : IntKind.i64.wrap z = z := by
  simp only [IntKind.wrap, IntKind.signed, IntKind.bits]
  simp
  omega

section
variable {W : World} {p n : Nat} {S : Pa}

set_option maxHeartbeats 2000000 in
theorem pa_tick (h : PaAt W p S) (ho : S.ok n) (hn : n ≤ 4611686018427387904) : Calls Try.prog 29 #[.pointer (some ⟨p, 0, none⟩)] W (PaPost S.tick W p (.bool S.rings)) := by
  have H := Lib.hid h
  have R := Lib.hid (pa_runs h)
  obtain ⟨c0, c1, c2, c3, c4⟩ := h.cells
  have f2 := h.fz 2
  have f3 := h.fz 3
  have f4 := h.fz 4
  have hm := ho.m
  have hf := ho.f
  have hll := ho.l
  have hr := ho.r
  clear h
  go_enter Try.func29, Try.ntmps29
  by_cases hl : S.l = 0
  · have E := Lib.hid (show S.tick = S from if_pos hl)
    have E2 := Lib.hid (show S.rings = false from decide_eq_false (by omega))
    have R1 := Lib.hid (show Calls Try.prog 39 #[.pointer (some ⟨p, 0, none⟩)] W fun e w' => e = .returned (.bool false) ∧ w' = W by
      have := R.out
      rwa [decide_eq_false (by omega)] at this)
    rw [E.out, E2.out]
    clear R hl E E2
    go_wp2_with (go_at_call 39; refine R1.out.mono ?_; rintro e w' ⟨rfl, rfl⟩)
    go_ret
    exact ⟨rfl, H.out, Keep.refl _ _⟩
  · have R1 := Lib.hid (show Calls Try.prog 39 #[.pointer (some ⟨p, 0, none⟩)] W fun e w' => e = .returned (.bool true) ∧ w' = W by
      have := R.out
      rwa [decide_eq_true (by omega)] at this)
    by_cases h1 : S.l = 1
    · have E := Lib.hid (show S.tick = { S with s := S.next, l := S.next, r := S.r + 1 } by unfold Pa.tick; rw [if_neg hl, if_pos h1])
      have E2 := Lib.hid (show S.rings = true from decide_eq_true h1)
      have P := Lib.hid (show PaPost { S with s := S.next, l := S.next, r := S.r + 1 } W p (.bool true) (.returned (.bool true)) ((((W.setCell ⟨p, 3, none⟩ (.int .i64 0)).setCell ⟨p, 4, none⟩ (.int .i64 ((S.r : Int) + 1))).drew.setCell ⟨p, 2, none⟩ (.int .i64 (S.next : Nat))).setCell ⟨p, 3, none⟩ (.int .i64 (S.next : Nat))) from
        ⟨rfl, (((((H.out.put 3 _).put 4 _).drew).put 2 _).put 3 _).conv (five rfl rfl rfl rfl rfl), ((((Keep.refl _ W).put 3 _).put 4 _).drew.put 2 _).put 3 _⟩)
      have k3 : W.cell? ⟨p, 3, none⟩ = some (.int .i64 1) := by rw [c3, h1]; rfl
      have hw : IntKind.i64.wrap ((S.r : Int) + 1) = (S.r : Int) + 1 := wrap_i (by omega)
      have hw2 : IntKind.i64.wrap (2 * (S.s : Int)) = 2 * (S.s : Int) := wrap_i (by omega)
      rw [E.out, E2.out]
      clear R E E2 c3
      go_wp2_with (go_at_call 39; refine R1.out.mono ?_; rintro e w' ⟨rfl, rfl⟩)
      rcases Nat.lt_or_ge S.m (2 * S.s) with hs | hs
      · have Q := Lib.hid (show S.next = S.m from if_pos hs)
        have ds : decide ((S.m : Int) < 2 * (S.s : Int)) = true := decide_eq_true (by omega)
        have dn : decide (S.m < 2 * S.s) = true := decide_eq_true hs
        go_region
        go_wp2_with fail
        go_ret
        rw [Q.out] at P ⊢
        exact P.out
      · have Q := Lib.hid (show S.next = 2 * S.s from if_neg (by omega))
        have ds : decide ((S.m : Int) < 2 * (S.s : Int)) = false := decide_eq_false (by omega)
        have dn : decide (S.m < 2 * S.s) = false := decide_eq_false (by omega)
        go_region
        go_wp2_with fail
        go_ret
        rw [Q.out] at P ⊢
        exact P.out
    · have E := Lib.hid (show S.tick = { S with l := S.l - 1 } by unfold Pa.tick; rw [if_neg hl, if_neg h1])
      have E2 := Lib.hid (show S.rings = false from decide_eq_false h1)
      have P := Lib.hid (show PaPost { S with l := S.l - 1 } W p (.bool false) (.returned (.bool false)) (W.setCell ⟨p, 3, none⟩ (.int .i64 ((S.l : Int) - 1))) from
        ⟨rfl, (H.out.put 3 _).conv (five rfl rfl rfl (by show Value.int .i64 ((S.l : Int) - 1) = .int .i64 ((S.l - 1 : Nat) : Int); rw [Int.ofNat_sub (by omega)]; rfl) rfl), (Keep.refl _ W).put 3 _⟩)
      have hw : IntKind.i64.wrap ((S.l : Int) - 1) = (S.l : Int) - 1 := wrap_i (by omega)
      have hd : decide ((S.l : Int) - 1 > 0) = true := decide_eq_true (by omega)
      rw [E.out, E2.out]
      clear R E E2
      go_wp2_with (go_at_call 39; refine R1.out.mono ?_; rintro e w' ⟨rfl, rfl⟩)
      go_ret
      exact P.out

theorem pa_new_no (f m : Int) (W : World) (h : ¬ (1 ≤ f ∧ f ≤ m ∧ m ≤ 1000)) : Calls Try.prog 24 #[.int .i64 f, .int .i64 m] W fun e w' => e = .returned (.tuple #[.pointer none, .int .i64 1]) ∧ w' = W := by
  go_enter Try.func24, Try.ntmps24
  by_cases h1 : f < 1
  · have d1 : decide (f < 1) = true := decide_eq_true h1
    clear h h1
    go_wp2_with fail
    go_ret2
    exact ⟨rfl, rfl⟩
  · have d1 : decide (f < 1) = false := decide_eq_false h1
    by_cases h2 : f > m
    · have d2 : decide (f > m) = true := decide_eq_true h2
      clear h h1 h2
      go_wp2_with fail
      go_ret2
      exact ⟨rfl, rfl⟩
    · have d2 : decide (f > m) = false := decide_eq_false h2
      have d3 : decide (m > 1000) = true := decide_eq_true (by omega)
      clear h h1 h2
      go_wp2_with fail
      go_ret2
      exact ⟨rfl, rfl⟩

/-- A new one. -/
def PaNew (S : Pa) (W : World) (e : Ending) (w : World) : Prop := e = .returned (.tuple #[.pointer (some ⟨W.heap.size, 0, none⟩), .int .i64 0]) ∧ PaAt w W.heap.size S ∧ Below W.heap.size W w ∧ W.heap.size < w.heap.size

theorem pa_new (f m : Nat) (W : World) (h : 1 ≤ f ∧ f ≤ m ∧ m ≤ 1000) : Calls Try.prog 24 #[.int .i64 (f : Int), .int .i64 (m : Int)] W (PaNew (Pa.new f m) W) := by
  have P := Lib.hid (show PaNew (Pa.new f m) W (.returned (.tuple #[.pointer (some ⟨W.heap.size, 0, none⟩), .int .i64 0])) (W.alloc (.cells #[.int .i64 (f : Int), .int .i64 (m : Int), .int .i64 (f : Int), .int .i64 0, .int .i64 0] 75)) from
    ⟨rfl, (Cel.new W [.int .i64 (f : Int), .int .i64 (m : Int), .int .i64 (f : Int), .int .i64 0, .int .i64 0] _).conv (five rfl rfl rfl rfl rfl), (Below.refl _ _).alloc (Nat.le_refl _) _, by simp⟩)
  have d1 : decide ((f : Int) < 1) = false := decide_eq_false (by omega)
  have d2 : decide (m < f) = false := decide_eq_false (by omega)
  have d3 : decide ((m : Int) > 1000) = false := decide_eq_false (by omega)
  clear h
  go_enter Try.func24, Try.ntmps24
  go_wp2_with fail
  go_ret2
  exact P.out
end

end Go.Proofs.Ytmahbmmeeifaiaa
