/-
  The document's own alarm: NewPace, Start, Stop, Tick.
-/
import Derived.Test.YtmahbmmeeifaiaaKpa
namespace Go.Proofs.Ytmahbmmeeifaiaa
open Go.RowKit

theorem wrap_j {z : Int} (h : -9223372036854775808 ≤ z ∧ z ≤ 9223372036854775807) : IntKind.i64.wrap z = z := by
  simp only [IntKind.wrap, IntKind.signed, IntKind.bits]
  simp
  omega

section
variable {W : World} {p n : Nat} {S : Pa}

theorem pr_start (h : PrAt W p S) (ho : S.ok n) : Calls Try.prog 34 #[.pointer (some ⟨p, 0, none⟩)] W (PrPost S.start W p (.tuple #[])) := by
  have H := Lib.hid h
  obtain ⟨c0, c1, c2, c3, c4, c5⟩ := h.cells
  have f3 := h.fz 3
  have f4 := h.fz 4
  have hf := ho.f
  clear h
  go_enter Try.func34, Try.ntmps34
  by_cases hl : S.l = 0
  · have E := Lib.hid (show S.start = { S with l := S.s } from if_pos hl)
    have k4 : W.cell? ⟨p, 4, none⟩ = some (.bool false) := by rw [c4, decide_eq_false (by omega)]
    have P := Lib.hid (show PrPost { S with l := S.s } W p (.tuple #[]) (.returned (.tuple #[])) ((W.setCell ⟨p, 4, none⟩ (.bool true)).setCell ⟨p, 3, none⟩ (.int .i64 (S.s : Nat))) from
      ⟨rfl, ((H.out.put 4 _).put 3 _).conv (six rfl rfl rfl rfl (by show Value.bool true = .bool (decide (0 < S.s)); rw [decide_eq_true (by omega)]) rfl), ((Keep.refl _ W).put 4 _).put 3 _⟩)
    rw [E.out]
    clear c4 hl E
    go_wp2_with fail
    go_end0
    exact P.out
  · have E := Lib.hid (show S.start = S from if_neg hl)
    have k4 : W.cell? ⟨p, 4, none⟩ = some (.bool true) := by rw [c4, decide_eq_true (by omega)]
    rw [E.out]
    clear c4 hl E
    go_wp2_with fail
    go_end0
    exact ⟨rfl, H.out, Keep.refl _ _⟩

theorem pr_stop (h : PrAt W p S) : Calls Try.prog 35 #[.pointer (some ⟨p, 0, none⟩)] W (PrPost S.stop W p (.tuple #[])) := by
  have P := Lib.hid (show PrPost S.stop W p (.tuple #[]) (.returned (.tuple #[])) (((W.setCell ⟨p, 4, none⟩ (.bool false)).setCell ⟨p, 2, none⟩ (.int .i64 (S.f : Nat))).setCell ⟨p, 3, none⟩ (.int .i64 0)) from
      ⟨rfl, (((h.put 4 _).put 2 _).put 3 _).conv (six rfl rfl rfl rfl rfl rfl), (((Keep.refl _ W).put 4 _).put 2 _).put 3 _⟩)
  obtain ⟨c0, c1, c2, c3, c4, c5⟩ := h.cells
  have f2 := h.fz 2
  have f3 := h.fz 3
  have f4 := h.fz 4
  clear h
  go_enter Try.func35, Try.ntmps35
  go_wp2_with fail
  go_end0
  exact P.out

set_option maxHeartbeats 2000000 in
theorem pr_tick (h : PrAt W p S) (ho : S.ok n) (hn : n ≤ 4611686018427387904) : Calls Try.prog 36 #[.pointer (some ⟨p, 0, none⟩)] W (PrPost S.tick W p (.bool S.rings)) := by
  have H := Lib.hid h
  obtain ⟨c0, c1, c2, c3, c4, c5⟩ := h.cells
  have f2 := h.fz 2
  have f3 := h.fz 3
  have f5 := h.fz 5
  have hm := ho.m
  have hf := ho.f
  have hll := ho.l
  have hr := ho.r
  clear h
  go_enter Try.func36, Try.ntmps36
  by_cases hl : S.l = 0
  · have E := Lib.hid (show S.tick = S from if_pos hl)
    have E2 := Lib.hid (show S.rings = false from decide_eq_false (by omega))
    have k4 : W.cell? ⟨p, 4, none⟩ = some (.bool false) := by rw [c4, decide_eq_false (by omega)]
    rw [E.out, E2.out]
    clear c4 hl E E2
    go_wp2_with fail
    go_ret
    exact ⟨rfl, H.out, Keep.refl _ _⟩
  · have k4 : W.cell? ⟨p, 4, none⟩ = some (.bool true) := by rw [c4, decide_eq_true (by omega)]
    by_cases h1 : S.l = 1
    · have E := Lib.hid (show S.tick = { S with s := S.next, l := S.next, r := S.r + 1 } by unfold Pa.tick; rw [if_neg hl, if_pos h1])
      have E2 := Lib.hid (show S.rings = true from decide_eq_true h1)
      have hnx := ho.next
      have B := Lib.hid (show Value.bool (decide (0 < S.l)) = .bool (decide (0 < S.next)) by rw [decide_eq_true (by omega), decide_eq_true (by omega)])
      have k3 : W.cell? ⟨p, 3, none⟩ = some (.int .i64 1) := by rw [c3, h1]; rfl
      have hw : IntKind.i64.wrap ((S.r : Int) + 1) = (S.r : Int) + 1 := wrap_j (by omega)
      have hw2 : IntKind.i64.wrap (2 * (S.s : Int)) = 2 * (S.s : Int) := wrap_j (by omega)
      rw [E.out, E2.out]
      clear E E2 c3 c4 hnx
      rcases Nat.lt_or_ge S.m (2 * S.s) with hs | hs
      · have Q := Lib.hid (show S.next = S.m from if_pos hs)
        have ds : decide ((S.m : Int) < 2 * (S.s : Int)) = true := decide_eq_true (by omega)
        have dn : decide (2 * (S.s : Int) > (S.m : Int)) = true := decide_eq_true (by omega)
        go_wp2_with fail
        go_quiet (fail)
        obtain ⟨w5, hw5⟩ : ∃ w5, w5 = ((((W.setCell ⟨p, 3, none⟩ (.int .i64 0)).setCell ⟨p, 5, none⟩ (.int .i64 ((S.r : Int) + 1))).setCell ⟨p, 2, none⟩ (.int .i64 (2 * (S.s : Int)))).drewN nq) := ⟨_, rfl⟩
        have C5 := Lib.hid (show Cel 6 w5 p (updc (updc (updc (prC S) 3 (.int .i64 0)) 5 (.int .i64 ((S.r : Int) + 1))) 2 (.int .i64 (2 * (S.s : Int)))) by rw [hw5]; exact (((H.out.put 3 _).put 5 _).put 2 _).drewN _)
        have K5 := Lib.hid (show Keep (fun k => k = p) W w5 by rw [hw5]; exact ((((Keep.refl _ W).put 3 _).put 5 _).put 2 _).drewN _)
        have x1 : w5.cell? ⟨p, 1, none⟩ = some (.int .i64 (S.m : Nat)) := C5.out.c 1 (by decide)
        have x2 : w5.cell? ⟨p, 2, none⟩ = some (.int .i64 (2 * (S.s : Int))) := C5.out.c 2 (by decide)
        have x3 : w5.cell? ⟨p, 3, none⟩ = some (.int .i64 0) := C5.out.c 3 (by decide)
        have y2 := C5.out.fz 2
        have y3 := C5.out.fz 3
        rw [← hw5]
        clear hw5
        go_wp2_with fail
        go_ret
        rw [Q.out] at B ⊢
        exact ⟨rfl, ((C5.out.put 2 _).put 3 _).conv (six rfl rfl rfl rfl B.out rfl), (K5.out.put 2 _).put 3 _⟩
      · have Q := Lib.hid (show S.next = 2 * S.s from if_neg (by omega))
        have ds : decide ((S.m : Int) < 2 * (S.s : Int)) = false := decide_eq_false (by omega)
        have dn : decide (2 * (S.s : Int) > (S.m : Int)) = false := decide_eq_false (by omega)
        go_wp2_with fail
        go_quiet (fail)
        go_wp2_with fail
        go_ret
        rw [Q.out] at B ⊢
        exact ⟨rfl, (((((H.out.put 3 _).put 5 _).put 2 _).drewN _).put 3 _).conv (six rfl rfl rfl rfl B.out rfl), (((((Keep.refl _ W).put 3 _).put 5 _).put 2 _).drewN _).put 3 _⟩
    · have E := Lib.hid (show S.tick = { S with l := S.l - 1 } by unfold Pa.tick; rw [if_neg hl, if_neg h1])
      have E2 := Lib.hid (show S.rings = false from decide_eq_false h1)
      have B : prC S 4 = prC { S with l := S.l - 1 } 4 := by show Value.bool (decide (0 < S.l)) = .bool (decide (0 < S.l - 1)); rw [decide_eq_true (by omega), decide_eq_true (by omega)]
      have P := Lib.hid (show PrPost { S with l := S.l - 1 } W p (.bool false) (.returned (.bool false)) (W.setCell ⟨p, 3, none⟩ (.int .i64 ((S.l : Int) - 1))) from
        ⟨rfl, (H.out.put 3 _).conv (six rfl rfl rfl (by show Value.int .i64 ((S.l : Int) - 1) = .int .i64 ((S.l - 1 : Nat) : Int); rw [Int.ofNat_sub (by omega)]; rfl) B rfl), (Keep.refl _ W).put 3 _⟩)
      have hw : IntKind.i64.wrap ((S.l : Int) - 1) = (S.l : Int) - 1 := wrap_j (by omega)
      have hd : decide ((S.l : Int) - 1 > 0) = true := decide_eq_true (by omega)
      rw [E.out, E2.out]
      clear E E2 c4 B
      go_wp2_with fail
      go_ret
      exact P.out

/-- A new one. -/
def PrNew (S : Pa) (W : World) (e : Ending) (w : World) : Prop := e = .returned (.pointer (some ⟨W.heap.size, 0, none⟩)) ∧ PrAt w W.heap.size S ∧ Below W.heap.size W w ∧ W.heap.size < w.heap.size

theorem pr_new (f m : Nat) (W : World) : Calls Try.prog 32 #[.int .i64 (f : Int), .int .i64 (m : Int)] W (PrNew (Pa.new f m) W) := by
  have P := Lib.hid (show PrNew (Pa.new f m) W (.returned (.pointer (some ⟨W.heap.size, 0, none⟩))) (W.alloc (.cells #[.int .i64 (f : Int), .int .i64 (m : Int), .int .i64 (f : Int), .int .i64 0, .bool false, .int .i64 0] 57)) from
    ⟨rfl, (Cel.new W [.int .i64 (f : Int), .int .i64 (m : Int), .int .i64 (f : Int), .int .i64 0, .bool false, .int .i64 0] _).conv (six rfl rfl rfl rfl rfl rfl), (Below.refl _ _).alloc (Nat.le_refl _) _, by simp⟩)
  go_enter Try.func32, Try.ntmps32
  go_wp2_with fail
  go_ret
  exact P.out
end

end Go.Proofs.Ytmahbmmeeifaiaa
