/-
  Texts of this claim, put together.
-/
import Derived.Test.YtfbojcaedcimcaaMab
import Derived.WalkKit
import Derived.WalkSpells
import Derived.WalkLawsBesides
import Derived.IntWalk
import Derived.Lib.Hide
import Derived.BigQuiet

/-
  An alarm: what it does, how it lies in memory, both programs'.
-/
namespace Go.Proofs.Ytfbojcaedcimcaa
open Go.RowKit

/-- First, most, step, what is left (0: it does not run), how often it rang. -/
structure Pa where
  f : Nat
  m : Nat
  s : Nat
  l : Nat
  r : Nat

def Pa.new (f m : Nat) : Pa := ⟨f, m, f, 0, 0⟩
def Pa.start (S : Pa) : Pa := if S.l = 0 then { S with l := S.s } else S
def Pa.stop (S : Pa) : Pa := { S with s := S.f, l := 0 }
def Pa.next (S : Pa) : Nat := if S.m < 2 * S.s then S.m else 2 * S.s
def Pa.rings (S : Pa) : Bool := decide (S.l = 1)
def Pa.tick (S : Pa) : Pa := if S.l = 0 then S else if S.l = 1 then { S with s := S.next, l := S.next, r := S.r + 1 } else { S with l := S.l - 1 }
/-- Within bounds. -/
structure Pa.ok (S : Pa) (n : Nat) : Prop where
  f : 1 ≤ S.f ∧ S.f ≤ S.s
  m : S.s ≤ S.m ∧ S.m ≤ 1000
  l : S.l ≤ S.s
  r : S.r ≤ n
theorem Pa.ok.more {S : Pa} {n k : Nat} (h : S.ok n) (hk : n ≤ k) : S.ok k := ⟨h.f, h.m, h.l, Nat.le_trans h.r hk⟩
theorem Pa.ok.start {S : Pa} {n : Nat} (h : S.ok n) : S.start.ok n := by
  obtain ⟨h1, h2, h3, h4⟩ := h
  unfold Pa.start
  split
  · exact ⟨h1, h2, Nat.le_refl _, h4⟩
  · exact ⟨h1, h2, h3, h4⟩
theorem Pa.ok.stop {S : Pa} {n : Nat} (h : S.ok n) : S.stop.ok n := by
  obtain ⟨h1, h2, h3, h4⟩ := h
  exact ⟨⟨h1.1, Nat.le_refl _⟩, ⟨Nat.le_trans h1.2 h2.1, h2.2⟩, Nat.zero_le _, h4⟩
theorem Pa.ok.next {S : Pa} {n : Nat} (h : S.ok n) : S.s ≤ S.next ∧ S.next ≤ S.m := by
  obtain ⟨h1, h2, h3, h4⟩ := h
  unfold Pa.next
  split <;> omega
theorem Pa.ok.tick {S : Pa} {n : Nat} (h : S.ok n) : S.tick.ok (n + 1) := by
  have hn := h.next
  obtain ⟨h1, h2, h3, h4⟩ := h
  unfold Pa.tick
  split
  · exact ⟨h1, h2, h3, by omega⟩
  · split
    · exact ⟨⟨h1.1, Nat.le_trans h1.2 hn.1⟩, ⟨hn.2, h2.2⟩, Nat.le_refl _, by simp only; omega⟩
    · exact ⟨h1, h2, by simp only; omega, by simp only; omega⟩
theorem Pa.new_ok {f m : Nat} (h : 1 ≤ f ∧ f ≤ m ∧ m ≤ 1000) : (Pa.new f m).ok 0 := ⟨⟨h.1, Nat.le_refl _⟩, h.2, Nat.zero_le _, Nat.le_refl _⟩

def paC (S : Pa) : Nat → Value
  | 0 => .int .i64 (S.f : Nat)
  | 1 => .int .i64 (S.m : Nat)
  | 2 => .int .i64 (S.s : Nat)
  | 3 => .int .i64 (S.l : Nat)
  | _ => .int .i64 (S.r : Nat)
def prC (S : Pa) : Nat → Value
  | 0 => .int .i64 (S.f : Nat)
  | 1 => .int .i64 (S.m : Nat)
  | 2 => .int .i64 (S.s : Nat)
  | 3 => .int .i64 (S.l : Nat)
  | 4 => .bool (decide (0 < S.l))
  | _ => .int .i64 (S.r : Nat)
def PaAt (w : World) (p : Nat) (S : Pa) : Prop := Cel 5 w p (paC S)
def PrAt (w : World) (p : Nat) (S : Pa) : Prop := Cel 6 w p (prC S)
def PaPost (S : Pa) (W : World) (p : Nat) (r : Value) (e : Ending) (w : World) : Prop := e = .returned r ∧ PaAt w p S ∧ Keep (fun k => k = p) W w
def PrPost (S : Pa) (W : World) (p : Nat) (r : Value) (e : Ending) (w : World) : Prop := e = .returned r ∧ PrAt w p S ∧ Keep (fun k => k = p) W w

theorem five {P : Nat → Prop} (h0 : P 0) (h1 : P 1) (h2 : P 2) (h3 : P 3) (h4 : P 4) : ∀ o, o < 5 → P o := fun o ho =>
  match o, ho with
  | 0, _ => h0
  | 1, _ => h1
  | 2, _ => h2
  | 3, _ => h3
  | 4, _ => h4
  | n + 5, h => by omega
theorem six {P : Nat → Prop} (h0 : P 0) (h1 : P 1) (h2 : P 2) (h3 : P 3) (h4 : P 4) (h5 : P 5) : ∀ o, o < 6 → P o := fun o ho =>
  match o, ho with
  | 0, _ => h0
  | 1, _ => h1
  | 2, _ => h2
  | 3, _ => h3
  | 4, _ => h4
  | 5, _ => h5
  | n + 6, h => by omega

section
variable {w w' : World} {p : Nat} {S S2 : Pa}
theorem PaAt.cells (h : PaAt w p S) : w.cell? ⟨p, 0, none⟩ = some (.int .i64 (S.f : Nat)) ∧ w.cell? ⟨p, 1, none⟩ = some (.int .i64 (S.m : Nat)) ∧ w.cell? ⟨p, 2, none⟩ = some (.int .i64 (S.s : Nat)) ∧ w.cell? ⟨p, 3, none⟩ = some (.int .i64 (S.l : Nat)) ∧ w.cell? ⟨p, 4, none⟩ = some (.int .i64 (S.r : Nat)) :=
  ⟨h.c 0 (by decide), h.c 1 (by decide), h.c 2 (by decide), h.c 3 (by decide), h.c 4 (by decide)⟩
theorem PrAt.cells (h : PrAt w p S) : w.cell? ⟨p, 0, none⟩ = some (.int .i64 (S.f : Nat)) ∧ w.cell? ⟨p, 1, none⟩ = some (.int .i64 (S.m : Nat)) ∧ w.cell? ⟨p, 2, none⟩ = some (.int .i64 (S.s : Nat)) ∧ w.cell? ⟨p, 3, none⟩ = some (.int .i64 (S.l : Nat)) ∧ w.cell? ⟨p, 4, none⟩ = some (.bool (decide (0 < S.l))) ∧ w.cell? ⟨p, 5, none⟩ = some (.int .i64 (S.r : Nat)) :=
  ⟨h.c 0 (by decide), h.c 1 (by decide), h.c 2 (by decide), h.c 3 (by decide), h.c 4 (by decide), h.c 5 (by decide)⟩
theorem PaAt.below (h : PaAt w p S) (hb : Below w.heap.size w w') : PaAt w' p S := Cel.below h hb
theorem PrAt.below (h : PrAt w p S) (hb : Below w.heap.size w w') : PrAt w' p S := Cel.below h hb
theorem PaAt.drew (h : PaAt w p S) : PaAt w.drew p S := Cel.drew h
theorem PrAt.drew (h : PrAt w p S) : PrAt w.drew p S := Cel.drew h
theorem PaAt.drewN (h : PaAt w p S) (q : Nat) : PaAt (w.drewN q) p S := Cel.drewN h q
theorem PrAt.drewN (h : PrAt w p S) (q : Nat) : PrAt (w.drewN q) p S := Cel.drewN h q
theorem PaAt.keep {F : Nat → Prop} (h : PaAt w p S) (hk : Keep F w w') (hF : ¬ F p) : PaAt w' p S := Cel.keep h hk hF
theorem PrAt.keep {F : Nat → Prop} (h : PrAt w p S) (hk : Keep F w w') (hF : ¬ F p) : PrAt w' p S := Cel.keep h hk hF
end

end Go.Proofs.Ytfbojcaedcimcaa

/-
  New, Start, Stop, Tick, Left, Step, Rings: pace.
-/
namespace Go.Proofs.Ytfbojcaedcimcaa
open Go.RowKit

section
variable {W : World} {p : Nat} {S : Pa}

theorem pa_runs (h : PaAt W p S) : Calls Try.prog 60 #[.pointer (some ⟨p, 0, none⟩)] W fun e w' => e = .returned (.bool (decide (0 < S.l))) ∧ w' = W := by
  obtain ⟨c0, c1, c2, c3, c4⟩ := h.cells
  clear h
  go_enter Try.func60, Try.ntmps60
  cases d : decide (0 < S.l)
  · have d1 : decide ((S.l : Int) > 0) = false := decide_eq_false (by have := of_decide_eq_false d; omega)
    go_wp2_with fail
    go_ret
    exact ⟨rfl, rfl⟩
  · have d1 : decide ((S.l : Int) > 0) = true := decide_eq_true (by have := of_decide_eq_true d; omega)
    go_wp2_with fail
    go_ret
    exact ⟨rfl, rfl⟩

theorem pa_start (h : PaAt W p S) : Calls Try.prog 56 #[.pointer (some ⟨p, 0, none⟩)] W (PaPost S.start W p (.tuple #[])) := by
  have H := Lib.hid h
  have R := Lib.hid (pa_runs h)
  obtain ⟨c0, c1, c2, c3, c4⟩ := h.cells
  have f3 := h.fz 3
  clear h
  go_enter Try.func56, Try.ntmps56
  by_cases hl : S.l = 0
  · have E := Lib.hid (show S.start = { S with l := S.s } from if_pos hl)
    have R1 := Lib.hid (show Calls Try.prog 60 #[.pointer (some ⟨p, 0, none⟩)] W fun e w' => e = .returned (.bool false) ∧ w' = W by
      have := R.out
      rwa [decide_eq_false (by omega)] at this)
    have P := Lib.hid (show PaPost { S with l := S.s } W p (.tuple #[]) (.returned (.tuple #[])) (W.setCell ⟨p, 3, none⟩ (.int .i64 (S.s : Nat))) from
      ⟨rfl, (H.out.put 3 _).conv (five rfl rfl rfl rfl rfl), (Keep.refl _ W).put 3 _⟩)
    rw [E.out]
    clear R hl E
    go_wp2_with (go_at_call 60; refine R1.out.mono ?_; rintro e w' ⟨rfl, rfl⟩)
    go_end0
    exact P.out
  · have E := Lib.hid (show S.start = S from if_neg hl)
    have R1 := Lib.hid (show Calls Try.prog 60 #[.pointer (some ⟨p, 0, none⟩)] W fun e w' => e = .returned (.bool true) ∧ w' = W by
      have := R.out
      rwa [decide_eq_true (by omega)] at this)
    rw [E.out]
    clear R hl E
    go_wp2_with (go_at_call 60; refine R1.out.mono ?_; rintro e w' ⟨rfl, rfl⟩)
    go_end0
    exact ⟨rfl, H.out, Keep.refl _ _⟩

theorem pa_stop (h : PaAt W p S) : Calls Try.prog 37 #[.pointer (some ⟨p, 0, none⟩)] W (PaPost S.stop W p (.tuple #[])) := by
  have P := Lib.hid (show PaPost S.stop W p (.tuple #[]) (.returned (.tuple #[])) ((W.setCell ⟨p, 2, none⟩ (.int .i64 (S.f : Nat))).setCell ⟨p, 3, none⟩ (.int .i64 0)) from
      ⟨rfl, ((h.put 2 _).put 3 _).conv (five rfl rfl rfl rfl rfl), ((Keep.refl _ W).put 2 _).put 3 _⟩)
  obtain ⟨c0, c1, c2, c3, c4⟩ := h.cells
  have f2 := h.fz 2
  have f3 := h.fz 3
  clear h
  go_enter Try.func37, Try.ntmps37
  go_wp2_with fail
  go_end0
  exact P.out



end

end Go.Proofs.Ytfbojcaedcimcaa

/-
  Tick, New: pace.
-/
namespace Go.Proofs.Ytfbojcaedcimcaa
open Go.RowKit

theorem wrap_i {z : Int} (h : -9223372036854775808 ≤ z ∧ z ≤ 9223372036854775807) : IntKind.i64.wrap z = z := by
  simp only [IntKind.wrap, IntKind.signed, IntKind.bits]
  simp
  omega

section
variable {W : World} {p n : Nat} {S : Pa}

set_option maxHeartbeats 2000000 in
theorem pa_tick (h : PaAt W p S) (ho : S.ok n) (hn : n ≤ 4611686018427387904) : Calls Try.prog 47 #[.pointer (some ⟨p, 0, none⟩)] W (PaPost S.tick W p (.bool S.rings)) := by
  have H := Lib.hid h
  have R := Lib.hid (pa_runs h)
  obtain ⟨c0, c1, c2, c3, c4⟩ := h.cells
  have f2 := h.fz 2
  have f3 := h.fz 3
  have f4 := h.fz 4
  have hm := ho.m
  have hf := ho.f
  have hll := ho.l
  have hr := ho.r
  clear h
  go_enter Try.func47, Try.ntmps47
  by_cases hl : S.l = 0
  · have E := Lib.hid (show S.tick = S from if_pos hl)
    have E2 := Lib.hid (show S.rings = false from decide_eq_false (by omega))
    have R1 := Lib.hid (show Calls Try.prog 60 #[.pointer (some ⟨p, 0, none⟩)] W fun e w' => e = .returned (.bool false) ∧ w' = W by
      have := R.out
      rwa [decide_eq_false (by omega)] at this)
    rw [E.out, E2.out]
    clear R hl E E2
    go_wp2_with (go_at_call 60; refine R1.out.mono ?_; rintro e w' ⟨rfl, rfl⟩)
    go_ret
    exact ⟨rfl, H.out, Keep.refl _ _⟩
  · have R1 := Lib.hid (show Calls Try.prog 60 #[.pointer (some ⟨p, 0, none⟩)] W fun e w' => e = .returned (.bool true) ∧ w' = W by
      have := R.out
      rwa [decide_eq_true (by omega)] at this)
    by_cases h1 : S.l = 1
    · have E := Lib.hid (show S.tick = { S with s := S.next, l := S.next, r := S.r + 1 } by unfold Pa.tick; rw [if_neg hl, if_pos h1])
      have E2 := Lib.hid (show S.rings = true from decide_eq_true h1)
      have P := Lib.hid (show PaPost { S with s := S.next, l := S.next, r := S.r + 1 } W p (.bool true) (.returned (.bool true)) ((((W.setCell ⟨p, 3, none⟩ (.int .i64 0)).setCell ⟨p, 4, none⟩ (.int .i64 ((S.r : Int) + 1))).drew.setCell ⟨p, 2, none⟩ (.int .i64 (S.next : Nat))).setCell ⟨p, 3, none⟩ (.int .i64 (S.next : Nat))) from
        ⟨rfl, (((((H.out.put 3 _).put 4 _).drew).put 2 _).put 3 _).conv (five rfl rfl rfl rfl rfl), ((((Keep.refl _ W).put 3 _).put 4 _).drew.put 2 _).put 3 _⟩)
      have k3 : W.cell? ⟨p, 3, none⟩ = some (.int .i64 1) := by rw [c3, h1]; rfl
      have hw : IntKind.i64.wrap ((S.r : Int) + 1) = (S.r : Int) + 1 := wrap_i (by omega)
      have hw2 : IntKind.i64.wrap (2 * (S.s : Int)) = 2 * (S.s : Int) := wrap_i (by omega)
      rw [E.out, E2.out]
      clear R E E2 c3
      go_wp2_with (go_at_call 60; refine R1.out.mono ?_; rintro e w' ⟨rfl, rfl⟩)
      rcases Nat.lt_or_ge S.m (2 * S.s) with hs | hs
      · have Q := Lib.hid (show S.next = S.m from if_pos hs)
        have ds : decide ((S.m : Int) < 2 * (S.s : Int)) = true := decide_eq_true (by omega)
        have dn : decide (S.m < 2 * S.s) = true := decide_eq_true hs
        go_region
        go_wp2_with fail
        go_ret
        rw [Q.out] at P ⊢
        exact P.out
      · have Q := Lib.hid (show S.next = 2 * S.s from if_neg (by omega))
        have ds : decide ((S.m : Int) < 2 * (S.s : Int)) = false := decide_eq_false (by omega)
        have dn : decide (S.m < 2 * S.s) = false := decide_eq_false (by omega)
        go_region
        go_wp2_with fail
        go_ret
        rw [Q.out] at P ⊢
        exact P.out
    · have E := Lib.hid (show S.tick = { S with l := S.l - 1 } by unfold Pa.tick; rw [if_neg hl, if_neg h1])
      have E2 := Lib.hid (show S.rings = false from decide_eq_false h1)
      have P := Lib.hid (show PaPost { S with l := S.l - 1 } W p (.bool false) (.returned (.bool false)) (W.setCell ⟨p, 3, none⟩ (.int .i64 ((S.l : Int) - 1))) from
        ⟨rfl, (H.out.put 3 _).conv (five rfl rfl rfl (by show Value.int .i64 ((S.l : Int) - 1) = .int .i64 ((S.l - 1 : Nat) : Int); rw [Int.ofNat_sub (by omega)]; rfl) rfl), (Keep.refl _ W).put 3 _⟩)
      have hw : IntKind.i64.wrap ((S.l : Int) - 1) = (S.l : Int) - 1 := wrap_i (by omega)
      have hd : decide ((S.l : Int) - 1 > 0) = true := decide_eq_true (by omega)
      rw [E.out, E2.out]
      clear R E E2
      go_wp2_with (go_at_call 60; refine R1.out.mono ?_; rintro e w' ⟨rfl, rfl⟩)
      go_ret
      exact P.out

theorem pa_new_no (f m : Int) (W : World) (h : ¬ (1 ≤ f ∧ f ≤ m ∧ m ≤ 1000)) : Calls Try.prog 29 #[.int .i64 f, .int .i64 m] W fun e w' => e = .returned (.tuple #[.pointer none, .int .i64 1]) ∧ w' = W := by
  go_enter Try.func29, Try.ntmps29
  by_cases h1 : f < 1
  · have d1 : decide (f < 1) = true := decide_eq_true h1
    clear h h1
    go_wp2_with fail
    go_ret2
    exact ⟨rfl, rfl⟩
  · have d1 : decide (f < 1) = false := decide_eq_false h1
    by_cases h2 : f > m
    · have d2 : decide (f > m) = true := decide_eq_true h2
      clear h h1 h2
      go_wp2_with fail
      go_ret2
      exact ⟨rfl, rfl⟩
    · have d2 : decide (f > m) = false := decide_eq_false h2
      have d3 : decide (m > 1000) = true := decide_eq_true (by omega)
      clear h h1 h2
      go_wp2_with fail
      go_ret2
      exact ⟨rfl, rfl⟩

/-- A new one. -/
def PaNew (S : Pa) (W : World) (e : Ending) (w : World) : Prop := e = .returned (.tuple #[.pointer (some ⟨W.heap.size, 0, none⟩), .int .i64 0]) ∧ PaAt w W.heap.size S ∧ Below W.heap.size W w ∧ W.heap.size < w.heap.size

theorem pa_new (f m : Nat) (W : World) (h : 1 ≤ f ∧ f ≤ m ∧ m ≤ 1000) : Calls Try.prog 29 #[.int .i64 (f : Int), .int .i64 (m : Int)] W (PaNew (Pa.new f m) W) := by
  have P := Lib.hid (show PaNew (Pa.new f m) W (.returned (.tuple #[.pointer (some ⟨W.heap.size, 0, none⟩), .int .i64 0])) (W.alloc (.cells #[.int .i64 (f : Int), .int .i64 (m : Int), .int .i64 (f : Int), .int .i64 0, .int .i64 0] 92)) from
    ⟨rfl, (Cel.new W [.int .i64 (f : Int), .int .i64 (m : Int), .int .i64 (f : Int), .int .i64 0, .int .i64 0] _).conv (five rfl rfl rfl rfl rfl), (Below.refl _ _).alloc (Nat.le_refl _) _, by simp⟩)
  have d1 : decide ((f : Int) < 1) = false := decide_eq_false (by omega)
  have d2 : decide (m < f) = false := decide_eq_false (by omega)
  have d3 : decide ((m : Int) > 1000) = false := decide_eq_false (by omega)
  clear h
  go_enter Try.func29, Try.ntmps29
  go_wp2_with fail
  go_ret2
  exact P.out
end

end Go.Proofs.Ytfbojcaedcimcaa
