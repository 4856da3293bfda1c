import Derived.Test.YtbmpeadoicjpnaaIrowm
import Derived.Test.YtbmpeadoicjpnaaMad
import Derived.Test.YtbmpeadoicjpnaaMac
import Derived.Deep.Cut

/-
  The document's own: may an entry be, does one stand ahead of another.
-/
namespace Go.Proofs.Ytbmpeadoicjpnaa
open Go.RowKit

def xV (x : Le) : Value := .agg #[.int .i64 x.f, .int .u64 (x.n : Int), .int .u64 (x.t : Int)]
def xcE (x : Le) : Nat → Value := fun o => if o = 0 then .int .i64 x.f else if o = 1 then .int .u64 (x.n : Int) else .int .u64 (x.t : Int)
theorem boxX (W : World) (x : Le) (t : TypeId) : Cel 3 (W.alloc (.cells #[.int .i64 x.f, .int .u64 (x.n : Int), .int .u64 (x.t : Int)] t)) W.heap.size (xcE x) :=
  (Cel.new W [.int .i64 x.f, .int .u64 (x.n : Int), .int .u64 (x.t : Int)] t).conv (fun o ho => by rcases (show o = 0 ∨ o = 1 ∨ o = 2 by simp at ho; omega) with rfl | rfl | rfl <;> rfl)
theorem boxb (W : World) (o : Obj) : Below W.heap.size W (W.alloc o) := below_alloc (Below.refl _ _) _
theorem goodX_all {x : Le} (h1 : 0 ≤ x.f) (h2 : x.f ≤ 15) (h3 : 1 ≤ x.n) (h4 : x.t ≤ 65535) : goodX x = true := goodX_iff.2 ⟨h1, h2, h3, h4⟩
theorem goodX_not {x : Le} (h : ¬ (0 ≤ x.f ∧ x.f ≤ 15 ∧ 1 ≤ x.n ∧ x.t ≤ 65535)) : goodX x = false := by
  rw [Bool.eq_false_iff]; exact fun h' => h (goodX_iff.1 h')

set_option maxRecDepth 20000 in
set_option maxHeartbeats 4000000 in
theorem rgoodx_any {W : World} {x : Le} {r : Bool} (hr : goodX x = r) :
    Calls Try.prog 48 #[xV x] W fun e w' => e = .returned (.bool r) ∧ Below W.heap.size W w' := by
  obtain ⟨U, hU⟩ : ∃ U, U = W.alloc (.cells #[.int .i64 x.f, .int .u64 (x.n : Int), .int .u64 (x.t : Int)] 43) := ⟨_, rfl⟩
  have C : Cel 3 U W.heap.size (xcE x) := by rw [hU]; exact boxX W x _
  have HB := Lib.hid (show Below W.heap.size W U from by rw [hU]; exact boxb W _)
  have c0 : U.cell? ⟨W.heap.size, 0, none⟩ = some (.int .i64 x.f) := C.c 0 (by decide)
  have c1 : U.cell? ⟨W.heap.size, 1, none⟩ = some (.int .u64 (x.n : Int)) := C.c 1 (by decide)
  have c2 : U.cell? ⟨W.heap.size, 2, none⟩ = some (.int .u64 (x.t : Int)) := C.c 2 (by decide)
  have HU := Lib.hid hU.symm
  clear hU C
  unfold xV
  by_cases h1 : 0 ≤ x.f
  · have d1 : decide (x.f ≥ 0) = true := decide_eq_true h1
    by_cases h2 : x.f ≤ 15
    · have d2 : decide (x.f ≤ 15) = true := decide_eq_true h2
      by_cases h3 : 1 ≤ x.n
      · have d3 : decide ((x.n : Int) ≥ 1) = true := decide_eq_true (by omega)
        have d3' : decide (1 ≤ x.n) = true := decide_eq_true h3
        by_cases h4 : x.t ≤ 65535
        · have d4 : decide ((x.t : Int) ≤ 65535) = true := decide_eq_true (by omega)
          have d4' : decide (x.t ≤ 65535) = true := decide_eq_true h4
          obtain rfl : r = true := by rw [← hr]; exact goodX_all h1 h2 h3 h4
          clear hr h1 h2 h3 h4
          generalize x.f = f at *
          generalize x.n = n at *
          generalize x.t = t at *
          go_enter Try.func48, Try.ntmps48
          go_upto_region 1 with fail
          rw [HU.out]
          go_wp2_with fail
          go_ret
          exact ⟨rfl, HB.out⟩
        · have d4 : decide ((x.t : Int) ≤ 65535) = false := decide_eq_false (by omega)
          have d4' : decide (x.t ≤ 65535) = false := decide_eq_false h4
          obtain rfl : r = false := by rw [← hr]; exact goodX_not (fun h => h4 h.2.2.2)
          clear hr h1 h2 h3 h4
          generalize x.f = f at *
          generalize x.n = n at *
          generalize x.t = t at *
          go_enter Try.func48, Try.ntmps48
          go_upto_region 1 with fail
          rw [HU.out]
          go_wp2_with fail
          go_ret
          exact ⟨rfl, HB.out⟩
      · have d3 : decide ((x.n : Int) ≥ 1) = false := decide_eq_false (by omega)
        have d3' : decide (1 ≤ x.n) = false := decide_eq_false h3
        obtain rfl : r = false := by rw [← hr]; exact goodX_not (fun h => h3 h.2.2.1)
        clear hr h1 h2 h3
        generalize x.f = f at *
        generalize x.n = n at *
        generalize x.t = t at *
        go_enter Try.func48, Try.ntmps48
        go_upto_region 1 with fail
        rw [HU.out]
        go_wp2_with fail
        go_ret
        exact ⟨rfl, HB.out⟩
    · have d2 : decide (x.f ≤ 15) = false := decide_eq_false h2
      obtain rfl : r = false := by rw [← hr]; exact goodX_not (fun h => h2 h.2.1)
      clear hr h1 h2
      generalize x.f = f at *
      generalize x.n = n at *
      generalize x.t = t at *
      go_enter Try.func48, Try.ntmps48
      go_upto_region 1 with fail
      rw [HU.out]
      go_wp2_with fail
      go_ret
      exact ⟨rfl, HB.out⟩
  · have d1 : decide (x.f ≥ 0) = false := decide_eq_false h1
    obtain rfl : r = false := by rw [← hr]; exact goodX_not (fun h => h1 h.1)
    clear hr h1
    generalize x.f = f at *
    generalize x.n = n at *
    generalize x.t = t at *
    go_enter Try.func48, Try.ntmps48
    go_upto_region 1 with fail
    rw [HU.out]
    go_wp2_with fail
    go_ret
    exact ⟨rfl, HB.out⟩

set_option maxRecDepth 20000 in
set_option maxHeartbeats 4000000 in
theorem rahead_any {W : World} {x y : Le} {r : Bool} (hr : aheadX x y = r) :
    Calls Try.prog 49 #[xV x, xV y] W fun e w' => e = .returned (.bool r) ∧ Below W.heap.size W w' := by
  obtain ⟨U, hU⟩ : ∃ U, U = (W.alloc (.cells #[.int .i64 x.f, .int .u64 (x.n : Int), .int .u64 (x.t : Int)] 43)).alloc (.cells #[.int .i64 y.f, .int .u64 (y.n : Int), .int .u64 (y.t : Int)] 43) := ⟨_, rfl⟩
  have C : Cel 3 U W.heap.size (xcE x) := by rw [hU]; exact (boxX W x _).below (boxb _ _)
  have D : Cel 3 U (W.heap.size + 1) (xcE y) := by
    have := boxX (W.alloc (.cells #[.int .i64 x.f, .int .u64 (x.n : Int), .int .u64 (x.t : Int)] 43)) y 43
    rw [← hU, show (W.alloc (.cells #[.int .i64 x.f, .int .u64 (x.n : Int), .int .u64 (x.t : Int)] 43)).heap.size = W.heap.size + 1 by simp] at this
    exact this
  have HB := Lib.hid (show Below W.heap.size W U from by rw [hU]; exact below_alloc (boxb W _) _)
  have c0 : U.cell? ⟨W.heap.size, 0, none⟩ = some (.int .i64 x.f) := C.c 0 (by decide)
  have c1 : U.cell? ⟨W.heap.size, 1, none⟩ = some (.int .u64 (x.n : Int)) := C.c 1 (by decide)
  have e0 : U.cell? ⟨W.heap.size + 1, 0, none⟩ = some (.int .i64 y.f) := D.c 0 (by decide)
  have e1 : U.cell? ⟨W.heap.size + 1, 1, none⟩ = some (.int .u64 (y.n : Int)) := D.c 1 (by decide)
  have HU := Lib.hid hU.symm
  clear hU C D
  have HR := Lib.hid (show r = decide (x.f < y.f ∨ (x.f = y.f ∧ x.n < y.n)) from hr.symm)
  clear hr
  unfold xV
  generalize x.f = f at *
  generalize x.n = n at *
  generalize x.t = t at *
  generalize y.f = g at *
  generalize y.n = m at *
  generalize y.t = s at *
  by_cases h1 : f < g
  · have d1 : decide (f < g) = true := decide_eq_true h1
    obtain rfl : r = true := by rw [HR.out]; exact decide_eq_true (Or.inl h1)
    clear h1 HR
    go_enter Try.func49, Try.ntmps49
    go_upto_region 1 with fail
    rw [HU.out]
    go_wp2_with fail
    go_ret
    exact ⟨rfl, HB.out⟩
  · have d1 : decide (f < g) = false := decide_eq_false h1
    by_cases h2 : f = g
    · have d2 : (f == g) = true := by simpa using h2
      by_cases h3 : n < m
      · have d3 : decide ((n : Int) < (m : Int)) = true := decide_eq_true (by omega)
        have d3' : decide (n < m) = true := decide_eq_true h3
        obtain rfl : r = true := by rw [HR.out]; exact decide_eq_true (Or.inr ⟨h2, h3⟩)
        clear h1 h2 h3 HR
        go_enter Try.func49, Try.ntmps49
        go_upto_region 1 with fail
        rw [HU.out]
        go_wp2_with fail
        go_ret
        exact ⟨rfl, HB.out⟩
      · have d3 : decide ((n : Int) < (m : Int)) = false := decide_eq_false (by omega)
        have d3' : decide (n < m) = false := decide_eq_false h3
        obtain rfl : r = false := by rw [HR.out]; exact decide_eq_false (fun h => h.elim h1 (fun h => h3 h.2))
        clear h1 h2 h3 HR
        go_enter Try.func49, Try.ntmps49
        go_upto_region 1 with fail
        rw [HU.out]
        go_wp2_with fail
        go_ret
        exact ⟨rfl, HB.out⟩
    · have d2 : (f == g) = false := by simpa using h2
      obtain rfl : r = false := by rw [HR.out]; exact decide_eq_false (fun h => h.elim h1 (fun h => h2 h.1))
      clear h1 h2 HR
      go_enter Try.func49, Try.ntmps49
      go_upto_region 1 with fail
      rw [HU.out]
      go_wp2_with fail
      go_ret
      exact ⟨rfl, HB.out⟩

end Go.Proofs.Ytbmpeadoicjpnaa
