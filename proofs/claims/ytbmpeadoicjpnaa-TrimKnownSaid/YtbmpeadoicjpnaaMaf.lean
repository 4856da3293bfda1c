/-
  Texts of this claim, put together.
-/
import Derived.Test.YtbmpeadoicjpnaaHnwm
import Derived.Test.YtbmpeadoicjpnaaIgem

/-
  cmp.Compare, cmp.Or; which of two entries stands first.
-/
namespace Go.Proofs.Ytbmpeadoicjpnaa
open Go.RowKit Go.Sort

theorem isnan_i (a : Int) (W : World) : Calls Try.prog 85 #[.int .i64 a] W fun e w' => e = .returned (.bool false) ∧ W = w' := by
  go_enter Try.func85, Try.ntmps85
  go_wp2_with fail
  go_ret
  exact ⟨rfl, rfl⟩
theorem isnan_u (a : Int) (W : World) : Calls Try.prog 86 #[.int .u64 a] W fun e w' => e = .returned (.bool false) ∧ W = w' := by
  go_enter Try.func86, Try.ntmps86
  go_wp2_with fail
  go_ret
  exact ⟨rfl, rfl⟩
/-- Below, above or like. -/
def cmpZ (a b : Int) : Int := if a < b then -1 else if b < a then 1 else 0
theorem comp_i (a b : Int) {c : Int} (hc : cmpZ a b = c) (W : World) : Calls Try.prog 63 #[.int .i64 a, .int .i64 b] W fun e w' => e = .returned (.int .i64 c) ∧ W = w' := by
  subst hc
  unfold cmpZ
  by_cases h1 : a < b
  · have d1 : decide (a < b) = true := decide_eq_true h1
    rw [if_pos h1]
    clear h1
    go_enter Try.func63, Try.ntmps63
    go_wp2_with (go_at_call 85; refine (isnan_i _ _).mono ?_; rintro e w' ⟨rfl, rfl⟩)
    go_ret
    exact ⟨rfl, rfl⟩
  · have d1 : decide (a < b) = false := decide_eq_false h1
    rw [if_neg h1]
    clear h1
    by_cases h2 : b < a
    · have d2 : decide (a > b) = true := decide_eq_true h2
      have d2' : decide (b < a) = true := decide_eq_true h2
      rw [if_pos h2]
      clear h2
      go_enter Try.func63, Try.ntmps63
      go_wp2_with (go_at_call 85; refine (isnan_i _ _).mono ?_; rintro e w' ⟨rfl, rfl⟩)
      go_ret
      exact ⟨rfl, rfl⟩
    · have d2 : decide (a > b) = false := decide_eq_false h2
      have d2' : decide (b < a) = false := decide_eq_false h2
      rw [if_neg h2]
      clear h2
      go_enter Try.func63, Try.ntmps63
      go_wp2_with (go_at_call 85; refine (isnan_i _ _).mono ?_; rintro e w' ⟨rfl, rfl⟩)
      go_ret
      exact ⟨rfl, rfl⟩
theorem comp_u (a b : Int) {c : Int} (hc : cmpZ a b = c) (W : World) : Calls Try.prog 64 #[.int .u64 a, .int .u64 b] W fun e w' => e = .returned (.int .i64 c) ∧ W = w' := by
  subst hc
  unfold cmpZ
  by_cases h1 : a < b
  · have d1 : decide (a < b) = true := decide_eq_true h1
    rw [if_pos h1]
    clear h1
    go_enter Try.func64, Try.ntmps64
    go_wp2_with (go_at_call 86; refine (isnan_u _ _).mono ?_; rintro e w' ⟨rfl, rfl⟩)
    go_ret
    exact ⟨rfl, rfl⟩
  · have d1 : decide (a < b) = false := decide_eq_false h1
    rw [if_neg h1]
    clear h1
    by_cases h2 : b < a
    · have d2 : decide (a > b) = true := decide_eq_true h2
      have d2' : decide (b < a) = true := decide_eq_true h2
      rw [if_pos h2]
      clear h2
      go_enter Try.func64, Try.ntmps64
      go_wp2_with (go_at_call 86; refine (isnan_u _ _).mono ?_; rintro e w' ⟨rfl, rfl⟩)
      go_ret
      exact ⟨rfl, rfl⟩
    · have d2 : decide (a > b) = false := decide_eq_false h2
      have d2' : decide (b < a) = false := decide_eq_false h2
      rw [if_neg h2]
      clear h2
      go_enter Try.func64, Try.ntmps64
      go_wp2_with (go_at_call 86; refine (isnan_u _ _).mono ?_; rintro e w' ⟨rfl, rfl⟩)
      go_ret
      exact ⟨rfl, rfl⟩

/-- The first of two that is not nought. -/
def orZ (c d : Int) : Int := if c = 0 then d else c
theorem or_any {c d e : Int} (he : orZ c d = e) {W : World} {b : Nat} (h0 : W.cell? ⟨b, 0, none⟩ = some (.int .i64 c)) (h1 : W.cell? ⟨b, 1, none⟩ = some (.int .i64 d)) :
    Calls Try.prog 62 #[.slice (some ⟨b, 0, none⟩) 2 2] W fun e' w' => e' = .returned (.int .i64 e) ∧ W = w' := by
  have HE := Lib.hid he
  clear he
  go_enter Try.func62, Try.ntmps62
  go_wp2_with fail
  go_loop [5, 8] (fun v i => ∃ k : Nat, k ≤ 2 ∧ i = .int .i64 (k : Nat) ∧ (0 < k → Hid (c = 0)) ∧ (1 < k → Hid (d = 0))) (fun _ i => 2 - (intOf i).toNat)
  case atStart => exact ⟨0, Nat.zero_le _, rfl, fun h => absurd h (by omega), fun h => absurd h (by omega)⟩
  case round =>
    obtain ⟨k, hk, rfl, hc, hd⟩ := hrel
    obtain rfl | rfl | rfl : k = 0 ∨ k = 1 ∨ k = 2 := by omega
    · by_cases hz : c = 0
      · have d1 : (c != 0) = false := by simp [hz]
        have Z := Lib.hid hz
        clear hz
        go_wp2_with fail
        go_round
        case rel => exact ⟨1, by omega, rfl, fun _ => Z, fun h => absurd h (by omega)⟩
        case measure => simp [intOf]
      · have d1 : (c != 0) = true := by simp [hz]
        have Z : orZ c d = c := if_neg hz
        rw [HE.out] at Z
        clear hz
        go_wp2_with fail
        go_ret
        exact ⟨rfl, rfl⟩
    · have Z : orZ c d = d := if_pos (hc (by omega)).out
      rw [HE.out] at Z
      by_cases hz : d = 0
      · have d1 : (d != 0) = false := by simp [hz]
        have Z2 := Lib.hid hz
        have C := Lib.hid hc
        clear hz hc
        go_wp2_with fail
        go_round
        case rel => exact ⟨2, by omega, rfl, fun _ => C.out (by omega), fun _ => Z2⟩
        case measure => simp [intOf]
      · have d1 : (d != 0) = true := by simp [hz]
        clear hz
        go_wp2_with fail
        go_ret
        exact ⟨rfl, rfl⟩
    · have Z : orZ c d = d := if_pos (hc (by omega)).out
      rw [HE.out, (hd (by omega)).out] at Z
      clear hc hd
      go_wp2_with fail
      go_ret
      exact ⟨rfl, rfl⟩

/-- Below nought the one stands first, above it the other. -/
def ordX (x y : Le) : Int := orZ (cmpZ x.f y.f) (cmpZ x.n y.n)

set_option maxRecDepth 20000 in
set_option maxHeartbeats 4000000 in
theorem order_any (x y : Le) (W : World) :
    Calls Try.prog 39 #[xV x, xV y] W fun e w' => e = .returned (.int .i64 (ordX x y)) ∧ ∃ q os, w' = grow (W.drewN q) os := by
  obtain ⟨U, hU⟩ : ∃ U, U = (W.alloc (.cells #[.int .i64 x.f, .int .u64 (x.n : Int), .int .u64 (x.t : Int)] 26)).alloc (.cells #[.int .i64 y.f, .int .u64 (y.n : Int), .int .u64 (y.t : Int)] 26) := ⟨_, rfl⟩
  have C : Cel 3 U W.heap.size (xcE x) := by rw [hU]; exact (boxX W x _).below (boxb _ _)
  have D : Cel 3 U (W.heap.size + 1) (xcE y) := by
    have := boxX (W.alloc (.cells #[.int .i64 x.f, .int .u64 (x.n : Int), .int .u64 (x.t : Int)] 26)) y 26
    rw [← hU, show (W.alloc (.cells #[.int .i64 x.f, .int .u64 (x.n : Int), .int .u64 (x.t : Int)] 26)).heap.size = W.heap.size + 1 by simp] at this
    exact this
  have HB := Lib.hid (show ∃ os, U = grow W os from ⟨_, by rw [hU, alloc_eq_grow, alloc_eq_grow, grow_grow]⟩)
  have c0 : U.cell? ⟨W.heap.size, 0, none⟩ = some (.int .i64 x.f) := C.c 0 (by decide)
  have c1 : U.cell? ⟨W.heap.size, 1, none⟩ = some (.int .u64 (x.n : Int)) := C.c 1 (by decide)
  have e0 : U.cell? ⟨W.heap.size + 1, 0, none⟩ = some (.int .i64 y.f) := D.c 0 (by decide)
  have e1 : U.cell? ⟨W.heap.size + 1, 1, none⟩ = some (.int .u64 (y.n : Int)) := D.c 1 (by decide)
  have HU := Lib.hid hU.symm
  clear hU C D
  obtain ⟨c, HC⟩ : ∃ c, Hid (cmpZ x.f y.f = c) := ⟨_, rfl⟩
  obtain ⟨d, HD⟩ : ∃ d, Hid (cmpZ x.n y.n = d) := ⟨_, rfl⟩
  obtain ⟨r, HR⟩ : ∃ r, Hid (orZ c d = r) := ⟨_, rfl⟩
  have HX := Lib.hid (show ordX x y = r from by unfold ordX; rw [HC.out, HD.out]; exact HR.out)
  rw [HX.out]
  clear HX
  unfold xV
  generalize x.f = f at *
  generalize x.n = n at *
  generalize x.t = t at *
  generalize y.f = g at *
  generalize y.n = m at *
  generalize y.t = s at *
  have z0 : (U.drew.alloc (.cells #[.int .i64 c, .int .i64 d] 3)).cell? ⟨U.heap.size, 0, none⟩ = some (.int .i64 c) := (Cel.new U.drew [.int .i64 c, .int .i64 d] 3).c 0 (by simp)
  have z1 : (U.drew.alloc (.cells #[.int .i64 c, .int .i64 d] 3)).cell? ⟨U.heap.size, 1, none⟩ = some (.int .i64 d) := (Cel.new U.drew [.int .i64 c, .int .i64 d] 3).c 1 (by simp)
  have ZR := Lib.hid (or_any HR.out z0 z1)
  go_enter Try.func39, Try.ntmps39
  go_upto_region 1 with fail
  rw [HU.out]
  go_region_law (first | (go_simp; go_at_call 63; refine (comp_i f g HC.out _).mono ?_; rintro e w' ⟨rfl, rfl⟩) | (go_simp; go_at_call 64; refine (comp_u n m HD.out _).mono ?_; rintro e w' ⟨rfl, rfl⟩) | (go_simp; go_at_call 62; refine ZR.out.mono ?_; rintro e w' ⟨rfl, rfl⟩))
  all_goals
    go_wp2_with fail
    go_ret
    obtain ⟨os, hos⟩ := HB.out
    exact ⟨rfl, 1, os ++ #[_], by rw [hos, alloc_eq_grow, ← grow_grow]; rfl⟩

end Go.Proofs.Ytbmpeadoicjpnaa

/-
  May an entry be.
-/
namespace Go.Proofs.Ytbmpeadoicjpnaa
open Go.RowKit Go.Sort

theorem procs_is (W : World) : Calls Try.prog 56 #[] W fun e w' => e = .returned (.int .u64 65535) ∧ W = w' := by
  have h := all_any 16 W (by unfold IntOk; omega)
  rw [show allN 16 = 65535 by decide] at h
  have h2 : Calls Try.prog 73 #[.int .i64 16] W fun e w' => e = .returned (.int .u64 65535) ∧ W = w' := h
  clear h
  go_enter Try.func56, Try.ntmps56
  go_wp2_with (go_at_call 73; refine h2.mono ?_; rintro e w' ⟨rfl, rfl⟩)
  go_ret
  exact ⟨rfl, rfl⟩
theorem has_procs (p : Int) : hasN 65535 p = decide (0 ≤ p ∧ p ≤ 15) := by
  unfold hasN
  by_cases h : 0 ≤ p ∧ p < 64
  · rw [decide_eq_true h, Bool.true_and, show (65535 : Nat) = 2 ^ 16 - 1 by decide, Nat.testBit_two_pow_sub_one]
    apply decide_eq_decide.2
    omega
  · rw [decide_eq_false h, Bool.false_and]
    exact (decide_eq_false (by omega)).symm
theorem and_high (t : Nat) (h : t < 18446744073709551616) : t &&& 18446744073709486080 = 0 ↔ t ≤ 65535 := by
  have e : (18446744073709486080 : Nat) = (2 ^ 48 - 1) <<< 16 := by decide
  constructor
  · intro h0
    have h1 : (t &&& 18446744073709486080) >>> 16 = 0 := by rw [h0]; rfl
    rw [Nat.shiftRight_and_distrib, show (18446744073709486080 : Nat) >>> 16 = 2 ^ 48 - 1 by decide, Nat.and_two_pow_sub_one_eq_mod, Nat.shiftRight_eq_div_pow] at h1
    omega
  · intro h0
    refine Nat.eq_of_testBit_eq fun i => ?_
    rw [Nat.testBit_and, e, Nat.testBit_shiftLeft, Nat.zero_testBit]
    by_cases hi : 16 ≤ i
    · rw [Nat.testBit_lt_two_pow (Nat.lt_of_lt_of_le (show t < 2 ^ 16 by omega) (Nat.pow_le_pow_right (by decide) hi)), Bool.false_and]
    · rw [decide_eq_false (show ¬ i ≥ 16 from hi), Bool.false_and, Bool.and_false]
theorem has_is {p : Int} (hp : IntOk p) {b : Bool} (hb : decide (0 ≤ p ∧ p ≤ 15) = b) (W : World) : Calls Try.prog 29 #[.int .u64 65535, .int .i64 p] W fun e w' => e = .returned (.bool b) ∧ Below W.heap.size W w' := by
  have := has_any 65535 p W (by decide) hp
  rw [has_procs, hb] at this
  exact this
theorem within_is {t : Nat} (h : t < 18446744073709551616) {b : Bool} (hb : decide (t ≤ 65535) = b) (W : World) : Calls Try.prog 30 #[.int .u64 (t : Nat), .int .u64 65535] W fun e w' => e = .returned (.bool b) ∧ W = w' := by
  have h1 := within_any t 65535 W h (by decide)
  rw [show decide (t &&& (18446744073709551615 - 65535) = 0) = b from (decide_eq_decide.2 (and_high t h)).trans hb] at h1
  exact h1

set_option maxRecDepth 20000 in
set_option maxHeartbeats 4000000 in
theorem may_any {x : Le} (hx : OkX x) {r : Bool} (hr : goodX x = r) (W : World) :
    Calls Try.prog 35 #[xV x] W fun e w' => e = .returned (.bool r) ∧ Below W.heap.size W w' := by
  obtain ⟨o1, o2, o3⟩ := hx
  obtain ⟨U, hU⟩ : ∃ U, U = W.alloc (.cells #[.int .i64 x.f, .int .u64 (x.n : Int), .int .u64 (x.t : Int)] 26) := ⟨_, rfl⟩
  have C : Cel 3 U W.heap.size (xcE x) := by rw [hU]; exact boxX W x _
  have HB := Lib.hid (show Below W.heap.size W U from by rw [hU]; exact boxb W _)
  have c0 : ∀ p : NewBy U, p.now.cell? ⟨W.heap.size, 0, none⟩ = some (.int .i64 x.f) := new_cell (C.c 0 (by decide))
  have c1 : ∀ p : NewBy U, p.now.cell? ⟨W.heap.size, 1, none⟩ = some (.int .u64 (x.n : Int)) := new_cell (C.c 1 (by decide))
  have c2 : ∀ p : NewBy U, p.now.cell? ⟨W.heap.size, 2, none⟩ = some (.int .u64 (x.t : Int)) := new_cell (C.c 2 (by decide))
  have HU := Lib.hid hU.symm
  clear hU C
  have O1 := Lib.hid o1
  have HR := Lib.hid (show r = (decide (0 ≤ x.f ∧ x.f ≤ 15) && (decide (x.n > 0) && decide (x.t ≤ 65535))) from by
    rw [← hr]; unfold goodX
    rw [← Bool.decide_and, ← Bool.decide_and]; apply decide_eq_decide.2; omega)
  clear hr o1 o2
  unfold xV
  generalize x.f = f at *
  generalize x.n = n at *
  generalize x.t = t at *
  have O3 := Lib.hid o3
  clear o3
  have dn : decide ((n : Int) > 0) = decide (n > 0) := decide_eq_decide.2 (by omega)
  cases h1 : decide (0 ≤ f ∧ f ≤ 15)
  · have HH := Lib.hid (fun W => has_is O1.out h1 W)
    obtain rfl : r = false := by rw [HR.out, h1]; rfl
    clear h1 dn HR
    go_enter Try.func35, Try.ntmps35
    go_upto_region 1 with fail
    rw [HU.out]
    refine wp_region_new (by kernel_rfl) (by kernel_rfl) ?_
    repeat
      with_reducible refine wpQuiet_step (fun K hK => ?_)
      go_simp
      first
        | (with_reducible refine hK _ ?_; clear hK K)
        | (with_reducible refine if_no (by decide) ?_; with_reducible refine hK _ ?_; clear hK K)
        | (apply Exists.intro; refine ⟨fun _ => ?_, hK _ ?_⟩; (first | (go_at_call 56; exact new_same (procs_is _)) | (go_at_call 29; exact new_of (HH.out _))); clear hK K)
    with_reducible refine wpQuiet_nil ?_
    rintro _ ⟨p, rfl⟩
    go_wp2_with fail
    go_ret
    exact ⟨rfl, HB.out.trans (p.b.mono HB.out.size)⟩
  · have HH := Lib.hid (fun W => has_is O1.out h1 W)
    rw [h1, Bool.true_and] at HR
    clear h1
    cases h2 : decide (n > 0)
    · rw [h2] at dn
      have dm : decide (0 < n) = false := h2
      obtain rfl : r = false := by rw [HR.out, h2]; rfl
      clear h2 HR
      go_enter Try.func35, Try.ntmps35
      go_upto_region 1 with fail
      rw [HU.out]
      refine wp_region_new (by kernel_rfl) (by kernel_rfl) ?_
      repeat
        with_reducible refine wpQuiet_step (fun K hK => ?_)
        go_simp
        first
          | (with_reducible refine hK _ ?_; clear hK K)
          | (with_reducible refine if_no (by decide) ?_; with_reducible refine hK _ ?_; clear hK K)
          | (apply Exists.intro; refine ⟨fun _ => ?_, hK _ ?_⟩; (first | (go_at_call 56; exact new_same (procs_is _)) | (go_at_call 29; exact new_of (HH.out _))); clear hK K)
      with_reducible refine wpQuiet_nil ?_
      rintro _ ⟨p, rfl⟩
      go_wp2_with fail
      go_ret
      exact ⟨rfl, HB.out.trans (p.b.mono HB.out.size)⟩
    · rw [h2] at dn
      have dm : decide (0 < n) = true := h2
      have HW := Lib.hid (fun W => within_is O3.out (b := r) (by rw [HR.out, h2, Bool.true_and]) W)
      clear h2 HR
      go_enter Try.func35, Try.ntmps35
      go_upto_region 1 with fail
      rw [HU.out]
      refine wp_region_new (by kernel_rfl) (by kernel_rfl) ?_
      repeat
        with_reducible refine wpQuiet_step (fun K hK => ?_)
        go_simp
        first
          | (with_reducible refine hK _ ?_; clear hK K)
          | (with_reducible refine if_no (by decide) ?_; with_reducible refine hK _ ?_; clear hK K)
          | (apply Exists.intro; refine ⟨fun _ => ?_, hK _ ?_⟩; (first | (go_at_call 56; exact new_same (procs_is _)) | (go_at_call 29; exact new_of (HH.out _)) | (go_at_call 30; exact new_same (HW.out _))); clear hK K)
      with_reducible refine wpQuiet_nil ?_
      rintro _ ⟨p, rfl⟩
      go_wp2_with fail
      go_ret
      exact ⟨rfl, HB.out.trans (p.b.mono HB.out.size)⟩

end Go.Proofs.Ytbmpeadoicjpnaa

/-
  Which of two entries stands first, as plain data; a log's box.
-/
namespace Go.Proofs.Ytbmpeadoicjpnaa
open Go.RowKit Go.Sort

theorem cmpZ_lt {a b : Int} : cmpZ a b < 0 ↔ a < b := by
  unfold cmpZ
  by_cases h1 : a < b
  · rw [if_pos h1]; exact ⟨fun _ => h1, fun _ => by decide⟩
  · rw [if_neg h1]
    by_cases h2 : b < a
    · rw [if_pos h2]; exact ⟨fun h => absurd h (by decide), fun h => absurd h h1⟩
    · rw [if_neg h2]; exact ⟨fun h => absurd h (by decide), fun h => absurd h h1⟩
theorem cmpZ_eq {a b : Int} : cmpZ a b = 0 ↔ a = b := by
  unfold cmpZ
  by_cases h1 : a < b
  · rw [if_pos h1]; exact ⟨fun h => absurd h (by decide), fun h => by omega⟩
  · rw [if_neg h1]
    by_cases h2 : b < a
    · rw [if_pos h2]; exact ⟨fun h => absurd h (by decide), fun h => by omega⟩
    · rw [if_neg h2]; exact ⟨fun _ => by omega, fun _ => rfl⟩
theorem ord_lt {x y : Le} : ordX x y < 0 ↔ aheadX x y = true := by
  rw [ahead_iff]
  unfold ordX orZ
  by_cases h : cmpZ x.f y.f = 0
  · rw [if_pos h, cmpZ_lt]
    have := cmpZ_eq.1 h
    omega
  · rw [if_neg h, cmpZ_lt]
    have : ¬ x.f = y.f := fun e => h (cmpZ_eq.2 e)
    omega
theorem ord_eq {x y : Le} : ordX x y = 0 ↔ x.f = y.f ∧ x.n = y.n := by
  unfold ordX orZ
  by_cases h : cmpZ x.f y.f = 0
  · rw [if_pos h, cmpZ_eq]
    have := cmpZ_eq.1 h
    omega
  · rw [if_neg h]
    have : ¬ x.f = y.f := fun e => h (cmpZ_eq.2 e)
    exact ⟨fun h2 => absurd h2 h, fun h2 => absurd h2.1 this⟩
theorem order_is {x y : Le} {o : Int} (ho : ordX x y = o) (W : World) :
    Calls Try.prog 39 #[xV x, xV y] W fun e w' => e = .returned (.int .i64 o) ∧ ∃ q os, w' = grow (W.drewN q) os := by
  rw [← ho]
  exact order_any x y W
theorem order_new {x y : Le} {o : Int} (ho : ordX x y = o) (W : World) :
    Calls Try.prog 39 #[xV x, xV y] W fun e w' => e = .returned (.int .i64 o) ∧ Below W.heap.size W w' :=
  (order_is ho W).mono fun _ _ ⟨he, q, os, hw⟩ => ⟨he, by rw [hw]; exact below_grow W q os⟩

/-- A log. -/
abbrev gV (a : Option Addr) (n cap : Nat) : Value := .agg #[.slice a n cap]
def gcE (a : Option Addr) (n cap : Nat) : Nat → Value := fun _ => .slice a n cap
theorem boxG (W : World) (a : Option Addr) (n cap : Nat) (t : TypeId) : Cel 1 (W.alloc (.cells #[.slice a n cap] t)) W.heap.size (gcE a n cap) :=
  (Cel.new W [.slice a n cap] t).conv (fun o ho => by rcases (show o = 0 by simp at ho; omega) with rfl; rfl)

end Go.Proofs.Ytbmpeadoicjpnaa

/-
  trim.Good.
-/
namespace Go.Proofs.Ytbmpeadoicjpnaa
open Go.RowKit Go.Sort

set_option maxRecDepth 20000 in
set_option maxHeartbeats 8000000 in
theorem tgood_any {A : Nat → Prop} {W : World} {a : Option Addr} {cap n : Nat} {l : List Le} (h : LgAt A W a cap n l) {r : Bool} (hr : goodL l = r) :
    Calls Try.prog 19 #[gV a n cap] W fun e w' => e = .returned (.bool r) ∧ Below W.heap.size W w' := by
  have hfit := h.fit
  unfold maxLen at hfit
  have L := Lib.hid h
  have HR := Lib.hid hr
  have LN := Lib.hid h.len
  clear h hr
  obtain ⟨U, hU⟩ : ∃ U, U = W.alloc (.cells #[.slice a n cap] 29) := ⟨_, rfl⟩
  have G0 := Lib.hid (show U.cell? ⟨W.heap.size, 0, none⟩ = some (.slice a n cap) from by rw [hU]; exact (boxG W a n cap _).c 0 (by decide))
  have g0 : U.cell? ⟨W.heap.size, 0, none⟩ = some (.slice a n cap) := G0.out
  have HB := Lib.hid (show Below W.heap.size W U from by rw [hU]; exact boxb W _)
  have HU := Lib.hid hU.symm
  clear hU
  go_enter Try.func19, Try.ntmps19
  go_upto_region 1 with fail
  rw [HU.out]
  go_wp2_with fail
  clear g0
  go_loopw [8] (fun i wr => ∃ k : Nat, k ≤ n ∧ i = .int .i64 (k : Nat) ∧ goodL (l.take k) = true ∧ Below U.heap.size U wr) (fun i _ => n - (intOf i).toNat)
  case atStart => exact ⟨0, Nat.zero_le _, rfl, goodL_nil, Below.refl _ _⟩
  case round =>
    obtain ⟨k, hk, rfl, hg, hb⟩ := hrel
    have B := Lib.hid hb
    have BW := Lib.hid (show Below W.heap.size W wr from HB.out.trans (hb.mono HB.out.size))
    have GK := Lib.hid hg
    clear hg hb
    by_cases hlt : k < n
    · have hkl : k < l.length := by rw [LN.out]; exact hlt
      obtain ⟨b, off, rfl, -, -, x0, x1, x2⟩ := (L.out.below BW.out).cell hlt
      have OX := Lib.hid (L.out.okAt hlt)
      have GT := Lib.hid (good_take hkl)
      have NO := Lib.hid (fun (h : goodL (l.take (k + 1)) = false) => show r = false from by rw [← HR.out]; exact good_not h)
      have i0 : (0 : Int) ≤ (k : Int) := by omega
      have i1 : (k : Int) < (n : Int) := by omega
      rw [GK.out, Bool.true_and] at GT
      by_cases hk0 : k = 0
      · have d0 : decide ((k : Int) > 0) = false := decide_eq_false (by omega)
        have d0' : decide (0 < k) = false := decide_eq_false (by omega)
        rw [decide_eq_true hk0, Bool.true_or, Bool.and_true] at GT
        clear hk0
        generalize l.getD k default = x at *
        generalize l.getD (k - 1) default = y at *
        obtain ⟨V, hV⟩ : ∃ V, V = wr.alloc (.cells #[.int .i64 x.f, .int .u64 (x.n : Int), .int .u64 (x.t : Int)] 26) := ⟨_, rfl⟩
        have C : Cel 3 V wr.heap.size (xcE x) := by rw [hV]; exact boxX wr x _
        have BV := Lib.hid (show Below U.heap.size U V from by rw [hV]; exact B.out.trans ((boxb wr _).mono B.out.size))
        have c0 : ∀ p : NewBy V, p.now.cell? ⟨wr.heap.size, 0, none⟩ = some (.int .i64 x.f) := new_cell (C.c 0 (by decide))
        have c1 : ∀ p : NewBy V, p.now.cell? ⟨wr.heap.size, 1, none⟩ = some (.int .u64 (x.n : Int)) := new_cell (C.c 1 (by decide))
        have c2 : ∀ p : NewBy V, p.now.cell? ⟨wr.heap.size, 2, none⟩ = some (.int .u64 (x.t : Int)) := new_cell (C.c 2 (by decide))
        have HV := Lib.hid hV.symm
        clear hV C
        cases hx : goodX x
        · have HG := Lib.hid (fun W => may_any OX.out hx W)
          obtain rfl : r = false := NO.out (by rw [GT.out, hx])
          clear hx
          go_upto_region 4 with fail
          rw [HV.out]
          refine wp_region_new (by kernel_rfl) (by kernel_rfl) ?_
          repeat
            with_reducible refine wpQuiet_step (fun K hK => ?_)
            go_simp
            first
              | (with_reducible refine hK _ ?_; clear hK K)
              | (with_reducible refine if_no (by decide) ?_; with_reducible refine hK _ ?_; clear hK K)
              | (apply Exists.intro; refine ⟨fun _ => ?_, hK _ ?_⟩; (first | (go_at_call 35; exact new_of (HG.out _))); clear hK K)
          with_reducible refine wpQuiet_nil ?_
          rintro _ ⟨p, rfl⟩
          go_wp2_with fail
          go_ret
          exact ⟨rfl, HB.out.trans ((BV.out.trans (p.b.mono BV.out.size)).mono HB.out.size)⟩
        · have HG := Lib.hid (fun W => may_any OX.out hx W)
          have R := Lib.hid (show goodL (l.take (k + 1)) = true by rw [GT.out, hx])
          clear hx
          go_upto_region 4 with fail
          rw [HV.out]
          refine wp_region_new (by kernel_rfl) (by kernel_rfl) ?_
          repeat
            with_reducible refine wpQuiet_step (fun K hK => ?_)
            go_simp
            first
              | (with_reducible refine hK _ ?_; clear hK K)
              | (with_reducible refine if_no (by decide) ?_; with_reducible refine hK _ ?_; clear hK K)
              | (apply Exists.intro; refine ⟨fun _ => ?_, hK _ ?_⟩; (first | (go_at_call 35; exact new_of (HG.out _))); clear hK K)
          with_reducible refine wpQuiet_nil ?_
          rintro _ ⟨p, rfl⟩
          go_wp2_with fail
          go_roundw
          case rel => exact ⟨k + 1, by omega, by go_num, R.out, BV.out.trans (p.b.mono BV.out.size)⟩
          case measure => simp only [intOf]; omega
      · obtain ⟨j, hj⟩ : ∃ j, j = k - 1 := ⟨_, rfl⟩
        have hjn : j < n := by omega
        obtain ⟨b', off', eb, -, -, y0, y1, y2⟩ := (L.out.below BW.out).cell hjn
        cases eb
        have d0 : decide ((k : Int) > 0) = true := decide_eq_true (by omega)
        have d0' : decide (0 < k) = true := decide_eq_true (by omega)
        have hsub : IntKind.i64.wrap ((k : Int) - 1) = (j : Int) := by rw [IntKind.wrap_i64]; omega
        have j0 : (0 : Int) ≤ (j : Int) := by omega
        have j1 : (j : Int) < (n : Int) := by omega
        rw [decide_eq_false hk0, Bool.false_or, ← hj] at GT
        clear hk0 hj
        generalize l.getD k default = x at *
        generalize l.getD j default = y at *
        obtain ⟨V, hV⟩ : ∃ V, V = wr.alloc (.cells #[.int .i64 x.f, .int .u64 (x.n : Int), .int .u64 (x.t : Int)] 26) := ⟨_, rfl⟩
        have C : Cel 3 V wr.heap.size (xcE x) := by rw [hV]; exact boxX wr x _
        have bV : Below wr.heap.size wr V := by rw [hV]; exact boxb wr _
        have BV := Lib.hid (show Below U.heap.size U V from B.out.trans (bV.mono B.out.size))
        have c0 : ∀ p : NewBy V, p.now.cell? ⟨wr.heap.size, 0, none⟩ = some (.int .i64 x.f) := new_cell (C.c 0 (by decide))
        have c1 : ∀ p : NewBy V, p.now.cell? ⟨wr.heap.size, 1, none⟩ = some (.int .u64 (x.n : Int)) := new_cell (C.c 1 (by decide))
        have c2 : ∀ p : NewBy V, p.now.cell? ⟨wr.heap.size, 2, none⟩ = some (.int .u64 (x.t : Int)) := new_cell (C.c 2 (by decide))
        have v0 : ∀ p : NewBy V, p.now.cell? ⟨b, off + j * 3, none⟩ = some (.int .i64 y.f) := new_cell (cell_go y0 bV)
        have v1 : ∀ p : NewBy V, p.now.cell? ⟨b, off + j * 3 + 1, none⟩ = some (.int .u64 (y.n : Int)) := new_cell (cell_go y1 bV)
        have v2 : ∀ p : NewBy V, p.now.cell? ⟨b, off + j * 3 + 2, none⟩ = some (.int .u64 (y.t : Int)) := new_cell (cell_go y2 bV)
        have gg : ∀ p : NewBy V, p.now.cell? ⟨W.heap.size, 0, none⟩ = some (.slice (some ⟨b, off, none⟩) n cap) := new_cell (cell_go G0.out BV.out)
        have HV := Lib.hid hV.symm
        clear hV C bV y0 y1 y2
        cases hx : goodX x
        · have HG := Lib.hid (fun W => may_any OX.out hx W)
          obtain rfl : r = false := NO.out (by rw [GT.out, hx]; rfl)
          clear hx
          go_upto_region 4 with fail
          rw [HV.out]
          refine wp_region_new (by kernel_rfl) (by kernel_rfl) ?_
          repeat
            with_reducible refine wpQuiet_step (fun K hK => ?_)
            go_simp
            first
              | (with_reducible refine hK _ ?_; clear hK K)
              | (with_reducible refine if_no (by decide) ?_; with_reducible refine hK _ ?_; clear hK K)
              | (apply Exists.intro; refine ⟨fun _ => ?_, hK _ ?_⟩; (first | (go_at_call 35; exact new_of (HG.out _))); clear hK K)
          with_reducible refine wpQuiet_nil ?_
          rintro _ ⟨p, rfl⟩
          go_wp2_with fail
          go_ret
          exact ⟨rfl, HB.out.trans ((BV.out.trans (p.b.mono BV.out.size)).mono HB.out.size)⟩
        · have HG := Lib.hid (fun W => may_any OX.out hx W)
          rw [hx, Bool.true_and] at GT
          clear hx
          obtain ⟨o, ho⟩ : ∃ o, ordX y x = o := ⟨_, rfl⟩
          have HO := Lib.hid (fun W => order_new ho W)
          by_cases hlo : o < 0
          · have dO : decide (o ≥ 0) = false := decide_eq_false (by omega)
            have ha : aheadX y x = true := ord_lt.1 (by rw [ho]; exact hlo)
            have R := Lib.hid (show goodL (l.take (k + 1)) = true by rw [GT.out, ha])
            clear hlo ho ha
            go_upto_region 4 with fail
            rw [HV.out]
            refine wp_region_new (by kernel_rfl) (by kernel_rfl) ?_
            repeat
              with_reducible refine wpQuiet_step (fun K hK => ?_)
              go_simp
              first
                | (with_reducible refine hK _ ?_; clear hK K)
                | (with_reducible refine if_no (by decide) ?_; with_reducible refine hK _ ?_; clear hK K)
                | (apply Exists.intro; refine ⟨fun _ => ?_, hK _ ?_⟩; (first | (go_at_call 35; exact new_of (HG.out _)) | (go_at_call 39; exact new_of (HO.out _))); clear hK K)
            with_reducible refine wpQuiet_nil ?_
            rintro _ ⟨p, rfl⟩
            go_wp2_with fail
            go_roundw
            case rel => exact ⟨k + 1, by omega, by go_num, R.out, BV.out.trans (p.b.mono BV.out.size)⟩
            case measure => simp only [intOf]; omega
          · have dO : decide (o ≥ 0) = true := decide_eq_true (by omega)
            have ha : aheadX y x = false := by
              rw [Bool.eq_false_iff]; intro h2; exact hlo (by rw [← ho]; exact ord_lt.2 h2)
            obtain rfl : r = false := NO.out (by rw [GT.out, ha])
            clear hlo ho ha
            go_upto_region 4 with fail
            rw [HV.out]
            refine wp_region_new (by kernel_rfl) (by kernel_rfl) ?_
            repeat
              with_reducible refine wpQuiet_step (fun K hK => ?_)
              go_simp
              first
                | (with_reducible refine hK _ ?_; clear hK K)
                | (with_reducible refine if_no (by decide) ?_; with_reducible refine hK _ ?_; clear hK K)
                | (apply Exists.intro; refine ⟨fun _ => ?_, hK _ ?_⟩; (first | (go_at_call 35; exact new_of (HG.out _)) | (go_at_call 39; exact new_of (HO.out _))); clear hK K)
            with_reducible refine wpQuiet_nil ?_
            rintro _ ⟨p, rfl⟩
            go_wp2_with fail
            go_ret
            exact ⟨rfl, HB.out.trans ((BV.out.trans (p.b.mono BV.out.size)).mono HB.out.size)⟩
    · have R := Lib.hid (show r = true from by rw [← HR.out]; exact good_all (by rw [LN.out]; omega) GK.out)
      obtain rfl := R.out
      go_wp2_with fail
      go_ret
      exact ⟨rfl, BW.out⟩

end Go.Proofs.Ytbmpeadoicjpnaa
