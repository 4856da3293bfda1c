/-
  Who may send to a set may send to any part of it: the walk of the statement PlaceMay.
-/
import Derived.Test.YtnipoknmhcgplaaQaw
import Derived.Deep.RegionWith
import Derived.Deep.DrawnRows
namespace Go.Proofs.Ytnipoknmhcgplaa
open Go.RowKit
attribute [local go_sem ↓] Go.wp_at_zero Go.wp_at_succ

theorem has_part (s t : Nat) (p : Int) : hasN (s &&& t) p = (hasN s p && hasN t p) := by
  unfold hasN
  rw [Nat.testBit_and]
  cases decide (0 ≤ p ∧ p < 64) <;> simp
theorem some_part {s u : Nat} {n : Int} (h : someN s n = true) (h0 : s &&& u ≠ 0) : someN (s &&& u) n = true := by
  unfold someN inN at *
  rw [Bool.and_eq_true, decide_eq_true_eq, decide_eq_true_eq] at *
  refine ⟨h0, ?_⟩
  rw [show s &&& u &&& (18446744073709551615 - allN n) = s &&& (18446744073709551615 - allN n) &&& u by rw [Nat.and_assoc, Nat.and_comm u, ← Nat.and_assoc], h.2, Nat.zero_and]
theorem may_part {c : Cfg} {p : Int} {s u : Nat} (h : mayC c p s = true) (h0 : s &&& u ≠ 0) : mayC c p (s &&& u) = true := by
  unfold mayC at *
  simp only [Bool.and_eq_true, Bool.not_eq_true'] at *
  exact ⟨⟨h.1.1, some_part h.1.2 h0⟩, by rw [has_part, h.2]; rfl⟩
theorem may_self {c : Cfg} {p : Int} {s : Nat} : mayC c p (s ||| bitN p) = false := by
  cases hg : goodC c with
  | false => unfold mayC; rw [hg]; rfl
  | true =>
    have hn := good_n hg
    unfold mayC
    by_cases hb : btw 0 p (c.n - 1) = true
    · have := btw_true hb
      have hh : hasN (s ||| bitN p) p = true := by
        unfold hasN
        rw [Nat.testBit_or, bit_test, decide_eq_true (by omega : 0 ≤ p ∧ p < 64)]
        simp
        omega
      rw [hh]; simp
    · rw [Bool.not_eq_true] at hb
      rw [hb]; simp

theorem of_at {p : Int} {b : Nat} {w W : World} (hW : w.alloc (.cells #[.int .i64 p] 3) = W) (hb : w.heap.size = b) (hp : IntOk p) :
    Calls Try.prog 11 #[.slice (some ⟨b, 0, none⟩) 1 1] W fun e w' => e = .returned (.int .u64 (bitN p : Nat)) ∧ W = w' := by
  subst hW hb
  exact of_one p w hp
theorem of_atd {p : Int} {b : Nat} {w W : World} (hW : (w.alloc (.cells #[.int .i64 p] 3)).drew = W) (hb : w.heap.size = b) (hp : IntOk p) :
    Calls Try.prog 11 #[.slice (some ⟨b, 0, none⟩) 1 1] W fun e w' => e = .returned (.int .u64 (bitN p : Nat)) ∧ W = w' := by
  subst hW hb
  exact of_end (xs := [p]) ((slv_lit w [iV p] _ _ 1 rfl rfl (by unfold maxLen; omega)).below (drew_below _)) (by simpa using hp) rfl (by simp [ofN])
theorem Bun.cells {W w : World} {N B : Nat} {c : Cfg} {ao : Option Addr} {cap : Nat} (h : Hid (Bun W N B c ao cap w)) :
    w.cell? ⟨B, 0, none⟩ = some (.int .i64 c.n) ∧ w.cell? ⟨B, 1, none⟩ = some (.slice ao c.vs.length cap) ∧ w.cell? ⟨B, 2, none⟩ = some (.int .i64 c.win) ∧ w.cell? ⟨B, 3, none⟩ = some (.int .i64 c.que) ∧
      w.cell? ⟨B, 4, none⟩ = some (.int .i64 c.fst) ∧ w.cell? ⟨B, 5, none⟩ = some (.int .i64 c.mst) ∧ w.cell? ⟨B, 6, none⟩ = some (.int .i64 c.bod) ∧ w.cell? ⟨B, 7, none⟩ = some (.int .i64 c.eng) ∧ Hid (Bun W N B c ao cap w) :=
  ⟨h.out.bx.c0, h.out.bx.c1, h.out.bx.c2, h.out.bx.c3, h.out.bx.c4, h.out.bx.c5, h.out.bx.c6, h.out.bx.c7, h⟩

set_option maxRecDepth 20000 in
set_option maxHeartbeats 16000000 in
theorem law_PlaceMay (c : Cfg) (ao : Option Addr) (cap : Nat) (p : Int) (to part : Nat) (W : World) (hs : SlV W ao cap (c.vs.map uV)) (hk : CfgOk c) (hp : IntOk p) (ht : to < 18446744073709551616) (hr : part < 18446744073709551616) :
    Calls Try.prog 4 #[.agg (cfgA c ao cap), .int .i64 p, .int .u64 (to : Nat), .int .u64 (part : Nat)] W (OkPost W) := by
  have hmax := hs.max
  have hfit := hs.fit
  unfold maxLen at hmax
  rw [List.length_map] at hfit
  have B1 := below_alloc (Below.refl _ W) (.cells (cfgA c ao cap) 25)
  have X1 : Hid (Bun W W.heap.size W.heap.size c ao cap (W.alloc (.cells (cfgA c ao cap) 25))) := Lib.hid ⟨B1, B1.size, boxed_new W c ao cap _, hs.below B1⟩
  have P := Lib.hid hp
  have T := Lib.hid ht
  have O := Lib.hid hk
  have e1 : bits .and .u64 (to : Int) (part : Int) = ((to &&& part : Nat) : Int) := u64_and_nat to part ht hr
  have e2 : bits .or .u64 (to : Int) (bitN p : Int) = ((to ||| bitN p : Nat) : Int) := or_bit p ht
  have T2 := Lib.hid (and_lt (b := part) ht)
  have T3 := Lib.hid (or_lt ht (bitN_lt p))
  have M3 := Lib.hid (may_self (c := c) (p := p) (s := to))
  have MP := Lib.hid (fun (h : mayC c p to = true) (h0 : to &&& part ≠ 0) => may_part h h0)
  clear hs hk hp ht hr B1
  generalize to &&& part = t at *
  generalize to ||| bitN p = u at *
  go_enter Try.func4, Try.ntmps4
  go_wp2_with fail
  generalize W.alloc (.cells (cfgA c ao cap) 25) = w0 at X1 ⊢
  refine (awake_any _).mono ?_
  rintro e w1 ⟨rfl, hb⟩
  have X2 := Bun.of hb X1
  obtain ⟨k0, k1, k2, k3, k4, k5, k6, k7⟩ := X2.out.bx
  clear hb X1
  by_cases hl : 30 < c.vs.length
  · go_wp2_with fail
    go_ret
    exact ⟨rfl, X2.out.be⟩
  go_wp2_with fail
  obtain ⟨r, hr⟩ : ∃ r, mayC c p to = r := ⟨_, rfl⟩
  have R := Lib.hid hr
  clear hr
  refine (may_is X2.out.sl O.out P.out T.out R.out).mono ?_
  rintro e w2 ⟨rfl, hb⟩
  have X3 := Bun.of hb X2
  clear hb X2 k0 k1 k2 k3 k4 k5 k6 k7
  obtain ⟨k0, k1, k2, k3, k4, k5, k6, k7⟩ := X3.out.bx
  have way : r = false ∨ (r = true ∧ t < 1) ∨ (r = true ∧ 1 ≤ t) := by
    cases r
    · exact .inl rfl
    · by_cases h0 : t < 1
      · exact .inr (.inl ⟨rfl, h0⟩)
      · exact .inr (.inr ⟨rfl, by omega⟩)
  rcases way with rfl | ⟨rfl, h0⟩ | ⟨rfl, h0⟩
  · go_wp2_with fail
    clear k0 k1 k2 k3 k4 k5 k6 k7
    have X5 := Bun.drew (Bun.alloc (o := .cells #[.int .i64 p] 3) X3)
    obtain ⟨k0, k1, k2, k3, k4, k5, k6, k7⟩ := X3.out.bx
    obtain ⟨j0, j1, j2, j3, j4, j5, j6, j7⟩ := X5.out.bx
    first
    | (go_region_with (first
      | (go_at_call 11; refine (of_atd rfl rfl P.out).mono ?_; rintro e w' ⟨rfl, rfl⟩)
      | (go_at_call 9; refine (may_is (c := c) X5.out.sl O.out P.out T3.out M3.out).mono ?_; rintro e w' ⟨rfl, hb⟩; have X6 := Bun.of hb X5)))
    | fail
    all_goals
      go_wp2_with fail
      go_ret
      exact ⟨rfl, X6.out.be⟩
  · have d0 : ((t : Int) != 0) = false := by rw [ne_word]; simp; omega
    go_wp2_with fail
    clear k0 k1 k2 k3 k4 k5 k6 k7
    have X5 := Bun.drew (Bun.alloc (o := .cells #[.int .i64 p] 3) X3)
    obtain ⟨k0, k1, k2, k3, k4, k5, k6, k7⟩ := X3.out.bx
    obtain ⟨j0, j1, j2, j3, j4, j5, j6, j7⟩ := X5.out.bx
    first
    | (go_region_with (first
      | (go_at_call 11; refine (of_atd rfl rfl P.out).mono ?_; rintro e w' ⟨rfl, rfl⟩)
      | (go_at_call 9; refine (may_is (c := c) X5.out.sl O.out P.out T3.out M3.out).mono ?_; rintro e w' ⟨rfl, hb⟩; have X6 := Bun.of hb X5)))
    | fail
    all_goals
      go_wp2_with fail
      go_ret
      exact ⟨rfl, X6.out.be⟩
  · have d0 : ((t : Int) != 0) = true := by rw [ne_word]; simp; omega
    have M4 := Lib.hid (MP.out R.out (by omega))
    go_wp2_with fail
    refine (may_is X3.out.sl O.out P.out T2.out M4.out).mono ?_
    rintro e w3 ⟨rfl, hb⟩
    have X4 := Bun.of hb X3
    clear hb X3
    go_wp2_with fail
    clear k0 k1 k2 k3 k4 k5 k6 k7
    have X5 := Bun.drew (Bun.alloc (o := .cells #[.int .i64 p] 3) X4)
    obtain ⟨k0, k1, k2, k3, k4, k5, k6, k7⟩ := X4.out.bx
    obtain ⟨j0, j1, j2, j3, j4, j5, j6, j7⟩ := X5.out.bx
    first
    | (go_region_with (first
      | (go_at_call 11; refine (of_atd rfl rfl P.out).mono ?_; rintro e w' ⟨rfl, rfl⟩)
      | (go_at_call 9; refine (may_is (c := c) X5.out.sl O.out P.out T3.out M3.out).mono ?_; rintro e w' ⟨rfl, hb⟩; have X6 := Bun.of hb X5)))
    | fail
    all_goals
      go_wp2_with fail
      go_ret
      exact ⟨rfl, X6.out.be⟩

end Go.Proofs.Ytnipoknmhcgplaa
