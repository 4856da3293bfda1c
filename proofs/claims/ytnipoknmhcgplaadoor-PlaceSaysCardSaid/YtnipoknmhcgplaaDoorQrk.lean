/-
  The document's own: who keeps what, who may send to whom.
-/
import Derived.Test.YtnipoknmhcgplaaDoorQrb
import Derived.Test.YtnipoknmhcgplaaDoorQrg
namespace Go.Proofs.YtnipoknmhcgplaaDoor
open Go.RowKit
attribute [local go_sem ↓] Go.wp_at_zero Go.wp_at_succ

theorem rgood_any (c : Cfg) (ao : Option Addr) (cap : Nat) (W : World) (hs : SlV W ao cap (c.vs.map uV)) (hk : CfgOk c) :
    Calls Tryd.prog 14 #[.agg (cfgA c ao cap)] W fun e w' => e = .returned (.bool (goodC c)) ∧ Below W.heap.size W w' := by
  by_cases hn : (1 ≤ c.n ∧ c.n ≤ 16) ∧ c.vs.length ≤ 16 ∧ (1 ≤ c.win ∧ c.win ≤ 16) ∧ (2 ≤ c.que ∧ c.que ≤ 32) ∧ (1 ≤ c.fst ∧ c.fst ≤ c.mst) ∧ c.mst ≤ 1000 ∧ (0 ≤ c.bod ∧ c.bod ≤ 256) ∧ (c.eng = 1 ∨ c.eng = 2)
  · exact rgood_ok c ao cap W hs hk hn
  · exact rgood_bad c ao cap W hs hk hn
theorem rgood_is {c : Cfg} {ao : Option Addr} {cap : Nat} {r : Bool} {W : World} (hs : SlV W ao cap (c.vs.map uV)) (hk : CfgOk c) (h : goodC c = r) :
    Calls Tryd.prog 14 #[.agg (cfgA c ao cap)] W fun e w' => e = .returned (.bool r) ∧ Below W.heap.size W w' := by
  subst h; exact rgood_any c ao cap W hs hk

theorem in_has {s t : Nat} {p : Int} (ht : t < 18446744073709551616) (h : inN s t = true) (hp : hasN s p = true) : hasN t p = true := by
  unfold hasN at *
  rw [Bool.and_eq_true, decide_eq_true_eq] at *
  refine ⟨hp.1, ?_⟩
  have hb : ∀ i, i < 64 → (s &&& (18446744073709551615 - t)).testBit i = (s.testBit i && !t.testBit i) := fun i hi => by
    rw [Nat.testBit_and]
    congr 1
    have := Nat.testBit_two_pow_sub_succ (n := 64) (x := t) ht i
    rw [show (2 : Nat) ^ 64 - (t + 1) = 18446744073709551615 - t by omega] at this
    rw [this]
    simp [hi]
  have h1 := hb p.toNat (by omega)
  unfold inN at h
  rw [decide_eq_true_eq] at h
  rw [h, hp.2] at h1
  simpa using h1
theorem all_has' {n p : Int} (h : hasN (allN n) p = true) : p < n := by
  unfold hasN at h
  rw [Bool.and_eq_true, decide_eq_true_eq, all_test, decide_eq_true_eq] at h
  omega
theorem some_has {c : Cfg} {p : Int} {s : Nat} (h : someN s c.n = true) (hp : hasN s p = true) : 0 ≤ p ∧ p < c.n := by
  unfold someN at h
  rw [Bool.and_eq_true] at h
  have h1 := all_has' (in_has (allN_lt c.n) h.2 hp)
  unfold hasN at hp
  rw [Bool.and_eq_true, decide_eq_true_eq] at hp
  exact ⟨hp.1.1, h1⟩
theorem keep_out {c : Cfg} {p v : Int} (hg : goodC c = true) (h : ¬ (0 ≤ p ∧ p < c.n) ∨ ¬ (0 ≤ v ∧ v < c.vs.length)) : hasN (keepC c v) p = false := by
  cases hh : hasN (keepC c v) p with
  | false => rfl
  | true =>
    by_cases h0 : keepC c v = 0
    · rw [h0] at hh; unfold hasN at hh; simp at hh
    · unfold keepC at hh h0
      by_cases hb : (goodC c && btw 0 v (c.vs.length - 1)) = true
      · rw [if_pos hb] at hh
        rw [Bool.and_eq_true] at hb
        have h2 := btw_true hb.2
        have hlt : v.toNat < c.vs.length := by omega
        have e : c.vs.getD v.toNat 0 = c.vs[v.toNat] := by simp [hlt]
        rw [e] at hh
        have hm := List.getElem_mem hlt
        have := some_has (good_vs hg _ hm) hh
        omega
      · rw [if_neg hb] at h0
        exact absurd rfl h0

set_option maxRecDepth 20000 in
set_option maxHeartbeats 8000000 in
theorem rkeeps_any (c : Cfg) (ao : Option Addr) (cap : Nat) (p v : Int) (W : World) (hs : SlV W ao cap (c.vs.map uV)) (hk : CfgOk c) (hp : IntOk p) (hv : IntOk v) :
    Calls Tryd.prog 15 #[.agg (cfgA c ao cap), .int .i64 p, .int .i64 v] W fun e w' => e = .returned (.bool (hasN (keepC c v) p)) ∧ Below W.heap.size W w' := by
  have hmax := hs.max
  have hfit := hs.fit
  unfold maxLen at hmax
  rw [List.length_map] at hfit
  have B1 := below_alloc (Below.refl _ W) (.cells (cfgA c ao cap) 37)
  have X1 : Hid (Bun W W.heap.size W.heap.size c ao cap (W.alloc (.cells (cfgA c ao cap) 37))) := Lib.hid ⟨B1, B1.size, boxed_new W c ao cap _, hs.below B1⟩
  have O := Lib.hid hk
  have P := Lib.hid hp
  have V := Lib.hid hv
  have KO := Lib.hid (fun hg h => keep_out (c := c) (p := p) (v := v) hg h)
  clear hs hk B1 hp hv
  go_enter Tryd.func15, Tryd.ntmps15
  obtain ⟨r1, e1⟩ : ∃ r, goodC c = r := ⟨_, rfl⟩
  have R1 := Lib.hid e1
  clear e1
  go_wp2_with fail
  refine (rgood_is X1.out.sl O.out R1.out).mono ?_
  rintro e w2 ⟨rfl, hb⟩
  have X2 := Bun.of hb X1
  clear hb X1
  obtain ⟨k0, k1, k2, k3, k4, k5, k6, k7⟩ := X2.out.bx
  cases r1
  · go_wp2_with fail
    go_ret
    exact ⟨by rw [show hasN (keepC c v) p = false by rw [show keepC c v = 0 by unfold keepC; simp [R1.out]]; unfold hasN; simp]; rfl, X2.out.be⟩
  by_cases p0 : p < 0
  case pos =>
    have R := Lib.hid (KO.out R1.out (by omega))
    go_wp2_with fail
    go_ret
    exact ⟨by rw [R.out]; rfl, X2.out.be⟩
  by_cases p1 : c.n ≤ p
  case pos =>
    have R := Lib.hid (KO.out R1.out (by omega))
    have d : decide (p < c.n) = false := decide_eq_false (by omega)
    go_wp2_with fail
    go_ret
    exact ⟨by rw [R.out]; rfl, X2.out.be⟩
  by_cases v0 : v < 0
  case pos =>
    have R := Lib.hid (KO.out R1.out (by omega))
    go_wp2_with fail
    go_ret
    exact ⟨by rw [R.out]; rfl, X2.out.be⟩
  by_cases v1 : (c.vs.length : Int) ≤ v
  case pos =>
    have R := Lib.hid (KO.out R1.out (by omega))
    have d : decide (v < (c.vs.length : Int)) = false := decide_eq_false (by omega)
    go_wp2_with fail
    go_ret
    exact ⟨by rw [R.out]; rfl, X2.out.be⟩
  obtain ⟨k, rfl⟩ : ∃ k : Nat, v = (k : Int) := ⟨v.toNat, by omega⟩
  have hlt : k < c.vs.length := by omega
  obtain ⟨b, off, e, _, hc⟩ := X2.out.sl.at k hlt
  subst e
  have K := Lib.hid (show keepC c (k : Int) = c.vs[k] by unfold keepC btw; simp [R1.out, hlt]; omega)
  have kk : w2.cell? ⟨b, off + k, none⟩ = some (.int .u64 (c.vs[k] : Nat)) := hc
  have L := Lib.hid (O.out.vs c.vs[k] (List.getElem_mem hlt))
  clear hc
  generalize c.vs[k] = x at *
  go_wp2_with fail
  refine (in_any x p _ L.out P.out).mono ?_
  rintro e w' ⟨rfl, rfl⟩
  go_wp2_with fail
  go_ret
  exact ⟨by rw [K.out]; rfl, X2.out.be⟩

theorem rkeeps_is {c : Cfg} {ao : Option Addr} {cap : Nat} {p v : Int} {r : Bool} {W : World} (hs : SlV W ao cap (c.vs.map uV)) (hk : CfgOk c) (hp : IntOk p) (hv : IntOk v) (h : hasN (keepC c v) p = r) :
    Calls Tryd.prog 15 #[.agg (cfgA c ao cap), .int .i64 p, .int .i64 v] W fun e w' => e = .returned (.bool r) ∧ Below W.heap.size W w' := by
  subst h; exact rkeeps_any c ao cap p v W hs hk hp hv

set_option maxRecDepth 20000 in
set_option maxHeartbeats 8000000 in
theorem rmay_any (c : Cfg) (ao : Option Addr) (cap : Nat) (p : Int) (to : Nat) (W : World) (hs : SlV W ao cap (c.vs.map uV)) (hk : CfgOk c) (hp : IntOk p) (ht : to < 18446744073709551616) :
    Calls Tryd.prog 16 #[.agg (cfgA c ao cap), .int .i64 p, .int .u64 (to : Nat)] W fun e w' => e = .returned (.bool (mayC c p to)) ∧ Below W.heap.size W w' := by
  have B1 := below_alloc (Below.refl _ W) (.cells (cfgA c ao cap) 37)
  have X1 : Hid (Bun W W.heap.size W.heap.size c ao cap (W.alloc (.cells (cfgA c ao cap) 37))) := Lib.hid ⟨B1, B1.size, boxed_new W c ao cap _, hs.below B1⟩
  have O := Lib.hid hk
  have P := Lib.hid hp
  have T := Lib.hid ht
  have e2 := or_neg_nat to (allN c.n) ht (allN_lt c.n)
  have M := Lib.hid (show mayC c p to = (goodC c && btw 0 p (c.n - 1) && (decide (to ≠ 0) && decide (to &&& (18446744073709551615 - allN c.n) = 0)) && !hasN to p) from rfl)
  clear hs hk B1 hp ht
  generalize to &&& (18446744073709551615 - allN c.n) = y at *
  go_enter Tryd.func16, Tryd.ntmps16
  obtain ⟨r1, e1⟩ : ∃ r, goodC c = r := ⟨_, rfl⟩
  have R1 := Lib.hid e1
  clear e1
  go_wp2_with fail
  refine (rgood_is X1.out.sl O.out R1.out).mono ?_
  rintro e w2 ⟨rfl, hb⟩
  have X2 := Bun.of hb X1
  clear hb X1
  obtain ⟨k0, k1, k2, k3, k4, k5, k6, k7⟩ := X2.out.bx
  cases r1
  · go_wp2_with fail
    go_ret
    exact ⟨by rw [show mayC c p to = false by rw [M.out, R1.out]; rfl]; rfl, X2.out.be⟩
  by_cases p0 : p < 0
  case pos =>
    have R := Lib.hid (show mayC c p to = false by rw [M.out, show btw 0 p (c.n - 1) = false by unfold btw; simp; omega]; simp)
    go_wp2_with fail
    go_ret
    exact ⟨by rw [R.out]; rfl, X2.out.be⟩
  by_cases p1 : c.n ≤ p
  case pos =>
    have R := Lib.hid (show mayC c p to = false by rw [M.out, show btw 0 p (c.n - 1) = false by unfold btw; simp; omega]; simp)
    have d : decide (p < c.n) = false := decide_eq_false (by omega)
    go_wp2_with fail
    go_ret
    exact ⟨by rw [R.out]; rfl, X2.out.be⟩
  have M2 := Lib.hid (show mayC c p to = ((decide (to ≠ 0) && decide (y = 0)) && !hasN to p) by rw [M.out, R1.out, show btw 0 p (c.n - 1) = true by unfold btw; simp; omega]; rfl)
  clear M
  by_cases t0 : to = 0
  case pos =>
    have R := Lib.hid (show mayC c p to = false by rw [M2.out]; simp [t0])
    have d : ((to : Int) != 0) = false := by rw [ne_word]; simp [t0]
    clear t0
    go_wp2_with fail
    go_ret
    exact ⟨by rw [R.out]; rfl, X2.out.be⟩
  have d : ((to : Int) != 0) = true := by rw [ne_word]; simp [t0]
  have M3 := Lib.hid (show mayC c p to = (decide (y = 0) && !hasN to p) by rw [M2.out]; simp [t0])
  clear t0 M2
  go_wp2_with fail
  refine (rallOf_any c.n _ O.out.n).mono ?_
  rintro e w' ⟨rfl, rfl⟩
  by_cases y0 : y = 0
  case neg =>
    have R := Lib.hid (show mayC c p to = false by rw [M3.out]; simp [y0])
    have d1 : ((y : Int) == 0) = false := by rw [eq_word]; exact decide_eq_false y0
    clear y0
    go_wp2_with fail
    go_ret
    exact ⟨by rw [R.out]; rfl, X2.out.be⟩
  have R := Lib.hid (show mayC c p to = !hasN to p by rw [M3.out]; simp [y0])
  have d1 : ((y : Int) == 0) = true := by rw [eq_word]; exact decide_eq_true y0
  clear y0
  go_wp2_with fail
  refine (in_any to p _ T.out P.out).mono ?_
  rintro e w' ⟨rfl, rfl⟩
  go_wp2_with fail
  go_ret
  exact ⟨by rw [R.out]; rfl, X2.out.be⟩

theorem rmay_is {c : Cfg} {ao : Option Addr} {cap : Nat} {p : Int} {to : Nat} {r : Bool} {W : World} (hs : SlV W ao cap (c.vs.map uV)) (hk : CfgOk c) (hp : IntOk p) (ht : to < 18446744073709551616) (h : mayC c p to = r) :
    Calls Tryd.prog 16 #[.agg (cfgA c ao cap), .int .i64 p, .int .u64 (to : Nat)] W fun e w' => e = .returned (.bool r) ∧ Below W.heap.size W w' := by
  subst h; exact rmay_any c ao cap p to W hs hk hp ht

end Go.Proofs.YtnipoknmhcgplaaDoor
