/-
  The document's own: the first that keeps a variable; a config as the document's own.
-/
import Derived.Test.YtnipoknmhcgplaaDoorQrk
namespace Go.Proofs.YtnipoknmhcgplaaDoor
open Go.RowKit
attribute [local go_sem ↓] Go.wp_at_zero Go.wp_at_succ

theorem first_is {s k : Nat} (hs : s < 18446744073709551616) (hk : k < 64) (h : hasN s (k : Int) = true) (hn : ∀ i : Nat, i < k → hasN s (i : Int) = false) : (firstN s = k) ∧ s ≠ 0 := by
  have h0 : s ≠ 0 := fun e => by subst e; unfold hasN at h; simp at h
  refine ⟨?_, h0⟩
  obtain ⟨f1, f2, f3⟩ := first_bit hs h0
  rw [hasN_nat hk] at h
  rcases Nat.lt_trichotomy (firstN s) k with h1 | h1 | h1
  · have := hn (firstN s) h1
    rw [hasN_nat f2, f1] at this
    cases this
  · exact h1
  · rw [f3 k h1] at h
    cases h
theorem none_is {c : Cfg} {v : Int} (hk : CfgOk c) (hn : ∀ i : Nat, i < 16 → hasN (keepC c v) (i : Int) = false) : keepC c v = 0 := by
  by_cases h0 : keepC c v = 0
  · exact h0
  · exfalso
    obtain ⟨f1, f2, _⟩ := first_bit (keepC_lt (v := v) hk) h0
    have hh : hasN (keepC c v) (firstN (keepC c v) : Int) = true := by rw [hasN_nat f2]; exact f1
    have hg : goodC c = true := by
      cases hg : goodC c with
      | true => rfl
      | false => exact absurd (by unfold keepC; simp [hg]) h0
    have hn16 := (good_n hg).2
    by_cases hlt : firstN (keepC c v) < 16
    · rw [hn _ hlt] at hh
      cases hh
    · rw [keep_out hg (Or.inl (by omega))] at hh
      cases hh

def KRel (W : World) (N B : Nat) (c : Cfg) (ao : Option Addr) (cap : Nat) (v : Int) (i : Value) (wr : World) : Prop :=
  ∃ k : Nat, k ≤ 16 ∧ i = .int .i64 (k : Nat) ∧ Hid (∀ j : Nat, j < k → hasN (keepC c v) (j : Int) = false) ∧ Hid (Bun W N B c ao cap wr)

set_option maxRecDepth 20000 in
set_option maxHeartbeats 8000000 in
theorem rkeeper_any (c : Cfg) (ao : Option Addr) (cap : Nat) (v : Int) (W : World) (hs : SlV W ao cap (c.vs.map uV)) (hk : CfgOk c) (hv : IntOk v) :
    Calls Tryd.prog 13 #[.agg (cfgA c ao cap), .int .i64 v] W fun e w' => e = .returned (.tuple #[.int .i64 (firstN (keepC c v) : Nat), .bool (!decide (keepC c v = 0))]) ∧ Below W.heap.size W w' := by
  have B1 := below_alloc (Below.refl _ W) (.cells (cfgA c ao cap) 37)
  have X1 : Hid (Bun W W.heap.size W.heap.size c ao cap (W.alloc (.cells (cfgA c ao cap) 37))) := Lib.hid ⟨B1, B1.size, boxed_new W c ao cap _, hs.below B1⟩
  have O := Lib.hid hk
  have V := Lib.hid hv
  clear hs hk B1 hv
  go_enter Tryd.func13, Tryd.ntmps13
  go_wp2_with fail
  generalize W.alloc (.cells (cfgA c ao cap) 37) = w1 at X1 ⊢
  go_loopw [6] (fun i wr => KRel W W.heap.size W.heap.size c ao cap v i wr) (fun i _ => 16 - (intOf i).toNat)
  case atStart => exact ⟨0, by omega, rfl, Lib.hid (fun j h => by omega), X1⟩
  case round =>
    obtain ⟨k, hk, rfl, hA, X⟩ := hrel
    clear X1
    obtain ⟨k0, k1, k2, k3, k4, k5, k6, k7⟩ := X.out.bx
    by_cases hlt : k < 16
    · have IK := Lib.hid (show IntOk (k : Int) by unfold IntOk; omega)
      obtain ⟨r, hr⟩ : ∃ r, hasN (keepC c v) (k : Int) = r := ⟨_, rfl⟩
      have R := Lib.hid hr
      clear hr
      go_wp2_with fail
      refine (rkeeps_is X.out.sl O.out IK.out V.out R.out).mono ?_
      rintro e w2 ⟨rfl, hb⟩
      have X2 := Bun.of hb X
      clear hb
      cases r
      · go_wp2_with fail
        go_roundw
        case rel => exact ⟨k + 1, by omega, by go_num, Lib.hid (fun j h => by
          by_cases e : j = k
          · subst e; exact R.out
          · exact hA.out j (by omega)), X2⟩
        case measure => simp only [intOf]; omega
      · have F := Lib.hid (first_is (keepC_lt (v := v) O.out) (by omega) R.out hA.out)
        go_wp2_with fail
        go_ret2
        exact ⟨by rw [F.out.1, decide_eq_false F.out.2]; rfl, X2.out.be⟩
    · obtain rfl : k = 16 := by omega
      have F := Lib.hid (none_is O.out hA.out)
      go_wp2_with fail
      go_ret2
      exact ⟨by rw [F.out]; rfl, X.out.be⟩

theorem rkeeper_is {c : Cfg} {ao : Option Addr} {cap : Nat} {v : Int} {k : Int} {r : Bool} {W : World} (hs : SlV W ao cap (c.vs.map uV)) (hk : CfgOk c) (hv : IntOk v) (h1 : (firstN (keepC c v) : Int) = k) (h2 : (!decide (keepC c v = 0)) = r) :
    Calls Tryd.prog 13 #[.agg (cfgA c ao cap), .int .i64 v] W fun e w' => e = .returned (.tuple #[.int .i64 k, .bool r]) ∧ Below W.heap.size W w' := by
  subst h1 h2; exact rkeeper_any c ao cap v W hs hk hv

end Go.Proofs.YtnipoknmhcgplaaDoor
