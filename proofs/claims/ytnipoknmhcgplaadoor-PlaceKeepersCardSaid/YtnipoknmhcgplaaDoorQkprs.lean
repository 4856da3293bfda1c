/-
  The first that keeps a variable keeps it, and none ahead of it does: the walk of the statement PlaceKeepers.
-/
import Derived.Test.YtnipoknmhcgplaaDoorQfst
import Derived.Deep.RegionWith
import Derived.Deep.DrawnRows
namespace Go.Proofs.YtnipoknmhcgplaaDoor
open Go.RowKit
attribute [local go_sem ↓] Go.wp_at_zero Go.wp_at_succ

theorem keep_zero {s : Nat} {p : Int} (h : s = 0) : hasN s p = false := by subst h; unfold hasN; simp
theorem first_has {s : Nat} (h : s < 18446744073709551616) (h0 : s ≠ 0) : hasN s (firstN s : Int) = true ∧ firstN s < 64 ∧ ∀ i : Nat, i < firstN s → hasN s (i : Int) = false := by
  obtain ⟨h1, h2, h3⟩ := first_bit h h0
  exact ⟨by rw [hasN_nat h2]; exact h1, h2, fun i hi => by rw [hasN_nat (by omega)]; exact h3 i hi⟩
theorem keep_some {c : Cfg} {v : Int} (h : keepC c v ≠ 0) : goodC c = true ∧ ∃ j : Nat, v = (j : Int) ∧ ∃ hj : j < c.vs.length, keepC c v = c.vs[j] := by
  unfold keepC at h
  by_cases hb : (goodC c && btw 0 v (c.vs.length - 1)) = true
  · have h1 := hb
    rw [Bool.and_eq_true] at h1
    have h2 := btw_true h1.2
    refine ⟨h1.1, v.toNat, by omega, by omega, ?_⟩
    have hlt : v.toNat < c.vs.length := by omega
    unfold keepC
    rw [if_pos hb]
    simp [hlt]
  · rw [if_neg hb] at h
    exact absurd rfl h

def LoopRel (W : World) (N B : Nat) (c : Cfg) (ao : Option Addr) (cap K : Nat) (i : Value) (wr : World) : Prop :=
  ∃ k : Nat, k ≤ K ∧ i = .int .i64 (k : Nat) ∧ Hid (Bun W N B c ao cap wr)

set_option maxRecDepth 20000 in
set_option maxHeartbeats 16000000 in
theorem law_PlaceKeepers (c : Cfg) (ao : Option Addr) (cap : Nat) (v : Int) (W : World) (ht : TabAt 0 Lib.deBruijn64tab W) (hs : SlV W ao cap (c.vs.map uV)) (hk : CfgOk c) (hv : IntOk v) :
    Calls Tryd.prog 5 #[.agg (cfgA c ao cap), .int .i64 v] W (OkPost W) := by
  have hmax := hs.max
  have hfit := hs.fit
  unfold maxLen at hmax
  rw [List.length_map] at hfit
  have B1 := below_alloc (Below.refl _ W) (.cells (cfgA c ao cap) 26)
  have X1 : Hid (Bun W W.heap.size W.heap.size c ao cap (W.alloc (.cells (cfgA c ao cap) 26))) := Lib.hid ⟨B1, B1.size, boxed_new W c ao cap _, hs.below B1⟩
  have T := Lib.hid (fun (w : World) (h : Below W.heap.size W w) => tab_below ht h)
  have V := Lib.hid hv
  have O := Lib.hid hk
  have Z := Lib.hid (ok2 0 0).1
  have LT := Lib.hid (keepC_lt (v := v) hk)
  clear hs hk hv ht B1
  go_enter Tryd.func5, Tryd.ntmps5
  go_wp2_with fail
  generalize W.alloc (.cells (cfgA c ao cap) 26) = w0 at X1 ⊢
  refine (awake_any _).mono ?_
  rintro e w1 ⟨rfl, hb⟩
  have X2 := Bun.of hb X1
  obtain ⟨k0, k1, k2, k3, k4, k5, k6, k7⟩ := X2.out.bx
  clear hb X1
  by_cases hl : 30 < c.vs.length
  · go_wp2_with fail
    go_ret
    exact ⟨rfl, X2.out.be⟩
  go_wp2_with fail
  by_cases h0 : keepC c v = 0
  · have H := Lib.hid (keep_zero (p := 0) h0)
    refine (keeper_is (k := 0) (r := false) (T.out _ X2.out.be) X2.out.sl O.out V.out (by rw [h0]; rfl) (by rw [h0]; rfl)).mono ?_
    rintro e w2 ⟨rfl, hb⟩
    have X3 := Bun.of hb X2
    clear hb X2 k0 k1 k2 k3 k4 k5 k6 k7 h0
    obtain ⟨k0, k1, k2, k3, k4, k5, k6, k7⟩ := X3.out.bx
    go_wp2_with fail
    refine (keeps_is X3.out.sl O.out Z.out V.out H.out).mono ?_
    rintro e w3 ⟨rfl, hb⟩
    have X4 := Bun.of hb X3
    clear hb
    go_wp2_with fail
    go_ret
    exact ⟨rfl, X4.out.be⟩
  · obtain ⟨hg, j, rfl, hj, hkj⟩ := keep_some h0
    obtain ⟨f1, f2, f3⟩ := first_has LT.out h0
    have G := Lib.hid hg
    have F1 := Lib.hid f1
    have F3 := Lib.hid f3
    have KJ := Lib.hid hkj
    refine (keeper_is (k := (firstN (keepC c j) : Int)) (r := true) (T.out _ X2.out.be) X2.out.sl O.out V.out rfl (by simp [h0])).mono ?_
    rintro e w2 ⟨rfl, hb⟩
    have X3 := Bun.of hb X2
    clear hb X2 k0 k1 k2 k3 k4 k5 k6 k7 h0 hg f1 f3 hkj
    generalize firstN (keepC c j) = K at *
    have OK := Lib.hid (show IntOk (K : Int) by unfold IntOk; omega)
    obtain ⟨k0, k1, k2, k3, k4, k5, k6, k7⟩ := X3.out.bx
    go_wp2_with fail
    go_loopw [7] (fun i wr => LoopRel W W.heap.size W.heap.size c ao cap K i wr) (fun i _ => K - (intOf i).toNat)
    case atStart => exact ⟨0, Nat.zero_le _, rfl, X3⟩
    case round =>
      obtain ⟨k, hk, rfl, X⟩ := hrel
      clear X3 k0 k1 k2 k3 k4 k5 k6 k7
      obtain ⟨k0, k1, k2, k3, k4, k5, k6, k7⟩ := X.out.bx
      by_cases hlt : k < K
      · have H := Lib.hid (F3.out k hlt)
        have IK := Lib.hid (show IntOk (k : Int) by unfold IntOk; omega)
        go_wp2_with fail
        refine (keeps_is X.out.sl O.out IK.out V.out H.out).mono ?_
        rintro e w3 ⟨rfl, hb⟩
        have X4 := Bun.of hb X
        clear hb
        go_wp2_with fail
        go_roundw
        case rel => exact ⟨k + 1, by omega, by go_num, X4⟩
        case measure => simp only [intOf]; omega
      · go_wp2_with fail
        refine (good_is X.out.sl O.out G.out).mono ?_
        rintro e w3 ⟨rfl, hb⟩
        have X4 := Bun.of hb X
        clear hb X k0 k1 k2 k3 k4 k5 k6 k7
        obtain ⟨k0, k1, k2, k3, k4, k5, k6, k7⟩ := X4.out.bx
        go_wp2_with fail
        refine (keeps_is X4.out.sl O.out OK.out V.out F1.out).mono ?_
        rintro e w4 ⟨rfl, hb⟩
        have X5 := Bun.of hb X4
        clear hb X4 k0 k1 k2 k3 k4 k5 k6 k7
        obtain ⟨k0, k1, k2, k3, k4, k5, k6, k7⟩ := X5.out.bx
        obtain ⟨b, off, e, hbl, hcx⟩ := X5.out.sl.at j hj
        have FH := Lib.hid (show hasN c.vs[j] (K : Int) = true by rw [← KJ.out]; exact F1.out)
        have FL := Lib.hid (O.out.vs c.vs[j] (List.getElem_mem hj))
        subst e
        have kx : w4.cell? ⟨b, off + j, none⟩ = some (.int .u64 (c.vs[j] : Nat)) := hcx
        clear hcx KJ
        generalize c.vs[j] = x at *
        go_wp2_with fail
        refine (has_any x K _ FL.out OK.out).mono ?_
        rintro e w5 ⟨rfl, hb⟩
        rw [FH.out]
        have X6 := Bun.of hb X5
        go_wp2_with fail
        go_ret
        exact ⟨rfl, X6.out.be⟩

end Go.Proofs.YtnipoknmhcgplaaDoor
