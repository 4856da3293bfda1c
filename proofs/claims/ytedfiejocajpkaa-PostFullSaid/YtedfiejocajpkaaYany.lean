/-
  Any, Either: post.Post[int].
-/
import Derived.Test.YtedfiejocajpkaaYput
namespace Go.Proofs.Ytedfiejocajpkaa
open Go.RowKit

section
variable {W : World} {N p n room : Nat} {F : Nat → Prop} {B : Nat → List Int}

theorem pi_row (hA : PoAt iV W N p F n room B) : ∃ b, W.cell? ⟨p, 0, none⟩ = some (.slice (some ⟨b, 0, none⟩) n n) := by
  obtain ⟨b, c, L, hv, _⟩ := hA
  exact ⟨b, hv.c0⟩

theorem pi_any_none (hA : PoAt iV W N p F n room B) (h : ∀ j, j < n → B j = []) :
    Calls Try.prog 19 #[.pointer (some ⟨p, 0, none⟩)] W fun e w' => e = .returned (.tuple #[.int .i64 0, (.int .i64 0), .bool false]) ∧ w' = W := by
  have H := Lib.hid hA
  have Z := Lib.hid h
  have hn := hA.nn
  obtain ⟨b, c0⟩ := pi_row hA
  clear hA h
  go_enter Try.func19, Try.ntmps19
  go_wp2_with fail
  go_loop [11, 3] (fun i v => ∃ k : Nat, k ≤ n ∧ i = .int .i64 (k : Nat) ∧ v = (.int .i64 0)) (fun i _ => n - (intOf i).toNat)
  case atStart => exact ⟨0, Nat.zero_le _, rfl, rfl⟩
  case round =>
    obtain ⟨k, hk, rfl, rfl⟩ := hrel
    by_cases hlt : k < n
    · have G := Lib.hid (pi_get_no H.out (k : Int) (hasB_nil (Z.out k hlt)))
      go_wp2_with (go_at_call 17; refine G.out.mono ?_; rintro e w' ⟨rfl, rfl⟩)
      go_round
      case rel => exact ⟨k + 1, by omega, by go_num, rfl⟩
      case measure => simp only [intOf]; omega
    · obtain rfl : k = n := by omega
      go_wp2_with fail
      go_ret3
      exact ⟨rfl, rfl⟩

theorem pi_any_ok (hA : PoAt iV W N p F n room B) (m : Nat) (x : Int) (t : List Int) (hm : m < n) (h : ∀ j, j < m → B j = []) (hB : B m = x :: t) :
    Calls Try.prog 19 #[.pointer (some ⟨p, 0, none⟩)] W (OPost (fun w F => PoAt iV w N p F n room (upd B m t)) W F (.tuple #[.int .i64 (m : Int), .int .i64 x, .bool true])) := by
  have H := Lib.hid hA
  have Z := Lib.hid h
  have G2 := Lib.hid (pi_get_ok hA m x t hm hB)
  have hn := hA.nn
  obtain ⟨b, c0⟩ := pi_row hA
  clear hA h hB
  go_enter Try.func19, Try.ntmps19
  go_wp2_with fail
  go_loop [11, 3] (fun i v => ∃ k : Nat, k ≤ m ∧ i = .int .i64 (k : Nat) ∧ v = (.int .i64 0)) (fun i _ => n - (intOf i).toNat)
  case atStart => exact ⟨0, Nat.zero_le _, rfl, rfl⟩
  case round =>
    obtain ⟨k, hk, rfl, rfl⟩ := hrel
    by_cases hlt : k < m
    · have G := Lib.hid (pi_get_no H.out (k : Int) (hasB_nil (Z.out k hlt)))
      go_wp2_with (go_at_call 17; refine G.out.mono ?_; rintro e w' ⟨rfl, rfl⟩)
      go_round
      case rel => exact ⟨k + 1, by omega, by go_num, rfl⟩
      case measure => simp only [intOf]; omega
    · obtain rfl : k = m := by omega
      go_wp2_with (go_at_call 17; refine G2.out.mono ?_; rintro e w' ⟨rfl, hP⟩)
      go_ret3
      exact ⟨rfl, hP⟩

theorem pi_any (hA : PoAt iV W N p F n room B) (m : Nat) (hm : m ≤ n) (h : ∀ j, j < m → B j = []) (hx : m < n → B m ≠ []) :
    Calls Try.prog 19 #[.pointer (some ⟨p, 0, none⟩)] W (OPost (fun w F => PoAt iV w N p F n room (popB n B (m : Int))) W F (.tuple #[.int .i64 (if m < n then (m : Int) else 0), iV (topB 0 n B (m : Int)), .bool (hasB n B (m : Int))])) := by
  by_cases hlt : m < n
  · cases e : B m with
    | nil => exact absurd e (hx hlt)
    | cons x t =>
      rw [popB_cons hlt e, topB_cons hlt e, hasB_cons hlt e, if_pos hlt]
      exact pi_any_ok hA m x t hlt h e
  · obtain rfl : m = n := by omega
    have hz : hasB m B (m : Int) = false := by
      unfold hasB hasZ
      rw [decide_eq_false (by omega), Bool.false_and]
    rw [popB_no hz, topB_no hz, hz, if_neg hlt]
    refine (pi_any_none hA h).mono ?_
    rintro e w' ⟨rfl, rfl⟩
    exact ⟨rfl, F, hA, Keep.refl _ _, fun _ f => Or.inl f⟩

/-- The first select finds nothing. -/
theorem pi_sel_no (hA : PoAt iV W N p F n room B) (k : Int) (h : hasB n B k = false) :
    ∃ oc, Calls Try.prog 25 #[.pointer (some ⟨p, 0, none⟩), .int .i64 k] W (fun e w' => e = .returned (.chan oc) ∧ w' = W) ∧
      ∀ fr cs es, stepG Try.prog true (Go.Conc.G fr cs) W = .comm (Go.Conc.G fr cs) #[{ chan := .chan oc, send := none, zero := .pointer none }] false .select W es → step Try.prog (Go.Conc.solo (Go.Conc.G fr cs) W) = .next (Go.Conc.solo (Go.Conc.G (fr.finish (.tuple #[goInt (-1), .bool false, .pointer none])) cs) W) := by
  obtain ⟨b, c, L, hv, hL⟩ := hA
  cases hz : hasZ n k
  · exact ⟨none, pi_box_no hv k hz, fun fr cs es he => Go.Conc.step_lone_select_recv_nil he⟩
  · obtain ⟨j, rfl, hj⟩ := hasZ_nat hz
    obtain ⟨s, r, hc⟩ := hv.ch j hj
    have hnil : L j = [] := by
      unfold hasB at h
      rw [hz, Bool.true_and, Int.toNat_natCast, ← hL j hj] at h
      cases e : L j with
      | nil => rfl
      | cons x t => rw [e] at h; simp at h
    rw [hnil] at hc
    exact ⟨some (c j), pi_box hv j hj, fun fr cs es he => Go.Conc.step_lone_select_default he hc⟩
/-- A select takes the first one out. -/
theorem pi_sel_ok (hA : PoAt iV W N p F n room B) (k : Nat) (x : Int) (t : List Int) (hk : k < n) (h : B k = x :: t) :
    ∃ oc g w2, Calls Try.prog 25 #[.pointer (some ⟨p, 0, none⟩), .int .i64 (k : Int)] W (fun e w' => e = .returned (.chan oc) ∧ w' = W) ∧
      (∀ fr cs es, stepG Try.prog true (Go.Conc.G fr cs) W = .comm (Go.Conc.G fr cs) #[{ chan := .chan oc, send := none, zero := .pointer none }] false .select W es → step Try.prog (Go.Conc.solo (Go.Conc.G fr cs) W) = .next (Go.Conc.solo (Go.Conc.G (fr.finish (.tuple #[goInt 0, .bool true, .pointer (some ⟨g, 0, none⟩)])) cs) w2)) ∧
      w2.cell? ⟨g, 0, none⟩ = some (.int .i64 x) ∧ PoAt iV w2 N p F n room (upd B k t) ∧ Keep F W w2 := by
  obtain ⟨b, c, L, hv, hL⟩ := hA
  obtain ⟨g, s, r, buf, hc, h0, hg, hF, _, hy, hP, hK⟩ := pi_taken hv hL k x t hk h
  exact ⟨some (c k), g, _, pi_box hv k hk, fun fr cs es he => by rw [show Value.pointer (some ⟨g, 0, none⟩) = buf.getD 0 undef from hg.symm]; exact Go.Conc.step_lone_select_recv_buf he hc h0, hy, hP, hK⟩

theorem pi_either_a (hA : PoAt iV W N p F n room B) (k : Nat) (b : Int) (x : Int) (t : List Int) (hk : k < n) (h : B k = x :: t) :
    Calls Try.prog 21 #[.pointer (some ⟨p, 0, none⟩), .int .i64 (k : Int), .int .i64 b] W (OPost (fun w F => PoAt iV w N p F n room (upd B k t)) W F (.tuple #[.int .i64 (k : Int), .int .i64 x, .bool true])) := by
  obtain ⟨oc, g, w2, hC, hS, hy, hP, hK⟩ := pi_sel_ok hA k x t hk h
  have C := Lib.hid hC
  have S := Lib.hid hS
  have R := Lib.hid (show OPost (fun w F => PoAt iV w N p F n room (upd B k t)) W F (.tuple #[.int .i64 (k : Int), .int .i64 x, .bool true]) (.returned (.tuple #[.int .i64 (k : Int), .int .i64 x, .bool true])) w2 from ⟨rfl, F, hP, hK, fun _ f => Or.inl f⟩)
  have R2 := Lib.hid (fun q => (show OPost (fun w F => PoAt iV w N p F n room (upd B k t)) W F (.tuple #[.int .i64 (k : Int), .int .i64 x, .bool true]) (.returned (.tuple #[.int .i64 (k : Int), .int .i64 x, .bool true])) (w2.drewN q) from ⟨rfl, F, hP.drewN q, hK.drewN q, fun _ f => Or.inl f⟩))
  clear hA hC hS hP hK h
  go_enter Try.func21, Try.ntmps21
  go_upto_region 2 with (go_at_call 25; refine C.out.mono ?_; rintro e w' ⟨rfl, rfl⟩)
  refine wp_region_sel (w := w') (w1 := w') (w2 := w2) (blocking := false) (shape := .select) (cases := #[{ chan := .chan oc, send := none, zero := .pointer none }]) (r := .tuple #[goInt 0, .bool true, .pointer (some ⟨g, 0, none⟩)])
    rfl (by simp [go_sem, execOp, Act.eval]) S.out ?_
  go_simp
  go_wp2_with fail
  go_quiet (fail)
  go_wp2_with fail
  go_ret3
  exact R2.out _

theorem pi_either_b (hA : PoAt iV W N p F n room B) (a : Int) (k : Nat) (x : Int) (t : List Int) (ha : hasB n B a = false) (hk : k < n) (h : B k = x :: t) :
    Calls Try.prog 21 #[.pointer (some ⟨p, 0, none⟩), .int .i64 a, .int .i64 (k : Int)] W (OPost (fun w F => PoAt iV w N p F n room (upd B k t)) W F (.tuple #[.int .i64 (k : Int), .int .i64 x, .bool true])) := by
  obtain ⟨oc, g, w2, hC, hS, hy, hP, hK⟩ := pi_sel_ok hA k x t hk h
  obtain ⟨oa, hCa, hSa⟩ := pi_sel_no hA a ha
  have C := Lib.hid hC
  have S := Lib.hid hS
  have Ca := Lib.hid hCa
  have Sa := Lib.hid hSa
  have R2 := Lib.hid (fun q => (show OPost (fun w F => PoAt iV w N p F n room (upd B k t)) W F (.tuple #[.int .i64 (k : Int), .int .i64 x, .bool true]) (.returned (.tuple #[.int .i64 (k : Int), .int .i64 x, .bool true])) (w2.drewN q) from ⟨rfl, F, hP.drewN q, hK.drewN q, fun _ f => Or.inl f⟩))
  clear hA hC hS hP hK h hCa hSa ha
  go_enter Try.func21, Try.ntmps21
  go_upto_region 2 with (go_at_call 25; refine Ca.out.mono ?_; rintro e w' ⟨rfl, rfl⟩)
  refine wp_region_sel (w := w') (w1 := w') (w2 := w') (blocking := false) (shape := .select) (cases := #[{ chan := .chan oa, send := none, zero := .pointer none }]) (r := .tuple #[goInt (-1), .bool false, .pointer none])
    rfl (by simp [go_sem, execOp, Act.eval]) Sa.out ?_
  go_simp
  go_upto_region 6 with (go_at_call 25; refine C.out.mono ?_; rintro e w' ⟨rfl, rfl⟩)
  refine wp_region_sel (w1 := _) (w2 := w2) (blocking := false) (shape := .select) (cases := #[{ chan := .chan oc, send := none, zero := .pointer none }]) (r := .tuple #[goInt 0, .bool true, .pointer (some ⟨g, 0, none⟩)])
    rfl (by simp [go_sem, execOp, Act.eval]) S.out ?_
  go_simp
  go_wp2_with fail
  go_quiet (fail)
  go_wp2_with fail
  go_ret3
  exact R2.out _

theorem pi_either_no (hA : PoAt iV W N p F n room B) (a b : Int) (ha : hasB n B a = false) (hb : hasB n B b = false) :
    Calls Try.prog 21 #[.pointer (some ⟨p, 0, none⟩), .int .i64 a, .int .i64 b] W fun e w' => e = .returned (.tuple #[.int .i64 0, (.int .i64 0), .bool false]) ∧ w' = W := by
  obtain ⟨ob, hC, hS⟩ := pi_sel_no hA b hb
  obtain ⟨oa, hCa, hSa⟩ := pi_sel_no hA a ha
  have C := Lib.hid hC
  have S := Lib.hid hS
  have Ca := Lib.hid hCa
  have Sa := Lib.hid hSa
  clear hA hC hS hCa hSa ha hb
  go_enter Try.func21, Try.ntmps21
  go_upto_region 2 with (go_at_call 25; refine Ca.out.mono ?_; rintro e w' ⟨rfl, rfl⟩)
  refine wp_region_sel (w := w') (w1 := w') (w2 := w') (blocking := false) (shape := .select) (cases := #[{ chan := .chan oa, send := none, zero := .pointer none }]) (r := .tuple #[goInt (-1), .bool false, .pointer none])
    rfl (by simp [go_sem, execOp, Act.eval]) Sa.out ?_
  go_simp
  go_upto_region 6 with (go_at_call 25; refine C.out.mono ?_; rintro e w' ⟨rfl, rfl⟩)
  refine wp_region_sel (w1 := _) (w2 := w') (blocking := false) (shape := .select) (cases := #[{ chan := .chan ob, send := none, zero := .pointer none }]) (r := .tuple #[goInt (-1), .bool false, .pointer none])
    rfl (by simp [go_sem, execOp, Act.eval]) S.out ?_
  go_simp
  go_wp2_with fail
  go_ret3
  exact ⟨rfl, rfl⟩

end

theorem pi_either {W : World} {N p n room : Nat} {F : Nat → Prop} {B : Nat → List Int} (hA : PoAt iV W N p F n room B) (a b : Int) :
    Calls Try.prog 21 #[.pointer (some ⟨p, 0, none⟩), .int .i64 a, .int .i64 b] W
      (OPost (fun w F => PoAt iV w N p F n room (eiB n B a b)) W F (.tuple #[.int .i64 (eiN n B a b), iV (eiX 0 n B a b), .bool (hasB n B a || hasB n B b)])) := by
  unfold eiN eiX eiB
  cases ha : hasB n B a
  · cases hb : hasB n B b
    · simp only [Bool.false_eq_true, ↓reduceIte]
      rw [popB_no hb, topB_no hb]
      refine (pi_either_no hA a b ha hb).mono ?_
      rintro e w' ⟨rfl, rfl⟩
      exact ⟨rfl, F, hA, Keep.refl _ _, fun _ f => Or.inl f⟩
    · obtain ⟨k, rfl, hk, x, t, e⟩ := hasB_nat hb
      simp only [Bool.false_eq_true, ↓reduceIte]
      rw [popB_cons hk e, topB_cons hk e]
      exact pi_either_b hA a k x t ha hk e
  · obtain ⟨k, rfl, hk, x, t, e⟩ := hasB_nat ha
    simp only [↓reduceIte]
    rw [popB_cons hk e, topB_cons hk e]
    exact pi_either_a hA k b x t hk e

end Go.Proofs.Ytedfiejocajpkaa
