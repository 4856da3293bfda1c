/-
  The document's own boxes: Put, Get, Any, Either.
-/
import Derived.Test.YtedfiejocajpkaaYrput
import Derived.Test.YtedfiejocajpkaaYany
namespace Go.Proofs.Ytedfiejocajpkaa
open Go.RowKit

theorem RpAt.drewN {w : World} {N p n room : Nat} {F : Nat → Prop} {B : Nat → List Int} (h : RpAt w N p F n room B) (q : Nat) : RpAt (w.drewN q) N p F n room B := h.below ⟨rfl, rfl, rfl, Nat.le_refl _, fun _ _ => rfl⟩

section
variable {W : World} {N p n room : Nat} {F : Nat → Prop} {B : Nat → List Int}

theorem rp_put (hA : RpAt W N p F n room B) (k x : Int) :
    Calls Try.prog 16 #[.pointer (some ⟨p, 0, none⟩), .int .i64 k, .int .i64 x] W (OPost (fun w F => RpAt w N p F n room (putB n room B k x)) W F (.bool (canB n room B k))) := by
  cases h : canB n room B k
  · rw [putB_no h]
    refine (rp_put_no hA k x h).mono ?_
    rintro e w' ⟨rfl, q, rfl⟩
    exact ⟨rfl, F, hA.drewN q, (Keep.refl _ _).drewN q, fun _ f => Or.inl f⟩
  · obtain ⟨j, rfl, hj, hl⟩ := canB_nat h
    rw [putB_ok hj hl]
    exact rp_put_ok hA j x hj hl

theorem rp_get (hA : RpAt W N p F n room B) (k : Int) :
    Calls Try.prog 18 #[.pointer (some ⟨p, 0, none⟩), .int .i64 k] W (OPost (fun w F => RpAt w N p F n room (popB n B k)) W F (.tuple #[.int .i64 (topB 0 n B k), .bool (hasB n B k)])) := by
  cases h : hasB n B k
  · rw [popB_no h, topB_no h]
    refine (rp_get_no hA k h).mono ?_
    rintro e w' ⟨rfl, q, rfl⟩
    exact ⟨rfl, F, hA.drewN q, (Keep.refl _ _).drewN q, fun _ f => Or.inl f⟩
  · obtain ⟨j, rfl, hj, x, t, e⟩ := hasB_nat h
    rw [popB_cons hj e, topB_cons hj e]
    exact rp_get_ok hA j x t hj e

theorem rp_any_none (hA : RpAt W N p F n room B) (h : ∀ j, j < n → B j = []) :
    Calls Try.prog 20 #[.pointer (some ⟨p, 0, none⟩)] W fun e w' => e = .returned (.tuple #[.int .i64 0, .int .i64 0, .bool false]) ∧ ∃ q, w' = W.drewN q := by
  have H := Lib.hid hA
  have Z := Lib.hid h
  have hn := hA.nn
  obtain ⟨b, hv⟩ := hA
  have c1 := Lib.hid hv.c1
  clear hv h
  go_enter Try.func20, Try.ntmps20
  go_wp2_with fail
  go_loopw [5] (fun i wr => ∃ (k q : Nat), k ≤ n ∧ i = .int .i64 (k : Nat) ∧ wr = W.drewN q) (fun i _ => n - (intOf i).toNat)
  case atStart => exact ⟨0, 0, Nat.zero_le _, rfl, rfl⟩
  case round =>
    obtain ⟨k, q, hk, rfl, rfl⟩ := hrel
    have c2 : (W.drewN q).cell? ⟨p, 1, none⟩ = some (.slice (some ⟨b, 0, none⟩) n n) := c1.out
    have HQ := Lib.hid (fun m => (show (W.drewN q).drewN m = W.drewN (q + m) by rw [World.drewN_drewN]))
    by_cases hlt : k < n
    · have G := Lib.hid (rp_get_no (H.out.drewN q) (k : Int) (hasB_nil (Z.out k hlt)))
      generalize W.drewN q = wq at *
      go_wp2_with (go_at_call 18; refine G.out.mono ?_; rintro e w' ⟨rfl, q2, rfl⟩)
      go_roundw
      case rel => exact ⟨k + 1, _, by omega, by go_num, HQ.out _⟩
      case measure => simp only [intOf]; omega
    · obtain rfl : k = n := by omega
      go_wp2_with fail
      go_ret3
      exact ⟨rfl, _, rfl⟩

theorem rp_any_ok (hA : RpAt W N p F n room B) (m : Nat) (x : Int) (t : List Int) (hm : m < n) (h : ∀ j, j < m → B j = []) (hB : B m = x :: t) :
    Calls Try.prog 20 #[.pointer (some ⟨p, 0, none⟩)] W (OPost (fun w F => RpAt w N p F n room (upd B m t)) W F (.tuple #[.int .i64 (m : Int), .int .i64 x, .bool true])) := by
  have H := Lib.hid hA
  have Z := Lib.hid h
  have hn := hA.nn
  have HB := Lib.hid hB
  obtain ⟨b, hv⟩ := hA
  have c1 := Lib.hid hv.c1
  clear hv h hB
  go_enter Try.func20, Try.ntmps20
  go_wp2_with fail
  go_loopw [5] (fun i wr => ∃ (k q : Nat), k ≤ m ∧ i = .int .i64 (k : Nat) ∧ wr = W.drewN q) (fun i _ => n - (intOf i).toNat)
  case atStart => exact ⟨0, 0, Nat.zero_le _, rfl, rfl⟩
  case round =>
    obtain ⟨k, q, hk, rfl, rfl⟩ := hrel
    have c2 : (W.drewN q).cell? ⟨p, 1, none⟩ = some (.slice (some ⟨b, 0, none⟩) n n) := c1.out
    have HQ := Lib.hid (fun m => (show (W.drewN q).drewN m = W.drewN (q + m) by rw [World.drewN_drewN]))
    by_cases hlt : k < m
    · have G := Lib.hid (rp_get_no (H.out.drewN q) (k : Int) (hasB_nil (Z.out k hlt)))
      generalize W.drewN q = wq at *
      go_wp2_with (go_at_call 18; refine G.out.mono ?_; rintro e w' ⟨rfl, q2, rfl⟩)
      go_roundw
      case rel => exact ⟨k + 1, _, by omega, by go_num, HQ.out _⟩
      case measure => simp only [intOf]; omega
    · obtain rfl : k = m := by omega
      have G2 := Lib.hid (rp_get_ok (H.out.drewN q) k x t hm HB.out)
      have KK := Lib.hid ((Keep.refl F W).drewN q)
      generalize W.drewN q = wq at *
      go_wp2_with (go_at_call 18; refine G2.out.mono ?_; rintro e w' ⟨rfl, hP⟩)
      go_ret3
      exact OPost.trans KK.out (fun _ f => Or.inl f) ⟨rfl, hP⟩

theorem rp_any (hA : RpAt W N p F n room B) (m : Nat) (hm : m ≤ n) (h : ∀ j, j < m → B j = []) (hx : m < n → B m ≠ []) :
    Calls Try.prog 20 #[.pointer (some ⟨p, 0, none⟩)] W (OPost (fun w F => RpAt w N p F n room (popB n B (m : Int))) W F (.tuple #[.int .i64 (if m < n then (m : Int) else 0), .int .i64 (topB 0 n B (m : Int)), .bool (hasB n B (m : Int))])) := by
  by_cases hlt : m < n
  · cases e : B m with
    | nil => exact absurd e (hx hlt)
    | cons x t =>
      rw [popB_cons hlt e, topB_cons hlt e, hasB_cons hlt e, if_pos hlt]
      exact rp_any_ok hA m x t hlt h e
  · obtain rfl : m = n := by omega
    have hz : hasB m B (m : Int) = false := by
      unfold hasB hasZ
      rw [decide_eq_false (by omega), Bool.false_and]
    rw [popB_no hz, topB_no hz, hz, if_neg hlt]
    refine (rp_any_none hA h).mono ?_
    rintro e w' ⟨rfl, q, rfl⟩
    exact ⟨rfl, F, hA.drewN q, (Keep.refl _ _).drewN q, fun _ f => Or.inl f⟩

theorem rp_either (hA : RpAt W N p F n room B) (a b : Int) :
    Calls Try.prog 22 #[.pointer (some ⟨p, 0, none⟩), .int .i64 a, .int .i64 b] W
      (OPost (fun w F => RpAt w N p F n room (eiB n B a b)) W F (.tuple #[.int .i64 (eiN n B a b), .int .i64 (eiX 0 n B a b), .bool (hasB n B a || hasB n B b)])) := by
  have H := Lib.hid hA
  unfold eiN eiX eiB
  cases ha : hasB n B a
  · have G := Lib.hid (rp_get_no hA a ha)
    cases hb : hasB n B b
    · simp only [Bool.false_eq_true, ↓reduceIte]
      rw [popB_no hb, topB_no hb]
      have T := Lib.hid hb
      clear hA hb ha
      go_enter Try.func22, Try.ntmps22
      go_wp2_with (first
        | (go_at_call 18; refine G.out.mono ?_; rintro e w' ⟨rfl, q1, rfl⟩; have G2 := Lib.hid (rp_get_no (H.out.drewN q1) b T.out); clear G)
        | (go_at_call 18; refine G2.out.mono ?_; rintro e w' ⟨rfl, q2, rfl⟩))
      go_ret3
      exact ⟨rfl, F, H.out.drewN (q1 + q2), (Keep.refl _ _).drewN (q1 + q2), fun _ f => Or.inl f⟩
    · obtain ⟨k, rfl, hk, x, t, e⟩ := hasB_nat hb
      simp only [Bool.false_eq_true, ↓reduceIte]
      rw [popB_cons hk e, topB_cons hk e]
      have T := Lib.hid e
      clear hA hb ha e
      go_enter Try.func22, Try.ntmps22
      go_wp2_with (first
        | (go_at_call 18; refine G.out.mono ?_; rintro e w' ⟨rfl, q1, rfl⟩; have G2 := Lib.hid (rp_get_ok (H.out.drewN q1) k x t hk T.out); clear G)
        | (go_at_call 18; refine G2.out.mono ?_; rintro e w' ⟨rfl, hP⟩))
      go_ret3
      exact OPost.trans ((Keep.refl _ _).drewN q1) (fun _ f => Or.inl f) ⟨rfl, hP⟩
  · obtain ⟨k, rfl, hk, x, t, e⟩ := hasB_nat ha
    simp only [↓reduceIte]
    rw [popB_cons hk e, topB_cons hk e]
    have G := Lib.hid (rp_get_ok hA k x t hk e)
    clear hA ha e
    go_enter Try.func22, Try.ntmps22
    go_wp2_with (go_at_call 18; refine G.out.mono ?_; rintro e w' ⟨rfl, hP⟩)
    go_ret3
    exact ⟨rfl, hP⟩
end

end Go.Proofs.Ytedfiejocajpkaa
