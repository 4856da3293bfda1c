/-
  Put, Get: post.Post[int].
-/
import Derived.Test.YtedfiejocajpkaaYbox
namespace Go.Proofs.Ytedfiejocajpkaa
open Go.RowKit

section
variable {W : World} {N p n room : Nat} {F : Nat → Prop} {B : Nat → List Int}

theorem pi_put_no (hA : PoAt iV W N p F n room B) (k : Int) (x : Int) (h : canB n room B k = false) :
    Calls Try.prog 15 #[.pointer (some ⟨p, 0, none⟩), .int .i64 k, .int .i64 x] W (OPost (fun w F => PoAt iV w N p F n room B) W F (.bool false)) := by
  have HA := Lib.hid (show PoAt iV (W.alloc (.cells #[.int .i64 x] 3)) N p F n room B from hA.below ((Below.refl _ _).alloc (Nat.le_refl _) _))
  have K := Lib.hid ((Keep.refl F W).alloc (.cells #[.int .i64 x] 3))
  obtain ⟨b, c, L, hv, hL⟩ := HA.out
  have V := Lib.hid hv
  clear hA
  cases hz : hasZ n k
  · have H := Lib.hid hz
    clear hv hz hL h
    go_enter Try.func15, Try.ntmps15
    go_upto_region 2 with (go_at_call 25; refine (pi_box_no V.out k H.out).mono ?_; rintro e w' ⟨rfl, rfl⟩)
    refine wp_region_sel (cases := #[Go.Conc.scaseNil (pV W.heap.size) (.pointer none)]) (blocking := false) (shape := .select) (w1 := W.alloc (.cells #[.int .i64 x] 3)) (w2 := W.alloc (.cells #[.int .i64 x] 3)) (r := .tuple #[goInt (-1), .bool false])
      rfl (by simp [go_sem, execOp, Go.Conc.scaseNil, Act.eval, pV]) (fun fr cs es he => Go.Conc.step_lone_select_send_nil he) ?_
    go_simp
    go_wp2_with fail
    go_ret
    exact ⟨rfl, F, HA.out, K.out, fun _ f => Or.inl f⟩
  · obtain ⟨j, rfl, hj⟩ := hasZ_nat hz
    obtain ⟨s, r, hc⟩ := hv.ch j hj
    have hfull : room ≤ ((L j).map (fun e => pV e.1)).toArray.size := by
      have h2 := h
      unfold canB at h2
      rw [hz, Bool.true_and, Int.toNat_natCast, ← hL j hj, List.length_map] at h2
      have := of_decide_eq_false h2
      rw [List.size_toArray, List.length_map]
      omega
    have C := Lib.hid hc
    have HF := Lib.hid hfull
    clear hv hz hL h hc hfull
    go_enter Try.func15, Try.ntmps15
    go_upto_region 2 with (go_at_call 25; refine (pi_box V.out j hj).mono ?_; rintro e w' ⟨rfl, rfl⟩)
    refine wp_region_sel (cases := #[Go.Conc.scase (c j) (pV W.heap.size) (.pointer none)]) (blocking := false) (shape := .select) (w1 := W.alloc (.cells #[.int .i64 x] 3)) (w2 := W.alloc (.cells #[.int .i64 x] 3)) (r := .tuple #[goInt (-1), .bool false])
      rfl (by simp [go_sem, execOp, Go.Conc.scase, Act.eval, pV]) (fun fr cs es he => Go.Conc.step_lone_select_send_full he C.out HF.out) ?_
    go_simp
    go_wp2_with fail
    go_ret
    exact ⟨rfl, F, HA.out, K.out, fun _ f => Or.inl f⟩

theorem pi_put_ok (hA : PoAt iV W N p F n room B) (k : Nat) (x : Int) (hk : k < n) (h : (B k).length < room) :
    Calls Try.prog 15 #[.pointer (some ⟨p, 0, none⟩), .int .i64 (k : Int), .int .i64 x] W (OPost (fun w F => PoAt iV w N p F n room (upd B k (B k ++ [x]))) W F (.bool true)) := by
  have HA := Lib.hid (show PoAt iV (W.alloc (.cells #[.int .i64 x] 3)) N p F n room B from hA.below ((Below.refl _ _).alloc (Nat.le_refl _) _))
  have K := Lib.hid ((Keep.refl F W).alloc (.cells #[.int .i64 x] 3))
  have hN := hA.size
  obtain ⟨b, c, L, hv, hL⟩ := HA.out
  have V := Lib.hid hv
  obtain ⟨s, r, hc⟩ := hv.ch k hk
  have hroom : ((L k).map (fun e => pV e.1)).toArray.size < room := by
    rw [List.size_toArray, List.length_map]
    rw [← hL k hk, List.length_map] at h
    exact h
  have hw : PoV iV (W.alloc (.cells #[.int .i64 x] 3)) N p (fun i => F i ∨ i = W.heap.size) n room b c L :=
    hv.wide (fun _ f => Or.inl f) (fun i f => by
      rcases f with f | rfl
      · exact hv.low i f
      · exact ⟨hN.1, by simp⟩)
  have hs := hw.set hk (L k ++ [(W.heap.size, x)]) (s + 1) r (fun e he => by
    rcases List.mem_append.1 he with he | he
    · exact ⟨hw.inL k hk e he, hw.cell k hk e he⟩
    · rw [List.mem_singleton] at he
      subst he
      exact ⟨Or.inr rfl, by simp [iV]⟩)
  have hbuf : ((L k ++ [(W.heap.size, x)]).map (fun e => pV e.1)).toArray = ((L k).map (fun e => pV e.1)).toArray.push (pV W.heap.size) := by simp
  rw [hbuf] at hs
  have hB : ∀ j, j < n → (upd L k (L k ++ [(W.heap.size, x)]) j).map (·.2) = upd B k (B k ++ [x]) j := by
    intro j hj
    by_cases e : j = k
    · subst e
      rw [upd_at, upd_at, List.map_append, hL j hj]
      rfl
    · rw [upd_ne e, upd_ne e, hL j hj]
  have R := Lib.hid (show OPost (fun w F => PoAt iV w N p F n room (upd B k (B k ++ [x]))) W F (.bool true) (.returned (.bool true)) _ from
    ⟨rfl, _, ⟨b, c, _, hs, hB⟩, K.out.setChan (hv.inC k hk) room (((L k).map (fun e => pV e.1)).toArray.push (pV W.heap.size)) (s + 1) r, fun i f => by
      rcases f with f | rfl
      · exact Or.inl f
      · exact Or.inr (Nat.le_refl _)⟩)
  have C := Lib.hid hc
  have HR := Lib.hid hroom
  clear hA hv hL h hc hroom hw hs hbuf hB hN
  go_enter Try.func15, Try.ntmps15
  go_upto_region 2 with (go_at_call 25; refine (pi_box V.out k hk).mono ?_; rintro e w' ⟨rfl, rfl⟩)
  refine wp_region_sel (cases := #[Go.Conc.scase (c k) (pV W.heap.size) (.pointer none)]) (blocking := false) (shape := .select) (w1 := W.alloc (.cells #[.int .i64 x] 3)) (r := .tuple #[goInt 0, .bool false])
    rfl (by simp [go_sem, execOp, Go.Conc.scase, Act.eval, pV]) (fun fr cs es he => Go.Conc.step_lone_select_send_room he C.out HR.out) ?_
  generalize (W.alloc (.cells #[.int .i64 x] 3)).setChan (c k) room (((L k).map (fun e => pV e.1)).toArray.push (pV W.heap.size)) false (s + 1) r false = w2 at R ⊢
  go_simp
  go_wp2_with fail
  go_ret
  exact R.out

theorem pi_put (hA : PoAt iV W N p F n room B) (k : Int) (x : Int) :
    Calls Try.prog 15 #[.pointer (some ⟨p, 0, none⟩), .int .i64 k, .int .i64 x] W (OPost (fun w F => PoAt iV w N p F n room (putB n room B k x)) W F (.bool (canB n room B k))) := by
  cases h : canB n room B k
  · rw [putB_no h]
    exact pi_put_no hA k x h
  · obtain ⟨j, rfl, hj, hl⟩ := canB_nat h
    rw [putB_ok hj hl]
    exact pi_put_ok hA j x hj hl

theorem pi_get_no (hA : PoAt iV W N p F n room B) (k : Int) (h : hasB n B k = false) :
    Calls Try.prog 17 #[.pointer (some ⟨p, 0, none⟩), .int .i64 k] W fun e w' => e = .returned (.tuple #[(.int .i64 0), .bool false]) ∧ w' = W := by
  obtain ⟨b, c, L, hv, hL⟩ := hA
  have V := Lib.hid hv
  cases hz : hasZ n k
  · have H := Lib.hid hz
    clear hv hz hL h
    go_enter Try.func17, Try.ntmps17
    go_upto_region 2 with (go_at_call 25; refine (pi_box_no V.out k H.out).mono ?_; rintro e w' ⟨rfl, rfl⟩)
    refine wp_region_sel (w := w') (w1 := w') (w2 := w') (cases := #[Go.Conc.rcaseNil (.pointer none)]) (blocking := false) (shape := .select) (r := .tuple #[goInt (-1), .bool false, .pointer none])
      rfl (by simp [go_sem, execOp, Go.Conc.rcaseNil, Act.eval]) (fun fr cs es he => Go.Conc.step_lone_select_recv_nil he) ?_
    go_simp
    go_wp2_with fail
    go_ret2
    exact ⟨rfl, rfl⟩
  · obtain ⟨j, rfl, hj⟩ := hasZ_nat hz
    obtain ⟨s, r, hc⟩ := hv.ch j hj
    have hnil : L j = [] := by
      unfold hasB at h
      rw [hz, Bool.true_and, Int.toNat_natCast, ← hL j hj] at h
      cases e : L j with
      | nil => rfl
      | cons x t => rw [e] at h; simp at h
    rw [hnil] at hc
    have C := Lib.hid hc
    clear hv hz hL h hc hnil
    go_enter Try.func17, Try.ntmps17
    go_upto_region 2 with (go_at_call 25; refine (pi_box V.out j hj).mono ?_; rintro e w' ⟨rfl, rfl⟩)
    refine wp_region_sel (w := w') (w1 := w') (w2 := w') (cases := #[Go.Conc.rcase (c j) (.pointer none)]) (blocking := false) (shape := .select) (r := .tuple #[goInt (-1), .bool false, .pointer none])
      rfl (by simp [go_sem, execOp, Go.Conc.rcase, Act.eval]) (fun fr cs es he => Go.Conc.step_lone_select_default he C.out) ?_
    go_simp
    go_wp2_with fail
    go_ret2
    exact ⟨rfl, rfl⟩

/-- What one taken out leaves. -/
theorem pi_taken {b : Nat} {c : Nat → Nat} {L : Nat → List (Nat × Int)} (hv : PoV iV W N p F n room b c L) (hL : ∀ k, k < n → (L k).map (·.2) = B k) (k : Nat) (x : Int) (t : List Int) (hk : k < n) (h : B k = x :: t) :
    ∃ (g s r : Nat) (buf : Array Value), W.heap[c k]? = some (.chan room buf false s r false) ∧ 0 < buf.size ∧ buf.getD 0 undef = pV g ∧ F (c k) ∧ W.cell? ⟨g, 0, none⟩ = some (iV x) ∧
      (W.setChan (c k) room (buf.extract 1 buf.size) false s (r + 1) false).cell? ⟨g, 0, none⟩ = some (iV x) ∧
      PoAt iV (W.setChan (c k) room (buf.extract 1 buf.size) false s (r + 1) false) N p F n room (upd B k t) ∧ Keep F W (W.setChan (c k) room (buf.extract 1 buf.size) false s (r + 1) false) := by
  obtain ⟨s, r, hc⟩ := hv.ch k hk
  have hl := hL k hk
  rw [h] at hl
  cases e : L k with
  | nil => rw [e] at hl; simp at hl
  | cons y l =>
    rw [e, List.map_cons, List.cons.injEq] at hl
    obtain ⟨hx, ht⟩ := hl
    subst hx ht
    rw [e] at hc
    have hs := hv.set hk l s (r + 1) (fun e' he' => ⟨hv.inL k hk e' (by rw [e]; exact List.mem_cons_of_mem _ he'), hv.cell k hk e' (by rw [e]; exact List.mem_cons_of_mem _ he')⟩)
    have hy := hv.cell k hk y (by rw [e]; exact List.mem_cons_self ..)
    have hbuf : (((y :: l).map (fun e => pV e.1)).toArray).extract 1 (((y :: l).map (fun e => pV e.1)).toArray).size = (l.map (fun e => pV e.1)).toArray := by
      simp only [List.size_toArray, List.length_map, List.length_cons, List.extract_toArray, List.extract_eq_take_drop, List.map_cons, List.drop_succ_cons, List.drop_zero]
      rw [List.take_of_length_le (by simp)]
    refine ⟨y.1, s, r, _, hc, by simp, by simp, hv.inC k hk, hy, ?_, ?_, (Keep.refl F W).setChan (hv.inC k hk) ..⟩
    · rw [hbuf]
      exact cell_setChan hc hy
    · rw [hbuf]
      refine ⟨b, c, _, hs, fun j hj => ?_⟩
      by_cases e2 : j = k
      · subst e2
        rw [upd_at, upd_at]
      · rw [upd_ne e2, upd_ne e2, hL j hj]

theorem pi_get_ok (hA : PoAt iV W N p F n room B) (k : Nat) (x : Int) (t : List Int) (hk : k < n) (h : B k = x :: t) :
    Calls Try.prog 17 #[.pointer (some ⟨p, 0, none⟩), .int .i64 (k : Int)] W (OPost (fun w F => PoAt iV w N p F n room (upd B k t)) W F (.tuple #[iV x, .bool true])) := by
  obtain ⟨b, c, L, hv, hL⟩ := hA
  have V := Lib.hid hv
  obtain ⟨g, s, r, buf, hc, h0, hg, hF, _, hy, hP, hK⟩ := pi_taken hv hL k x t hk h
  have C := Lib.hid hc
  have R := Lib.hid (show OPost (fun w F => PoAt iV w N p F n room (upd B k t)) W F (.tuple #[iV x, .bool true]) (.returned (.tuple #[iV x, .bool true])) _ from ⟨rfl, F, hP, hK, fun _ f => Or.inl f⟩)
  have H0 := Lib.hid h0
  have HG := Lib.hid hg
  have he : iV x = .int .i64 x := rfl
  rw [he] at hy
  clear hv hL h hc h0 hg hF hP hK he
  go_enter Try.func17, Try.ntmps17
  go_upto_region 2 with (go_at_call 25; refine (pi_box V.out k hk).mono ?_; rintro e w' ⟨rfl, rfl⟩)
  refine wp_region_sel (w := w') (w1 := w') (w2 := w'.setChan (c k) room (buf.extract 1 buf.size) false s (r + 1) false) (cases := #[Go.Conc.rcase (c k) (.pointer none)]) (blocking := false) (shape := .select) (r := .tuple #[goInt 0, .bool true, pV g])
    rfl (by simp [go_sem, execOp, Go.Conc.rcase, Act.eval]) (fun fr cs es he => by rw [← HG.out]; exact Go.Conc.step_lone_select_recv_buf he C.out H0.out) ?_
  generalize w'.setChan (c k) room (buf.extract 1 buf.size) false s (r + 1) false = w2 at hy R ⊢
  have hpv : pV g = .pointer (some ⟨g, 0, none⟩) := rfl
  rw [hpv]
  clear hpv
  go_simp
  go_wp2_with fail
  go_ret2
  exact R.out

theorem pi_get (hA : PoAt iV W N p F n room B) (k : Int) :
    Calls Try.prog 17 #[.pointer (some ⟨p, 0, none⟩), .int .i64 k] W (OPost (fun w F => PoAt iV w N p F n room (popB n B k)) W F (.tuple #[iV (topB 0 n B k), .bool (hasB n B k)])) := by
  cases h : hasB n B k
  · rw [popB_no h, topB_no h]
    refine (pi_get_no hA k h).mono ?_
    rintro e w' ⟨rfl, rfl⟩
    exact ⟨rfl, F, hA, Keep.refl _ _, fun _ f => Or.inl f⟩
  · obtain ⟨j, rfl, hj, x, t, e⟩ := hasB_nat h
    rw [popB_cons hj e, topB_cons hj e]
    exact pi_get_ok hA j x t hj e

end

end Go.Proofs.Ytedfiejocajpkaa
