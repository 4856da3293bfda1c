/-
  mat's own small calls: sized, within; whether a square may be.
-/
import Derived.Test.YtfiamomadicbpaaChlp
import Derived.Test.YtfiamomadicbpaaCmk
namespace Go.Proofs.Ytfiamomadicbpaa
open Go.RowKit

set_option maxRecDepth 20000 in
theorem msized_any {W : World} {z : Int} {r : Bool} (hr : decide (1 ≤ z ∧ z ≤ 16) = r) :
    Calls Try.prog 27 #[.int .i64 z] W fun e w' => e = .returned (.bool r) ∧ W = w' := by
  subst hr
  by_cases h1 : 1 ≤ z
  · have d1 : decide ((1 : Int) ≤ z) = true := decide_eq_true h1
    by_cases h2 : z ≤ 16
    · have d2 : decide (z ≤ 16) = true := decide_eq_true h2
      rw [decide_eq_true (show 1 ≤ z ∧ z ≤ 16 from ⟨h1, h2⟩)]
      clear h1 h2
      go_enter Try.func27, Try.ntmps27
      go_wp2_with fail
      go_ret
      exact ⟨rfl, rfl⟩
    · have d2 : decide (z ≤ 16) = false := decide_eq_false h2
      rw [decide_eq_false (show ¬ (1 ≤ z ∧ z ≤ 16) from fun h => h2 h.2)]
      clear h1 h2
      go_enter Try.func27, Try.ntmps27
      go_wp2_with fail
      go_ret
      exact ⟨rfl, rfl⟩
  · have d1 : decide ((1 : Int) ≤ z) = false := decide_eq_false h1
    rw [decide_eq_false (show ¬ (1 ≤ z ∧ z ≤ 16) from fun h => h1 h.1)]
    clear h1
    go_enter Try.func27, Try.ntmps27
    go_wp2_with fail
    go_ret
    exact ⟨rfl, rfl⟩

set_option maxRecDepth 20000 in
theorem mwithin_any {W : World} {i z : Int} {r : Bool} (hr : decide (0 ≤ i ∧ i < z) = r) :
    Calls Try.prog 30 #[.int .i64 i, .int .i64 z] W fun e w' => e = .returned (.bool r) ∧ W = w' := by
  subst hr
  by_cases h1 : 0 ≤ i
  · have d1 : decide ((0 : Int) ≤ i) = true := decide_eq_true h1
    by_cases h2 : i < z
    · have d2 : decide (i < z) = true := decide_eq_true h2
      rw [decide_eq_true (show 0 ≤ i ∧ i < z from ⟨h1, h2⟩)]
      clear h1 h2
      go_enter Try.func30, Try.ntmps30
      go_wp2_with fail
      go_ret
      exact ⟨rfl, rfl⟩
    · have d2 : decide (i < z) = false := decide_eq_false h2
      rw [decide_eq_false (show ¬ (0 ≤ i ∧ i < z) from fun h => h2 h.2)]
      clear h1 h2
      go_enter Try.func30, Try.ntmps30
      go_wp2_with fail
      go_ret
      exact ⟨rfl, rfl⟩
  · have d1 : decide ((0 : Int) ≤ i) = false := decide_eq_false h1
    rw [decide_eq_false (show ¬ (0 ≤ i ∧ i < z) from fun h => h1 h.1)]
    clear h1
    go_enter Try.func30, Try.ntmps30
    go_wp2_with fail
    go_ret
    exact ⟨rfl, rfl⟩

/-- The closure of Good: is a row of another length? -/
theorem mrow_any {W : World} {p : Nat} {z : Int} {ra : Option Addr} {rn rc : Nat} (hc : W.cell? ⟨p, 0, none⟩ = some (.int .i64 z)) {r : Bool} (hr : ((rn : Int) != z) = r) :
    Calls Try.prog 38 #[.slice ra rn rc, .pointer (some ⟨p, 0, none⟩)] W fun e w' => e = .returned (.bool r) ∧ W = w' := by
  go_enter Try.func38, Try.ntmps38
  go_wp2_with fail
  go_ret
  exact ⟨rfl, rfl⟩

/-- Has some row another length? -/
def unevenM (z : Int) (m : List (List Nat)) : Bool := decide (∃ r ∈ m, (r.length : Int) ≠ z)

set_option maxRecDepth 20000 in
set_option maxHeartbeats 2000000 in
theorem midx_any {W : World} {p : Nat} {z : Int} {a : Option Addr} {cap n : Nat} {L : List Rd} (hc : W.cell? ⟨p, 0, none⟩ = some (.int .i64 z)) (h : SqV W a cap L) (hn : L.length = n) {r : Bool} (hr : unevenM z (mOf L) = r) :
    Calls Try.prog 47 #[.slice a n cap, .func (.func 38) #[] #[.pointer (some ⟨p, 0, none⟩)]] W fun e w' => (∃ k : Int, e = .returned (.int .i64 k) ∧ decide (k ≥ 0) = r) ∧ W = w' := by
  have hfit := h.fit
  have hmax := h.out.max
  unfold maxLen at hmax
  have S := Lib.hid h
  have HR := Lib.hid hr
  have HN := Lib.hid hn
  have HC := Lib.hid hc
  rw [hn] at hfit
  clear h hr hn hc
  go_enter Try.func47, Try.ntmps47
  go_wp2_with fail
  go_loop [8] (fun v => ∃ k : Nat, k ≤ n ∧ v = .int .i64 (k : Nat) ∧ Hid (∀ r ∈ L.take k, (r.l.length : Int) = z)) (fun v => n - (intOf v).toNat)
  case atStart => exact ⟨0, Nat.zero_le _, rfl, Lib.hid (fun r hr => by simp at hr)⟩
  case round =>
    obtain ⟨k, hk, rfl, hT⟩ := hrel
    by_cases hlt : k < n
    · have kl : k < L.length := by rw [HN.out]; exact hlt
      obtain ⟨b, off, rfl, hb, hc⟩ := S.out.at kl
      have i0 : (0 : Int) ≤ (k : Int) := by omega
      have i1 : (k : Int) < (n : Int) := by omega
      have hgt := Lib.hid (fun (h : (L[k].l.length : Int) ≠ z) => show true = r from by rw [← HR.out]; exact (decide_eq_true ⟨L[k].l, List.mem_map.2 ⟨L[k], List.getElem_mem _, rfl⟩, h⟩).symm)
      have hle := Lib.hid (fun (h : (L[k].l.length : Int) = z) => show ∀ r ∈ L.take (k + 1), (r.l.length : Int) = z from fun r hr => by
        rw [List.take_succ_eq_append_getElem kl] at hr
        rcases List.mem_append.1 hr with hr | hr
        · exact hT.out r hr
        · rw [List.mem_singleton.1 hr]; exact h)
      generalize L[k].l.length = x at *
      generalize L[k].a = ra at *
      generalize L[k].c = rc at *
      cases hx : ((x : Int) != z)
      · have CM := Lib.hid (mrow_any (ra := ra) (rn := x) (rc := rc) HC.out hx)
        have R := Lib.hid (hle.out (by simpa using hx))
        clear hx
        go_wp2_with (go_at_call 38; refine CM.out.mono ?_; rintro e w' ⟨rfl, rfl⟩)
        go_round
        case rel => exact ⟨k + 1, by omega, by go_num, R⟩
        case measure => simp only [intOf]; omega
      · have CM := Lib.hid (mrow_any (ra := ra) (rn := x) (rc := rc) HC.out hx)
        have R := Lib.hid (hgt.out (by simpa using hx))
        clear hx
        go_wp2_with (go_at_call 38; refine CM.out.mono ?_; rintro e w' ⟨rfl, rfl⟩)
        go_ret
        exact ⟨⟨k, rfl, by rw [← R.out]; exact decide_eq_true (by omega)⟩, rfl⟩
    · have R := Lib.hid (show false = r from by
        rw [← HR.out]
        refine (decide_eq_false ?_).symm
        rintro ⟨x, hx, hne⟩
        obtain ⟨y, hy, rfl⟩ := List.mem_map.1 hx
        refine hne (hT.out y ?_)
        rwa [List.take_of_length_le (by rw [HN.out]; omega)])
      go_wp2_with fail
      go_ret
      exact ⟨⟨-1, rfl, by rw [← R.out]; rfl⟩, rfl⟩

set_option maxRecDepth 20000 in
theorem mcont_any {W : World} {p : Nat} {z : Int} {a : Option Addr} {cap n : Nat} {L : List Rd} (hc : W.cell? ⟨p, 0, none⟩ = some (.int .i64 z)) (h : SqV W a cap L) (hn : L.length = n) {r : Bool} (hr : unevenM z (mOf L) = r) :
    Calls Try.prog 37 #[.slice a n cap, .func (.func 38) #[] #[.pointer (some ⟨p, 0, none⟩)]] W fun e w' => e = .returned (.bool r) ∧ W = w' := by
  have CI := Lib.hid (midx_any hc h hn hr)
  clear hc h hn hr
  go_enter Try.func37, Try.ntmps37
  go_wp2_with fail
  refine CI.out.mono ?_
  rintro e w' ⟨⟨k, rfl, hk⟩, rfl⟩
  go_wp2_with fail
  go_ret
  exact ⟨by first | rfl | rw [hk], rfl⟩

theorem goodM_split {z : Int} {m : List (List Nat)} : goodM z m = (decide (1 ≤ z ∧ z ≤ 16) && (decide ((m.length : Int) = z) && !unevenM z m)) := by
  rw [Bool.eq_iff_iff]
  simp only [goodM, unevenM, Bool.and_eq_true, Bool.not_eq_true', decide_eq_true_eq, decide_eq_false_iff_not]
  constructor
  · rintro ⟨h1, h2, h3, h4⟩
    exact ⟨⟨h1, h2⟩, h3, fun ⟨r, hr, hne⟩ => hne (h4 r hr)⟩
  · rintro ⟨⟨h1, h2⟩, h3, h4⟩
    exact ⟨h1, h2, h3, fun r hr => Classical.byContradiction fun h => h4 ⟨r, hr, h⟩⟩

set_option maxRecDepth 20000 in
set_option maxHeartbeats 2000000 in
theorem mgood_any {W : World} {a : Option Addr} {cap n : Nat} {L : List Rd} {z : Int} (h : SqV W a cap L) (hn : L.length = n) {r : Bool} (hr : goodM z (mOf L) = r) :
    Calls Try.prog 17 #[.agg #[.int .i64 z, .slice a n cap]] W fun e w' => e = .returned (.bool r) ∧ Below W.heap.size W w' := by
  have hmf : ∀ (fn : Fn) (first cap : Array Value) (w : World), (Instr.makeFunc fn first cap).run Try.prog w = .ok (.func fn first cap) w := fun _ _ _ _ => rfl
  obtain ⟨b1, h1⟩ : ∃ b, b = decide (1 ≤ z ∧ z ≤ 16) := ⟨_, rfl⟩
  obtain ⟨b2, h2⟩ : ∃ b, b = decide ((n : Int) = z) := ⟨_, rfl⟩
  obtain ⟨b3, h3⟩ : ∃ b, b = unevenM z (mOf L) := ⟨_, rfl⟩
  have HR := Lib.hid (show r = (b1 && (b2 && !b3)) from by rw [← hr, goodM_split, h1, h2, h3, mOf_len, hn])
  obtain ⟨w0, hw0⟩ : ∃ w0, w0 = W.alloc (.cells #[.int .i64 z, .slice a n cap] 25) := ⟨_, rfl⟩
  have hb : Below W.heap.size W w0 := by rw [hw0]; exact below_alloc (Below.refl _ _) _
  have hC : Cel 2 _ _ _ := (Cel.new W [.int .i64 z, .slice a n cap] 25).conv (V2 := mkC z (.slice a n cap)) (fun o ho => by
      rcases (show o = 0 ∨ o = 1 by simp at ho; omega) with rfl | rfl <;> rfl)
  rw [← show w0 = W.alloc (.cells #[.int .i64 z, .slice a n cap] 25) from hw0] at hC
  have c0 : w0.cell? ⟨W.heap.size, 0, none⟩ = some (.int .i64 z) := hC.c 0 (by decide)
  have c1 : w0.cell? ⟨W.heap.size, 1, none⟩ = some (.slice a n cap) := hC.c 1 (by decide)
  have CS := Lib.hid (msized_any (W := w0) h1.symm)
  have CC := Lib.hid (mcont_any c0 (h.below hb) hn h3.symm)
  have B := Lib.hid hb
  have HW := Lib.hid hw0.symm
  have e2 : ((n : Int) == z) = b2 := by rw [h2]; rfl
  clear hb hC h hn hr h1 h2 h3 hw0
  go_enter Try.func17, Try.ntmps17
  go_wp2_with fail
  rw [HW.out]
  cases b1 <;> cases b2
  all_goals
    go_wp2_with (first
      | (go_at_call 27; refine CS.out.mono ?_; rintro e w' ⟨rfl, rfl⟩)
      | (go_at_call 37; refine CC.out.mono ?_; rintro e w' ⟨rfl, rfl⟩))
    go_ret
    exact ⟨by rw [HR.out]; rfl, B.out⟩

end Go.Proofs.Ytfiamomadicbpaa
