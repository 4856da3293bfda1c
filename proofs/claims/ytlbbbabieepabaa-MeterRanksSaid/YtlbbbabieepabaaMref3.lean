/-
  What the document's own meter tells: its numbers, its finite ones, sums, ranks.
-/
import Derived.Test.YtlbbbabieepabaaMref2
namespace Go.Proofs.Ytlbbbabieepabaa
open Go.RowKit

def ListPost (W : World) (ys : List Nat) (e : Ending) (w' : World) : Prop := ∃ v, e = .returned v ∧ IsFloats w' v ys ∧ Below W.heap.size W w'

theorem filter_take (p : Nat → Bool) (xs : List Nat) (k : Nat) (h : k < xs.length) : (xs.take (k + 1)).filter p = (xs.take k).filter p ++ (if p xs[k] then [xs[k]] else []) := by
  rw [List.take_succ_eq_append_getElem h, List.filter_append]
  congr 1
  cases hp : p xs[k] <;> simp [hp]

def FiltRel (W : World) (p : Nat → Bool) (xs : List Nat) (r i : Value) (w : World) : Prop :=
  ∃ (k : Nat) (ys : List Nat) (a : Option Addr) (c : Nat), k ≤ xs.length ∧ i = .int .i64 (k : Nat) ∧ r = .slice a ys.length c ∧ w.ownsRow W.heap.size 28 1 r ys.length (ys.map fV) ∧ Below W.heap.size W w ∧ ys = (xs.take k).filter p

theorem filt_next {W w w2 : World} {p : Nat → Bool} {xs ys : List Nat} {k : Nat} {v2 : Value} {o : Obj} {r : Value} (hk : k < xs.length) (hB : Below W.heap.size W w) (hO : w.ownsRow W.heap.size 28 1 r ys.length (ys.map fV)) (hy : ys = (xs.take k).filter p) (hp : p xs[k] = true)
    (hown : w2.ownsRow W.heap.size 28 1 v2 (ys.length + 1) (ys.map fV ++ [fV xs[k]])) (hgr : (w.alloc o).grownBy w2 r.ownBlock) : FiltRel W p xs v2 (.int .i64 ((k + 1 : Nat) : Int)) w2 := by
  obtain ⟨g, cap, rfl, _, _⟩ := hown.form (by omega)
  refine ⟨k + 1, ys ++ [xs[k]], some ⟨g, 0, none⟩, cap, by omega, rfl, by simp, by simpa using hown, (hB.alloc hB.size o).grown hgr (by have := hB.size; simp; omega) (fun b h => (hO.lt b h).1), ?_⟩
  rw [filter_take p xs k hk, hp, if_pos rfl, hy]

theorem filt_end {W w : World} {p : Nat → Bool} {xs ys : List Nat} {k : Nat} {v : Value} (hk : k = xs.length) (hl : ∀ x ∈ xs, x < 18446744073709551616) (hB : Below W.heap.size W w) (hO : w.ownsRow W.heap.size 28 1 v ys.length (ys.map fV)) (hy : ys = (xs.take k).filter p) : ListPost W (xs.filter p) (.returned v) w := by
  rw [hk, List.take_length] at hy
  subst hy
  exact ⟨v, rfl, (own_floats hO (fun x hx => hl x (List.mem_filter.1 hx).1)).1, hB⟩

def noB (x : Nat) : Bool := !nanB x

set_option maxHeartbeats 2000000 in
theorem numbers_any (W : World) (N r : Nat) (G : Nat → Prop) (xs : List Nat) (h : RefAt W N r G xs) (hn : xs.length ≤ 90) :
    Calls Try.prog 23 #[.pointer (some ⟨r, 0, none⟩)] W (ListPost W (numsL xs)) := by
  obtain ⟨i0, hi0, hz0, hz1, hz2⟩ := info_parts Try.infoF
  have hrW := (h.low r h.inR).2
  obtain ⟨ao, cap, hc, hare⟩ := h.are
  have AR := Lib.hid hare
  clear h hare
  go_enter Try.func23, Try.ntmps23
  go_wp2_with fail
  go_loopw [3, 4] (fun s i wr => FiltRel W noB xs s i wr) (fun _ i _ => xs.length - (intOf i).toNat)
  case atStart => exact ⟨0, [], none, 0, Nat.zero_le _, rfl, rfl, World.ownsRow_nil .., Below.refl _ _, rfl⟩
  case round =>
    obtain ⟨k, ys, a, c, hk, rfl, rfl, hO, hB, hy⟩ := hrel
    have hyl : ys.length ≤ 90 := by rw [hy]; exact Nat.le_trans (List.length_filter_le ..) (Nat.le_trans (List.length_take_le ..) (by omega))
    have k0 := (hB.cell (p := ⟨r, 0, none⟩) hrW).trans hc
    have HO := Lib.hid hO
    have HB := Lib.hid hB
    have HY := Lib.hid hy
    clear hO hB hy
    by_cases hlt : k < xs.length
    · obtain ⟨b, off, rfl, hbW, hcx⟩ := AR.out.2 k hlt
      have hx := AR.out.1 xs[k] (List.getElem_mem hlt)
      have k1 := (HB.out.cell (p := ⟨b, off + k, none⟩) hbW).trans hcx
      have c0 := cls_zero xs[k]
      have NX := Lib.hid (fun (p : noB xs[k] = true) {v2 : Value} {w2 : World} {o : Obj} (h1 : w2.ownsRow W.heap.size 28 1 v2 (ys.length + 1) (ys.map fV ++ [fV xs[k]])) (h2 : (wr.alloc o).grownBy w2 (Value.slice a ys.length c).ownBlock) => filt_next hlt HB.out HO.out HY.out p h1 h2)
      have NF := Lib.hid (fun (p : noB xs[k] = false) => (show FiltRel W noB xs (.slice a ys.length c) (.int .i64 ((k + 1 : Nat) : Int)) wr from ⟨k + 1, ys, a, c, by omega, rfl, rfl, HO.out, HB.out, by rw [filter_take noB xs k hlt, p, HY.out]; simp⟩))
      generalize hq : xs[k] = q at *
      clear hq hcx
      cases hnan : nanB q
      · have d : (cls q != 0) = true := by show (!(cls q == 0)) = true; rw [c0, hnan]; rfl
        have P := Lib.hid (show noB q = true by unfold noB; rw [hnan]; rfl)
        clear c0 hnan
        go_wp2_with (first
          | (go_at_call 15; refine (rclass_any q _ hx).mono ?_; rintro e w' ⟨rfl, rfl⟩)
          | (at_builtin; refine wpList_append_own _ rfl (.tmp 23) (.tmp 31) 34 rfl W.heap.size 28 i0 (.float .f64 0) 1 8 Try.underlying34 hi0 hz0 hz1 hz2 rfl (by decide) _ _ _ rfl (World.ownsRow.alloc HO.out _) ⟨wr.heap.size, 0, none⟩ 1 1 [fV q] rfl rfl (World.news_of_block (heap_alloc_new _ _)) (by simp [fV, Value.oneCell']) (by unfold maxLen; omega) (by omega) (by have := HB.out.size; simp; omega) ?_
             intro v2 w2 hown2 hgr2 _
             have R := Lib.hid (NX.out P.out hown2 hgr2)
             clear hown2 hgr2))
        go_roundw
        case rel => exact R.out
        case measure => simp [intOf]; omega
      · have d : (cls q != 0) = false := by show (!(cls q == 0)) = false; rw [c0, hnan]; rfl
        have R := Lib.hid (NF.out (by unfold noB; rw [hnan]; rfl))
        clear c0 hnan
        go_wp2_with (go_at_call 15; refine (rclass_any q _ hx).mono ?_; rintro e w' ⟨rfl, rfl⟩)
        go_roundw
        case rel => exact R.out
        case measure => simp [intOf]; omega
    · have E := Lib.hid (filt_end (by omega) AR.out.1 HB.out HO.out HY.out)
      go_wp2_with fail
      go_ret
      exact E.out

theorem fin_cls (x : Nat) (h : x < 18446744073709551616) : finB x = (decide (2 ≤ cls x) && decide (cls x ≤ 5)) := by
  unfold finB infB infPB cls infNB infPB ltzB gtzB sgnB
  cases hn : nanB x
  · have hr := (nan_iff x).1 hn
    have hnn : ¬ Fl.isNan x := by unfold nanB at hn; exact of_decide_eq_false hn
    unfold Fl.rung at hr
    simp only [Bool.false_eq_true, if_false, Bool.not_false, Bool.true_and, hnn, not_false_eq_true, true_and]
    by_cases h1 : x = 18442240474082181120
    · subst h1; simp
    · by_cases h2 : x = 9218868437227405312
      · subst h2; simp
      · have : ¬ x % 9223372036854775808 = 9218868437227405312 := by omega
        simp only [h1, h2, this, decide_false, Bool.false_eq_true, if_false, Bool.not_false]
        repeat' split
        all_goals first | rfl | simp_all
  · simp

end Go.Proofs.Ytlbbbabieepabaa
