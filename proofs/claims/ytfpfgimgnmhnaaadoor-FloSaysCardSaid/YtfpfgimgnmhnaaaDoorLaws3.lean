/-
  The statement of ends, walked.
-/
import Derived.Test.YtfpfgimgnmhnaaaDoorEnds
namespace Go.Proofs.YtfpfgimgnmhnaaaDoor
open Go.RowKit

/-- A value that is a slice of the words xs, wherever it lies. -/
def IsFloats (w : World) (v : Value) (xs : List Nat) : Prop :=
  (∃ a cap, v = .slice a 0 cap ∧ xs = []) ∨ ∃ b off cap, v = .slice (some ⟨b, off, none⟩) xs.length cap ∧ b < w.heap.size ∧ Floats w b off xs

theorem Floats.below {w w' : World} {b off : Nat} {xs : List Nat} (h : Floats w b off xs) (hb : Below w.heap.size w w') (hlt : b < w.heap.size) : Floats w' b off xs :=
  ⟨h.lt, fun i hi => by rw [hb.cell (p := ⟨b, off + i, none⟩) hlt]; exact h.cell i hi⟩

def someN (xs : List Nat) (k m : Nat) : Bool := (xs.take k).any fun x => sameN x m

theorem someN_succ (xs : List Nat) (k m : Nat) (h : k < xs.length) : someN xs (k + 1) m = (someN xs k m || sameN xs[k] m) := by
  unfold someN
  rw [List.take_succ_eq_append_getElem h, List.any_append]; simp
theorem someN_all (xs : List Nat) (m : Nat) : someN xs xs.length m = xs.any fun x => sameN x m := by
  unfold someN; rw [List.take_length]

set_option maxRecDepth 100000 in
set_option maxHeartbeats 2000000 in
theorem ends_many (xs : List Nat) (b off cap : Nat) (w : World) (ht : Tab w) (hx : Floats w b off xs) (hlt : b < w.heap.size) (hn : xs.length ≤ 40) (h1 : 1 ≤ xs.length) :
    Calls Tryd.prog 7 #[.slice (some ⟨b, off, none⟩) xs.length cap] w fun e w' => e = .returned (.bool true) ∧ Below w.heap.size w w' := by
  have hml := min_lt xs hx.lt
  have hxl := max_lt xs hx.lt
  have HNAN := Lib.hid (fun h => (⟨minGo_nan xs _ h, maxGo_nan xs _ h⟩ : minN xs = nanW ∧ maxN xs = nanW))
  have HOK := Lib.hid (fun h : ∀ x ∈ xs, nanB x = false => (⟨min_in xs (by rintro rfl; simp at h1) hx.lt h, max_in xs (by rintro rfl; simp at h1) hx.lt h, (minGo_ok xs 9218868437227405312 h).2.1, (maxGo_ok xs 18442240474082181120 h).2.1⟩ :
    xs.any (fun x => sameN x (minN xs)) = true ∧ xs.any (fun x => sameN x (maxN xs)) = true ∧ (∀ x ∈ xs, keyN (minN xs) ≤ keyN x) ∧ (∀ x ∈ xs, keyN x ≤ keyN (maxN xs))))
  go_enter Tryd.func7, Tryd.ntmps7
  go_wp2_with fail
  refine (awake_any _ ht).mono ?_
  rintro e w1 ⟨rfl, hbl⟩
  have hx1 := hx.below hbl hlt
  clear hx
  go_wp2_with (first | (go_at_call 22; refine (min_any xs b off cap _ hx1 hn).mono ?_; rintro e w' ⟨rfl, rfl⟩) | (go_at_call 23; refine (max_any xs b off cap _ hx1 hn).mono ?_; rintro e w' ⟨rfl, rfl⟩))
  have HL := Lib.hid hx1.lt
  have HC := Lib.hid hx1.cell
  clear hx1
  go_loop [5, 6, 7] (fun s t i => ∃ k : Nat, k ≤ xs.length ∧ i = .int .i64 k ∧ s = .bool (someN xs k (minN xs)) ∧ t = .bool (someN xs k (maxN xs)) ∧ Hid (∀ j (h : j < xs.length), j < k → nanB xs[j] = false)) (fun _ _ i => xs.length - (intOf i).toNat)
  case atStart => exact ⟨0, Nat.zero_le _, rfl, rfl, rfl, fun j _ h => by omega⟩
  case round =>
    obtain ⟨k, hk, rfl, rfl, rfl, hr⟩ := hrel
    by_cases hlt : k < xs.length
    · have hb := HL.out xs[k] (List.getElem_mem hlt)
      have hc := HC.out k hlt
      have SS := Lib.hid (someN_succ xs k (minN xs) hlt)
      have ST := Lib.hid (someN_succ xs k (maxN xs) hlt)
      have HN := Lib.hid (fun h : nanB xs[k] = true => HNAN.out ⟨_, List.getElem_mem hlt, h⟩)
      have HR : Hid (nanB xs[k] = false → ∀ j (h : j < xs.length), j < k + 1 → nanB xs[j] = false) := fun hq j h hj => by
        by_cases e : j = k
        · subst e; exact hq
        · exact hr.out j h (by omega)
      generalize hq : xs[k] = q at *
      clear hq
      cases hnan : nanB q
      · have c0 := cls_zero q
        rw [hnan] at c0
        have HR := Lib.hid (HR.out hnan)
        clear hnan
        generalize hs : someN xs k (minN xs) = s at *
        generalize hu : someN xs k (maxN xs) = u at *
        clear hs hu
        cases s <;> cases u
        all_goals
          go_wp2_with (first | (go_at_call 16; refine (class_any q _ hb).mono ?_; rintro e w' ⟨rfl, rfl⟩) | (go_at_call 18; (with_reducible refine (same_any q (minN xs) _ hb hml).mono ?_); rintro e w' ⟨rfl, rfl⟩) | (go_at_call 18; (with_reducible refine (same_any q (maxN xs) _ hb hxl).mono ?_); rintro e w' ⟨rfl, rfl⟩))
          go_round
          case rel => exact ⟨k + 1, by omega, by go_num, by rw [SS.out]; rfl, by rw [ST.out]; rfl, HR.out⟩
          case measure => simp [intOf]; omega
      · have c0 := cls_zero q
        rw [hnan] at c0
        obtain ⟨e1, e2⟩ := HN.out hnan
        have n1 := cls_zero (minN xs)
        rw [show nanB (minN xs) = true by rw [e1]; decide +kernel] at n1
        have n2 := cls_zero (maxN xs)
        rw [show nanB (maxN xs) = true by rw [e2]; decide +kernel] at n2
        clear hnan e1 e2
        go_wp2_with (first | (go_at_call 16; (with_reducible refine (class_any q _ hb).mono ?_); rintro e w' ⟨rfl, rfl⟩) | (go_at_call 16; (with_reducible refine (class_any (minN xs) _ hml).mono ?_); rintro e w' ⟨rfl, rfl⟩) | (go_at_call 16; (with_reducible refine (class_any (maxN xs) _ hxl).mono ?_); rintro e w' ⟨rfl, rfl⟩))
        go_ret
        exact ⟨rfl, hbl⟩
    · obtain rfl : k = xs.length := by omega
      have hall : ∀ x ∈ xs, nanB x = false := fun x hx => by
        obtain ⟨j, hj, rfl⟩ := List.mem_iff_getElem.1 hx
        exact hr.out j hj hj
      obtain ⟨a1, a2, a3, a4⟩ := HOK.out hall
      rw [← someN_all] at a1 a2
      have A3 := Lib.hid a3
      have A4 := Lib.hid a4
      clear a3 a4 hall
      go_wp2
      go_loop [8] (fun i => ∃ k : Nat, k ≤ xs.length ∧ i = .int .i64 k) (fun i => xs.length - (intOf i).toNat)
      case atStart => exact ⟨0, Nat.zero_le _, rfl⟩
      case round =>
        obtain ⟨k, hk, rfl⟩ := hrel
        by_cases hlt : k < xs.length
        · have hb := HL.out xs[k] (List.getElem_mem hlt)
          have hc := HC.out k hlt
          have q1 : decide (cmpN xs[k] (minN xs) < 0) = false := by
            have := A3.out xs[k] (List.getElem_mem hlt)
            rw [cmp_neg]; simp; omega
          have q2 : decide (0 < cmpN xs[k] (maxN xs)) = false := by
            have := A4.out xs[k] (List.getElem_mem hlt)
            rw [cmp_pos]; simp; omega
          generalize hq : xs[k] = q at *
          clear hq
          go_wp2_with (first | (go_at_call 20; (with_reducible refine (cmp_any q (minN xs) _ hb hml).mono ?_); rintro e w' ⟨rfl, rfl⟩) | (go_at_call 20; (with_reducible refine (cmp_any q (maxN xs) _ hb hxl).mono ?_); rintro e w' ⟨rfl, rfl⟩))
          go_round
          case rel => exact ⟨k + 1, by omega, by go_num⟩
          case measure => simp [intOf]; omega
        · go_wp2
          go_ret
          exact ⟨rfl, hbl⟩

set_option maxHeartbeats 2000000 in
theorem ends_none (a : Option Addr) (cap : Nat) (w : World) (ht : Tab w) :
    Calls Tryd.prog 7 #[.slice a 0 cap] w fun e w' => e = .returned (.bool true) ∧ Below w.heap.size w w' := by
  go_enter Tryd.func7, Tryd.ntmps7
  go_wp2_with fail
  refine (awake_any _ ht).mono ?_
  rintro e w1 ⟨rfl, hbl⟩
  go_wp2
  go_ret
  exact ⟨rfl, hbl⟩

set_option maxHeartbeats 2000000 in
theorem ends_long (a : Option Addr) (n cap : Nat) (w : World) (ht : Tab w) (h : 40 < n) :
    Calls Tryd.prog 7 #[.slice a n cap] w fun e w' => e = .returned (.bool true) ∧ Below w.heap.size w w' := by
  go_enter Tryd.func7, Tryd.ntmps7
  go_wp2_with fail
  refine (awake_any _ ht).mono ?_
  rintro e w1 ⟨rfl, hbl⟩
  go_wp2
  go_ret
  exact ⟨rfl, hbl⟩

theorem law_FloEnds (v : Value) (w : World) (ht : Tab w) (xs : List Nat) (hx : IsFloats w v xs) :
    Calls Tryd.prog 7 #[v] w fun e w' => e = .returned (.bool true) ∧ Below w.heap.size w w' := by
  rcases hx with ⟨a, cap, rfl, rfl⟩ | ⟨b, off, cap, rfl, hlt, hx⟩
  · exact ends_none a cap w ht
  · by_cases h40 : 40 < xs.length
    · exact ends_long _ _ cap w ht h40
    · by_cases h1 : 1 ≤ xs.length
      · exact ends_many xs b off cap w ht hx hlt (by omega) h1
      · rw [show xs.length = 0 by omega]
        exact ends_none _ cap w ht

end Go.Proofs.YtfpfgimgnmhnaaaDoor
