/-
  What goes through one box comes out in its order; the least box first.
-/
import Derived.Test.YtedfiejocajpkaaYaw
import Derived.Deep.RegionWith
namespace Go.Proofs.Ytedfiejocajpkaa
open Go.RowKit

theorem PoOn.congr {α : Type} {enc : α → Value} {W w : World} {N p n room : Nat} {B B' : Nat → List α} (h : PoOn enc W N p n room B w) (hB : ∀ k, k < n → B k = B' k) : PoOn enc W N p n room B' w := by
  obtain ⟨F, ⟨b, c, L, hv, hL⟩, hb⟩ := h
  exact ⟨F, ⟨b, c, L, hv, fun k hk => (hL k hk).trans (hB k hk)⟩, hb⟩

/-- What lies in box k: of the first i; of all, from i on. -/
def dealB (n : Nat) (l : List Int) (i : Nat) : Nat → List Int := fun k => ((List.range i).filter (fun j => j % n == k)).map (fun j => l.getD j 0)
def fromB (n : Nat) (l : List Int) (k i : Nat) : List Int := ((List.range l.length).filter (fun j => j % n == k && decide (i ≤ j))).map (fun j => l.getD j 0)
def takB (n : Nat) (l : List Int) (b i : Nat) : Nat → List Int := fun k => if k < b then [] else if k = b then fromB n l b i else dealB n l l.length k

theorem deal_zero (n : Nat) (l : List Int) : dealB n l 0 = fun _ => [] := rfl
theorem deal_len (n : Nat) (l : List Int) (i k : Nat) : (dealB n l i k).length ≤ i := by
  unfold dealB
  rw [List.length_map]
  exact Nat.le_trans (List.length_filter_le _ _) (by rw [List.length_range]; exact Nat.le_refl _)
theorem deal_succ {n : Nat} {l : List Int} {i : Nat} (h : i < l.length) : dealB n l (i + 1) = upd (dealB n l i) (i % n) (dealB n l i (i % n) ++ [l[i]]) := by
  funext k
  unfold dealB
  rw [List.range_succ, List.filter_append, List.map_append]
  by_cases e : k = i % n
  · subst e
    rw [upd_at]
    simp [List.getD_eq_getElem?_getD, h]
  · rw [upd_ne e]
    have e2 : (i % n == k) = false := by simpa using fun e3 => e e3.symm
    simp [e2]

theorem from_start (n : Nat) (l : List Int) (k : Nat) : fromB n l k k = dealB n l l.length k := by
  unfold fromB dealB
  congr 1
  refine List.filter_congr fun j _ => ?_
  by_cases e : j % n = k
  · have hk : k ≤ j := by rw [← e]; exact Nat.mod_le _ _
    simp [e, hk]
  · simp [e]
theorem from_done {n : Nat} {l : List Int} {k i : Nat} (h : l.length ≤ i) : fromB n l k i = [] := by
  unfold fromB
  rw [List.filter_eq_nil_iff.2 fun j hj => by
    have := List.mem_range.1 hj
    rw [decide_eq_false (by omega), Bool.and_false]
    decide]
  rfl
theorem from_next {n : Nat} {l : List Int} {k i : Nat} (hn : 0 < n) (h : i < l.length) (hk : i % n = k) : fromB n l k i = l[i] :: fromB n l k (i + n) := by
  have hr : List.range l.length = List.range' 0 i ++ (i :: List.range' (i + 1) (l.length - i - 1)) := by
    rw [List.range_eq_range', ← List.range'_succ, show l.length - i - 1 + 1 = l.length - i by omega]
    have := List.range'_append_1 (s := 0) (m := i) (n := l.length - i)
    rw [Nat.zero_add] at this
    rw [this, show i + (l.length - i) = l.length by omega]
  have low : ∀ m, i ≤ m → (List.range' 0 i).filter (fun j => j % n == k && decide (m ≤ j)) = [] := fun m hm => List.filter_eq_nil_iff.2 fun j hj => by
    have := List.mem_range'_1.1 hj
    rw [decide_eq_false (by omega), Bool.and_false]
    decide
  unfold fromB
  rw [hr, List.filter_append, List.filter_append, low i (Nat.le_refl _), low (i + n) (by omega), List.nil_append, List.nil_append]
  rw [List.filter_cons_of_pos (by simp [hk]), List.filter_cons_of_neg (by simp; omega), List.map_cons]
  congr 1
  · simp [List.getD_eq_getElem?_getD, h]
  · congr 1
    refine List.filter_congr fun j hj => ?_
    have hj2 := List.mem_range'_1.1 hj
    by_cases e : j % n = k
    · have h1 : i + n ≤ j := by
        have a1 := Nat.div_add_mod i n
        have a2 := Nat.div_add_mod j n
        rw [hk] at a1
        rw [e] at a2
        have hlt : i / n < j / n := by
          rcases Nat.lt_or_ge (i / n) (j / n) with hh | hh
          · exact hh
          · have := Nat.mul_le_mul_left n hh
            omega
        have h3 := Nat.mul_le_mul_left n hlt
        rw [Nat.mul_succ] at h3
        omega
      show (j % n == k && decide (i ≤ j)) = (j % n == k && decide (i + n ≤ j))
      rw [decide_eq_true (show i ≤ j by omega), decide_eq_true h1]
    · show (j % n == k && decide (i ≤ j)) = (j % n == k && decide (i + n ≤ j))
      rw [show (j % n == k) = false by simpa using e]
      rfl

theorem tak_low {n : Nat} {l : List Int} {b i j : Nat} (h : j < b) : takB n l b i j = [] := if_pos h
theorem tak_at (n : Nat) (l : List Int) (b i : Nat) : takB n l b i b = fromB n l b i := by
  unfold takB
  rw [if_neg (Nat.lt_irrefl b), if_pos rfl]
theorem tak_start (n : Nat) (l : List Int) (k : Nat) : dealB n l l.length k = takB n l 0 0 k := by
  unfold takB
  rw [if_neg (Nat.not_lt_zero _)]
  by_cases e : k = 0
  · subst e
    rw [if_pos rfl, from_start]
  · rw [if_neg e]
theorem tak_turn {n : Nat} {l : List Int} {b i k : Nat} (h : l.length ≤ i) : takB n l b i k = takB n l (b + 1) (b + 1) k := by
  unfold takB
  by_cases h1 : k < b
  · rw [if_pos h1, if_pos (by omega)]
  · rw [if_neg h1]
    by_cases h2 : k = b
    · rw [if_pos h2, if_pos (by omega), from_done h]
    · rw [if_neg h2, if_neg (by omega)]
      by_cases h3 : k = b + 1
      · rw [if_pos h3, h3, from_start]
      · rw [if_neg h3]
theorem tak_pop {n : Nat} {l : List Int} {b i : Nat} (hb : b < n) (h : i < l.length) (hk : i % n = b) : popB n (takB n l b i) (b : Int) = takB n l b (i + n) := by
  rw [popB_cons hb ((tak_at n l b i).trans (from_next (by omega) h hk))]
  funext k
  by_cases e : k = b
  · subst e
    rw [upd_at, tak_at]
  · rw [upd_ne e]
    unfold takB
    rw [if_neg e, if_neg e]

def PutRel (W : World) (N p n : Nat) (l : List Int) (i : Value) (wr : World) : Prop :=
  ∃ j, j ≤ l.length ∧ i = .int .i64 (j : Nat) ∧ PoOn iV W N p n 64 (dealB n l j) wr
def BoxRel (W : World) (N p n : Nat) (l : List Int) (i : Value) (wr : World) : Prop :=
  ∃ b, b ≤ n ∧ i = .int .i64 (b : Nat) ∧ PoOn iV W N p n 64 (takB n l b b) wr
def TakRel (W : World) (N p n : Nat) (l : List Int) (b : Nat) (i : Value) (wr : World) : Prop :=
  ∃ j, j ≤ l.length + n ∧ j % n = b ∧ i = .int .i64 (j : Nat) ∧ PoOn iV W N p n 64 (takB n l b j) wr

set_option maxRecDepth 20000 in
set_option maxHeartbeats 4000000 in
theorem law_PostOrder (l : List Int) (ao : Option Addr) (cap : Nat) (boxes : Int) (W : World) (hs : SlV W ao cap (l.map iV)) : Calls Try.prog 5 #[.slice ao l.length cap, .int .i64 boxes] W (PoOk W) := by
  have HS := Lib.hid hs
  have hfit := hs.fit
  have hmax := hs.max
  rw [List.length_map] at hfit
  unfold maxLen at hmax
  clear hs
  go_enter Try.func5, Try.ntmps5
  go_wp2_with fail
  refine (po_awake W).mono ?_
  rintro e w0 ⟨rfl, hb0⟩
  have B0 := Lib.hid hb0
  clear hb0
  by_cases h1 : 60 < l.length
  · have d1 : decide ((l.length : Int) > 60) = true := decide_eq_true (by omega)
    go_wp2_with fail
    go_ret
    exact ⟨rfl, B0.out⟩
  · have d1 : decide ((l.length : Int) > 60) = false := decide_eq_false (by omega)
    by_cases h2 : boxes < 1
    · have d2 : decide (boxes < 1) = true := decide_eq_true h2
      clear h2
      go_wp2_with fail
      go_ret
      exact ⟨rfl, B0.out⟩
    · have d2 : decide (boxes < 1) = false := decide_eq_false h2
      by_cases h3 : boxes > 16
      · have d3 : decide (boxes > 16) = true := decide_eq_true h3
        clear h2 h3
        go_wp2_with fail
        go_ret
        exact ⟨rfl, B0.out⟩
      · have d3 : decide (boxes > 16) = false := decide_eq_false h3
        obtain ⟨n, rfl⟩ : ∃ n : Nat, boxes = n := ⟨boxes.toNat, by omega⟩
        have hn : 0 < n ∧ n ≤ 16 := by omega
        clear h2 h3
        go_wp2_with fail
        refine (pi_on_new n 64 B0.out (Nat.le_refl _) hn (by decide)).mono ?_
        rintro e w1 ⟨p, rfl, hL1⟩
        have L1 := Lib.hid (show PoOn iV W W.heap.size p n 64 (dealB n l 0) w1 by rw [deal_zero]; exact hL1)
        clear hL1
        go_wp2_with fail
        go_loopw [7] (fun i wr => PutRel W W.heap.size p n l i wr) (fun i _ => l.length - (intOf i).toNat)
        case atStart => exact ⟨0, Nat.zero_le _, rfl, L1.out⟩
        case round =>
          obtain ⟨j, hj, rfl, hL⟩ := hrel
          by_cases hlt : j < l.length
          · obtain ⟨b, off, rfl, hbW, hcx⟩ := HS.out.at j hlt
            have k1 : wr.drew.cell? ⟨b, off + j, none⟩ = some (.int .i64 l[j]) := (hL.be.cell (p := ⟨b, off + j, none⟩) hbW).trans hcx
            have hm : j % n < n := Nat.mod_lt _ hn.1
            have L := Lib.hid hL.drew
            have hc : canB n 64 (dealB n l j) ((j % n : Nat) : Int) = true := by
              unfold canB
              rw [hasZ_lt hm, Int.toNat_natCast, decide_eq_true (by have := deal_len n l j (j % n); omega)]
              rfl
            have SC := Lib.hid hc
            have ST := Lib.hid (show putB n 64 (dealB n l j) ((j % n : Nat) : Int) l[j] = dealB n l (j + 1) by rw [deal_succ hlt]; exact putB_ok hm (by have := deal_len n l j (j % n); omega))
            have jm : (j : Int).tmod (n : Int) = ((j % n : Nat) : Int) := by rw [Int.tmod_eq_emod_of_nonneg (by omega)]; rfl
            have jz : ¬ (n : Int) = 0 := by omega
            have jb : (j : Int) < (l.length : Int) := by omega
            have j0 : (0 : Int) ≤ (j : Int) := by omega
            clear hL hcx hc
            generalize l[j] = x at *
            generalize hM : ((j % n : Nat) : Int) = M at *
            clear hM
            go_wp2_with fail
            go_region_with (go_at_call 15; refine (pi_on_put L.out SC.out).mono ?_; rintro e w2 ⟨rfl, h2⟩; rw [ST.out] at h2; have L2 := Lib.hid h2; clear h2)
            all_goals
              go_wp2_with fail
              go_roundw
              case rel => exact ⟨j + 1, by omega, by go_num, L2.out⟩
              case measure => simp only [intOf]; omega
          · obtain rfl : j = l.length := by omega
            have L := Lib.hid (hL.congr (fun k _ => tak_start n l k))
            clear hL
            go_wp2_with fail
            go_loopw [8] (fun i wr => BoxRel W W.heap.size p n l i wr) (fun i _ => n - (intOf i).toNat)
            case atStart => exact ⟨0, Nat.zero_le _, rfl, L.out⟩
            case round =>
              obtain ⟨b, hb, rfl, hL⟩ := hrel
              by_cases hbn : b < n
              · have LB := Lib.hid hL
                have bb : (b : Int) < (n : Int) := by omega
                clear hL L
                go_wp2_with fail
                go_loopw [9] (fun i wr => TakRel W W.heap.size p n l b i wr) (fun i _ => l.length + n - (intOf i).toNat)
                case atStart => exact ⟨b, by omega, Nat.mod_eq_of_lt hbn, rfl, LB.out⟩
                case round =>
                  obtain ⟨i, hi, him, rfl, hL⟩ := hrel
                  have HM := Lib.hid him
                  clear him
                  by_cases hlt : i < l.length
                  · obtain ⟨g, off, rfl, hbW, hcx⟩ := HS.out.at i hlt
                    have HX := Lib.hid hcx
                    have L := Lib.hid hL
                    have hne := from_next (k := b) hn.1 hlt HM.out
                    have AT := Lib.hid ((tak_at n l b i).trans hne)
                    have NX := Lib.hid (tak_pop hbn hlt HM.out)
                    have TP := Lib.hid (topB_cons (z := 0) hbn AT.out)
                    have HB := Lib.hid (hasB_cons hbn AT.out)
                    have HE := Lib.hid (show takB n l b i b ≠ [] by rw [AT.out]; simp)
                    have hk : (if b < n then (b : Int) else 0) = (b : Int) := if_pos hbn
                    have HK := Lib.hid hk
                    have ib : (i : Int) < (l.length : Int) := by omega
                    have i0 : (0 : Int) ≤ (i : Int) := by omega
                    clear hL hcx hne hk AT
                    generalize l[i] = x at *
                    go_wp2_with fail
                    refine (pi_on_any L.out (Nat.le_of_lt hbn) (fun j hj => tak_low hj) (fun _ => HE.out) HK.out TP.out HB.out).mono ?_
                    rintro e w2 ⟨rfl, h2⟩
                    rw [NX.out] at h2
                    have k1 : w2.cell? ⟨g, off + i, none⟩ = some (.int .i64 x) := (h2.be.cell (p := ⟨g, off + i, none⟩) hbW).trans HX.out
                    have L2 := Lib.hid h2
                    clear h2
                    go_wp2_with fail
                    go_roundw
                    case rel => exact ⟨i + n, by omega, by rw [Nat.add_mod_right]; exact HM.out, by go_num, L2.out⟩
                    case measure => simp only [intOf]; omega
                  · have L := Lib.hid (hL.congr (fun k _ => tak_turn (by omega)))
                    have i2 : ¬ (i : Int) < (l.length : Int) := by omega
                    clear hL
                    go_wp2_with fail
                    go_roundw
                    case rel => exact ⟨b + 1, by omega, by go_num, L.out⟩
                    case measure => simp only [intOf]; omega
              · obtain rfl : b = n := by omega
                have LB := Lib.hid hL
                have HN := Lib.hid (show hasB b (takB b l b b) (b : Int) = false by
                  unfold hasB hasZ
                  rw [decide_eq_false (by omega), Bool.false_and])
                clear hL L
                go_wp2_with fail
                refine (pi_on_any (m := b) (k := 0) (x := 0) (r := false) LB.out (Nat.le_refl _) (fun j hj => tak_low hj) (fun h => absurd h (Nat.lt_irrefl _)) (if_neg (Nat.lt_irrefl _)) (topB_no HN.out) HN.out).mono ?_
                rintro e w2 ⟨rfl, h2⟩
                have L2 := Lib.hid h2
                clear h2
                go_wp2_with fail
                go_ret
                exact ⟨rfl, L2.out.be⟩

end Go.Proofs.Ytedfiejocajpkaa
