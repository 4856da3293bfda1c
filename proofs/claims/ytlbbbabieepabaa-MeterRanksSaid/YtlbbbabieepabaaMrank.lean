/-
  How many are below.
-/
import Derived.Test.YtlbbbabieepabaaMread
import Derived.Deep.LoopGhost
namespace Go.Proofs.Ytlbbbabieepabaa
open Go.RowKit

set_option maxHeartbeats 400000 in
theorem isnan_cmp (x : Nat) (w : World) : Calls Try.prog 54 #[.int .u64 (x : Nat)] w fun e w' => e = .returned (.bool false) ∧ w = w' := by
  go_enter Try.func54, Try.ntmps54
  go_wp2
  go_ret
  exact ⟨ret_bool (by simp), rfl⟩
set_option maxHeartbeats 400000 in
theorem isnan_sl (x : Nat) (w : World) : Calls Try.prog 52 #[.int .u64 (x : Nat)] w fun e w' => e = .returned (.bool false) ∧ w = w' := by
  go_enter Try.func52, Try.ntmps52
  go_wp2
  go_ret
  exact ⟨ret_bool (by simp), rfl⟩
def ltB (x y : Nat) : Bool := decide ((x : Int) < (y : Int))
set_option maxHeartbeats 400000 in
theorem less_any (x y : Nat) (w : World) : Calls Try.prog 51 #[.int .u64 (x : Nat), .int .u64 (y : Nat)] w fun e w' => e = .returned (.bool (ltB x y)) ∧ w = w' := by
  have h : decide ((x : Int) < (y : Int)) = ltB x y := rfl
  generalize ltB x y = b at *
  go_enter Try.func51, Try.ntmps51
  go_wp2_with (go_at_call 54; refine (isnan_cmp _ _).mono ?_; rintro e w' ⟨rfl, rfl⟩)
  go_ret
  exact ⟨ret_bool (by simpa using h), rfl⟩

def belowN (ks : List Nat) (x : Nat) : Nat := ks.countP fun k => decide (k < x)
def SearchPost (W : World) (ks : List Nat) (x : Nat) (e : Ending) (w' : World) : Prop := ∃ b, e = .returned (.tuple #[.int .i64 (belowN ks x : Nat), .bool b]) ∧ ∃ q, w' = W.drewN q

theorem below_end (ks : List Nat) (x i : Nat) (hi : i ≤ ks.length) (h1 : ∀ t (ht : t < ks.length), t < i → ks[t] < x) (h2 : ∀ t (ht : t < ks.length), i ≤ t → x ≤ ks[t]) : belowN ks x = i := by
  unfold belowN
  induction ks generalizing i with
  | nil => have : i = 0 := by simpa using hi
           simp [this]
  | cons a r ih =>
    cases i with
    | zero =>
      have ha : ¬ a < x := by have := h2 0 (by simp) (by omega); simp at this; omega
      rw [List.countP_cons_of_neg (by simpa using ha)]
      exact ih 0 (by omega) (fun t ht h => by omega) (fun t ht _ => h2 (t + 1) (by simpa using ht) (by omega))
    | succ i =>
      have ha : a < x := by have := h1 0 (by simp) (by omega); simpa using this
      rw [List.countP_cons_of_pos (by simpa using ha)]
      rw [ih i (by simpa using hi) (fun t ht h => h1 (t + 1) (by simpa using ht) (by omega)) (fun t ht h => h2 (t + 1) (by simpa using ht) (by omega))]

theorem up_at {ks : List Nat} (h : ks.Pairwise (· ≤ ·)) (a b : Nat) (hb : b < ks.length) (hab : a ≤ b) : ks[a] ≤ ks[b] := by
  rcases Nat.eq_or_lt_of_le hab with rfl | hlt
  · exact Nat.le_refl _
  · exact List.pairwise_iff_getElem.1 h a b (by omega) hb hlt

set_option maxHeartbeats 4000000 in
theorem search_any (ks : List Nat) (x b o c : Nat) (w : World) (hr : RunAt w b o ks) (hn : ks.length ≤ 200) :
    Calls Try.prog 43 #[.slice (some ⟨b, o, none⟩) ks.length c, .int .u64 (x : Nat)] w (SearchPost w ks x) := by
  have HC := Lib.hid hr.cell
  have HU := Lib.hid hr.up
  have HP := Lib.hid hr.lt
  clear hr
  go_enter Try.func43, Try.ntmps43
  go_wp2_with fail
  go_loopg [7, 8] ks.length (fun g s7 s8 wr => ∃ lo hi q : Nat, s7 = .int .i64 lo ∧ s8 = .int .i64 hi ∧ lo ≤ hi ∧ hi ≤ ks.length ∧ hi - lo ≤ g ∧ wr = w.drewN q ∧ Hid ((∀ t (ht : t < ks.length), t < lo → ks[t] < x) ∧ (∀ t (ht : t < ks.length), hi ≤ t → x ≤ ks[t])))
  case atStart => exact ⟨0, ks.length, 0, rfl, rfl, Nat.zero_le _, Nat.le_refl _, by omega, rfl, fun t _ ht => absurd ht (Nat.not_lt_zero _), fun t h1 h2 => by omega⟩
  case round =>
    obtain ⟨lo, hi, q, rfl, rfl, hlh, hin, hg, rfl, I⟩ := hrel
    by_cases hlt : lo < hi
    · have hmid : (lo + hi) / 2 < ks.length := by omega
      have cm := HC.out ((lo + hi) / 2) hmid
      generalize hy : ks[(lo + hi) / 2] = y at cm
      have Y := Lib.hid hy
      clear hy
      cases hyx : ltB y x
      · have G := Lib.hid (of_decide_eq_false hyx)
        go_wp2_with (first | (go_at_call 51; refine (less_any y x _).mono ?_; rintro e w' ⟨rfl, rfl⟩) | (go_at_call 52; refine (isnan_sl _ _).mono ?_; rintro e w' ⟨rfl, rfl⟩))
        go_roundg ((lo + hi) / 2 - lo)
        case measure => omega
        case rel =>
          refine ⟨lo, (lo + hi) / 2, _, rfl, by rw [show ((lo : Int) + (hi : Int)) / 2 = (((lo + hi) / 2 : Nat) : Int) by omega], by omega, by omega, Nat.le_refl _, rfl, I.out.1, fun t ht htn => ?_⟩
          have := up_at HU.out ((lo + hi) / 2) t ht htn
          have := Y.out
          have := G.out
          omega
      · have G := Lib.hid (of_decide_eq_true hyx)
        go_wp2_with (first | (go_at_call 51; refine (less_any y x _).mono ?_; rintro e w' ⟨rfl, rfl⟩) | (go_at_call 52; refine (isnan_sl _ _).mono ?_; rintro e w' ⟨rfl, rfl⟩))
        go_roundg (hi - ((lo + hi) / 2 + 1))
        case measure => omega
        case rel =>
          refine ⟨(lo + hi) / 2 + 1, hi, _, by rw [show ((lo : Int) + (hi : Int)) / 2 + 1 = (((lo + hi) / 2 + 1 : Nat) : Int) by omega], rfl, by omega, hin, Nat.le_refl _, rfl, fun t ht htn => ?_, I.out.2⟩
          have := up_at HU.out t ((lo + hi) / 2) hmid (by omega)
          have := Y.out
          have := G.out
          omega
    · have : hi = lo := by omega
      subst this
      have E := Lib.hid (below_end ks x hi hin I.out.1 I.out.2)
      by_cases hn : hi < ks.length
      · have cl := HC.out hi hn
        generalize hy : ks[hi] = y at cl
        clear hy
        by_cases hyx : y = x
        · go_wp2_with (go_at_call 52; refine (isnan_sl _ _).mono ?_; rintro e w' ⟨rfl, rfl⟩)
          go_ret2
          exact ⟨_, by rw [E.out]; rfl, _, rfl⟩
        · go_wp2_with (go_at_call 52; refine (isnan_sl _ _).mono ?_; rintro e w' ⟨rfl, rfl⟩)
          go_ret2
          exact ⟨_, by rw [E.out]; rfl, _, rfl⟩
      · have d : decide (hi < ks.length) = false := by simpa using hn
        go_wp2_with (go_at_call 52; refine (isnan_sl _ _).mono ?_; rintro e w' ⟨rfl, rfl⟩)
        go_ret2
        exact ⟨_, by rw [E.out]; rfl, _, rfl⟩

def belows (rs : List (List Nat)) (x : Nat) : Nat := (rs.map fun ks => belowN ks x).sum
theorem belows_flat (rs : List (List Nat)) (x : Nat) : belows rs x = belowN rs.flatten x := by
  unfold belows belowN
  induction rs with
  | nil => rfl
  | cons a r ih => simp [List.countP_append, ← ih]
theorem belows_take (rs : List (List Nat)) (x i : Nat) (h : i < rs.length) : belows (rs.take (i + 1)) x = belows (rs.take i) x + belowN rs[i] x := by
  unfold belows
  rw [List.take_succ_eq_append_getElem h]
  simp only [List.map_append, List.sum_append, List.map_cons, List.map_nil, List.sum_cons, List.sum_nil, Nat.add_zero]
theorem belowN_le (ks : List Nat) (x : Nat) : belowN ks x ≤ ks.length := List.countP_le_length
theorem belows_le (rs : List (List Nat)) (x i : Nat) : belows (rs.take i) x ≤ rs.flatten.length := by
  rw [belows_flat]
  refine Nat.le_trans (belowN_le _ _) ?_
  have : rs.flatten = (rs.take i).flatten ++ (rs.drop i).flatten := by rw [← List.flatten_append, List.take_append_drop]
  rw [this]; simp
theorem rank_runs {s : MS} {rs : List (List Nat)} {l : List Nat} (h : Inv s rs l) (x : Nat) : belows rs (keyN x) = rankN (numsL l) x := by
  rw [belows_flat]
  unfold belowN rankN
  rw [h.runs.countP_eq, List.countP_map]
  rfl
def RankPost (W : World) (n : Nat) (e : Ending) (w' : World) : Prop := e = .returned (.int .i64 (n : Nat)) ∧ ∃ q, w' = W.drewN q

theorem runs_get {w : World} {F : Nat → Prop} {p g n cap N : Nat} {vs : List Value} {rs : List (List Nat)} (ho : w.ownsRow N 58 1 (.slice (some ⟨g, 0, none⟩) n cap) n vs) {o : Option Nat} (hr : RunsAt w F p o vs rs) (i : Nat) (hi : i < rs.length) (hn : n = rs.length) :
    ∃ b off c, w.cell? ⟨g, i, none⟩ = some (.slice (some ⟨b, off, none⟩) rs[i].length c) ∧ RunAt w b off rs[i] := by
  obtain ⟨v, e, b, off, c, rfl, _, _, h, _⟩ := hr.get i hi
  exact ⟨b, off, c, (ho.cellAt i (by omega)).trans e, h⟩

set_option maxHeartbeats 2000000 in
theorem rank_any (W : World) (N p : Nat) (F : Nat → Prop) (l : List Nat) (x : Nat) (hA : MeterAt W N p F l) (hx : x < 18446744073709551616) (hn : l.length ≤ 90) :
    Calls Try.prog 21 #[.pointer (some ⟨p, 0, none⟩), .float .f64 x] W (RankPost W (rankN (numsL l) x)) := by
  obtain ⟨s, v, vs, rs, hM, hI⟩ := hA
  have c7 := hM.cells.c7
  have hfew : rs.length ≤ 90 := Nat.le_trans hI.few hn
  have hrl : rs.flatten.length ≤ 90 := by rw [hI.runs.length_eq]; simp; exact Nat.le_trans (List.length_filter_le ..) hn
  obtain ⟨ao, cap, hv, hrun⟩ : ∃ ao cap, v = .slice ao rs.length cap ∧ Hid (∀ i (hi : i < rs.length), ∃ g b off c, ao = some ⟨g, 0, none⟩ ∧ W.cell? ⟨g, i, none⟩ = some (.slice (some ⟨b, off, none⟩) rs[i].length c) ∧ RunAt W b off rs[i]) := by
    rcases hM.shape with ⟨h1, a, c, h2⟩ | ⟨g, c, rfl, h, _⟩
    · exact ⟨a, c, by rw [h1, h2]; rfl, fun i hi => by rw [h1] at hi; simp at hi⟩
    · exact ⟨_, c, rfl, fun i hi => by
        obtain ⟨b, off, c', h1, h2⟩ := runs_get hM.own hM.runs i hi rfl
        exact ⟨g, b, off, c', rfl, h1, h2⟩⟩
  rw [hv] at c7
  have E := Lib.hid (rank_runs hI x)
  have L := Lib.hid (fun i (hi : i < rs.length) => (show rs[i].length ≤ 90 from Nat.le_trans (by
    have : rs[i].length ≤ rs.flatten.length := (List.sublist_flatten_of_mem (List.getElem_mem hi)).length_le
    exact this) hrl))
  have LB := Lib.hid (fun i => belows_le rs (keyN x) i)
  clear hM hI hv
  have hk := key_lt x hx
  generalize hkey : keyN x = key at *
  have HK := Lib.hid hkey
  clear hkey
  go_enter Try.func21, Try.ntmps21
  go_wp2_with (go_at_call 38; refine (key_any x _ hx).mono ?_; rintro e w' ⟨rfl, rfl⟩)
  rw [HK.out]
  go_wp2_with fail
  go_loopw [6, 18] (fun s6 s18 wr => ∃ i q : Nat, i ≤ rs.length ∧ s18 = .int .i64 (i : Nat) ∧ s6 = .int .i64 (belows (rs.take i) key : Nat) ∧ wr = W.drewN q) (fun _ s18 _ => rs.length - (intOf s18).toNat)
  case atStart => exact ⟨0, 0, Nat.zero_le _, rfl, rfl, rfl⟩
  case round =>
    obtain ⟨i, q, hi, rfl, rfl, rfl⟩ := hrel
    by_cases hlt : i < rs.length
    · obtain ⟨g, b, off, c, rfl, hc, hr⟩ := hrun.out i hlt
      have hl := L.out i hlt
      have hb := LB.out i
      have hb2 := belowN_le rs[i] key
      have hbt := belows_take rs key i hlt
      generalize hrs : rs[i] = ks at *
      have R := Lib.hid hr
      have T := Lib.hid hbt
      have R2 := Lib.hid hrs
      clear hr hbt hrs
      generalize hbi : belows (rs.take i) key = bi at *
      have B := Lib.hid hbi
      clear hbi
      have t1 : (bi : Int) ≤ 90 := by omega
      go_wp2_with fail
      refine (search_any ks key b off c (W.drewN q) (R.out.carry (Nat.le_refl _) rfl) (by omega)).mono ?_
      rintro e w' ⟨bb, rfl, q2, rfl⟩
      generalize hbn : belowN ks key = bn at *
      have B2 := Lib.hid hbn
      clear hbn
      go_wp2_with fail
      go_roundw
      case rel => exact ⟨i + 1, q + q2, by omega, by go_num, by rw [T.out]; go_num, rfl⟩
      case measure => simp [intOf]; omega
    · have hi2 : i = rs.length := by omega
      have e : belows (rs.take i) key = belows rs key := by rw [hi2, List.take_length]
      rw [e, E.out]
      clear e
      go_wp2_with fail
      go_ret
      exact ⟨rfl, q, rfl⟩

end Go.Proofs.Ytlbbbabieepabaa
