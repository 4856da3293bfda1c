/-
  Rows of counts, the document's own calls.
-/
import Derived.Test.YtfiamomadicbpaaBmak
import Derived.Test.YtfiamomadicbpaaWsl
namespace Go.Proofs.Ytfiamomadicbpaa
open Go.RowKit

set_option maxRecDepth 20000 in
set_option maxHeartbeats 2000000 in
theorem rat_any {W : World} {a : Option Addr} {cap n : Nat} {xs : List Nat} {z : Int} (h : SlAt qV QM W a cap xs) (hn : xs.length = n) {v : Nat} (hv : atZ xs z = v) :
    Calls Try.prog 42 #[.slice a n cap, .int .i64 z] W fun e w' => e = .returned (.int .u64 (v : Int)) ∧ W = w' := by
  subst hn hv
  have hfit := h.fit
  have hmax := h.max
  unfold maxLen at hmax
  have S := Lib.hid h
  clear h
  by_cases h0 : z < 0
  · have d0 : decide (z < 0) = true := decide_eq_true h0
    rw [atZ_neg h0]
    clear h0
    go_enter Try.func42, Try.ntmps42
    go_wp2_with fail
    go_ret
    exact ⟨rfl, rfl⟩
  · obtain ⟨i, rfl⟩ : ∃ i : Nat, z = i := ⟨z.toNat, by omega⟩
    have d0 : decide ((i : Int) < 0) = false := decide_eq_false h0
    rw [atZ_nat]
    by_cases h1 : i < xs.length
    · obtain ⟨b, off, rfl, hb, hc⟩ := S.out.at h1
      have d1 : decide ((i : Int) ≥ (xs.length : Int)) = false := decide_eq_false (by omega)
      have i0 : (0 : Int) ≤ (i : Int) := by omega
      have i1 : (i : Int) < (xs.length : Int) := by omega
      have hc' : W.cell? ⟨b, off + i, none⟩ = some (.int .u64 ((atN xs i : Nat) : Int)) := hc
      clear hc
      generalize atN xs i = v at *
      go_enter Try.func42, Try.ntmps42
      go_wp2_with fail
      go_ret
      exact ⟨rfl, rfl⟩
    · have d1 : decide ((i : Int) ≥ (xs.length : Int)) = true := decide_eq_true (by omega)
      rw [atN_out (by omega)]
      go_enter Try.func42, Try.ntmps42
      go_wp2_with fail
      go_ret
      exact ⟨rfl, rfl⟩

/-- What is held while two rows are compared. -/
def CmpRel (xs ys : List Nat) (p q v : Value) : Prop :=
  ∃ (k : Nat) (a b : Bool), k ≤ max xs.length ys.length ∧ v = .int .i64 (k : Nat) ∧ p = .bool a ∧ q = .bool b ∧ (a = true ↔ ∀ j, j < k → atN xs j ≤ atN ys j) ∧ (b = true ↔ ∀ j, j < k → atN ys j ≤ atN xs j)

theorem all_more {k : Nat} {a : Bool} {f g : Nat → Nat} (h : a = true ↔ ∀ j, j < k → f j ≤ g j) : (a && decide (f k ≤ g k)) = true ↔ ∀ j, j < k + 1 → f j ≤ g j := by
  rw [Bool.and_eq_true, h, decide_eq_true_eq]
  refine ⟨fun ⟨h1, h2⟩ j hj => ?_, fun h => ⟨fun j hj => h j (by omega), h k (by omega)⟩⟩
  by_cases e : j = k
  · subst e; exact h2
  · exact h1 j (by omega)
theorem all_done {k : Nat} {a : Bool} {xs ys : List Nat} (hk : k = max xs.length ys.length) (h : a = true ↔ ∀ j, j < k → atN xs j ≤ atN ys j) : wiB xs ys = a := by
  have : wiB xs ys = true ↔ a = true := by
    rw [wiB_iff, h]
    refine ⟨fun h j _ => h j, fun h j => ?_⟩
    by_cases hj : j < k
    · exact h j hj
    · rw [atN_out (xs := xs) (by omega)]; exact Nat.zero_le _
  exact Bool.eq_iff_iff.2 this

set_option maxRecDepth 20000 in
set_option maxHeartbeats 4000000 in
theorem rcmp_any {W : World} {a1 a2 : Option Addr} {c1 c2 n m : Nat} {xs ys : List Nat} (h1 : SlAt qV QM W a1 c1 xs) (h2 : SlAt qV QM W a2 c2 ys) (hn : xs.length = n) (hm : ys.length = m) {z : Int} (hz : cmpZ xs ys = z) :
    Calls Try.prog 24 #[.slice a1 n c1, .slice a2 m c2] W fun e w' => e = .returned (.int .i64 z) ∧ W = w' := by
  have hf1 := h1.fit
  have hf2 := h2.fit
  have hm1 := h1.max
  have hm2 := h2.max
  unfold maxLen at hm1 hm2
  rw [hn] at hf1
  rw [hm] at hf2
  have A := Lib.hid h1
  have B := Lib.hid h2
  have HN := Lib.hid hn
  have HM := Lib.hid hm
  have HZ := Lib.hid (show ∀ p q, wiB xs ys = p → wiB ys xs = q → z = if p then if q then 0 else -1 else if q then 1 else 2 from fun p q hp hq => by rw [← hz]; exact cmpZ_of hp hq)
  clear h1 h2 hn hm hz
  go_enter Try.func24, Try.ntmps24
  go_wp2_with fail
  go_loop [5, 6, 7] (fun p q v => CmpRel xs ys p q v) (fun _ _ v => max n m - (intOf v).toNat)
  case atStart => exact ⟨0, true, true, Nat.zero_le _, rfl, rfl, rfl, by simp, by simp⟩
  case round =>
    obtain ⟨k, a, b, hk, rfl, rfl, rfl, ha, hb⟩ := hrel
    rw [HN.out, HM.out] at hk
    by_cases hlt : k < max n m
    · have hcase : (decide ((k : Int) < (n : Int)) = true ∧ decide (k < n) = true) ∨ (decide ((k : Int) < (n : Int)) = false ∧ decide (k < n) = false ∧ decide ((k : Int) < (m : Int)) = true ∧ decide (k < m) = true) := by
        by_cases h : k < n
        · exact Or.inl ⟨decide_eq_true (by omega), decide_eq_true h⟩
        · exact Or.inr ⟨decide_eq_false (by omega), decide_eq_false h, decide_eq_true (by omega), decide_eq_true (by omega)⟩
      have C1 := Lib.hid (rat_any (z := (k : Int)) A.out HN.out (atZ_nat xs k))
      have C2 := Lib.hid (rat_any (z := (k : Int)) B.out HM.out (atZ_nat ys k))
      have R := Lib.hid (show CmpRel xs ys (.bool (a && decide (atN xs k ≤ atN ys k))) (.bool (b && decide (atN ys k ≤ atN xs k))) (.int .i64 ((k + 1 : Nat) : Int)) from
        ⟨k + 1, _, _, by rw [HN.out, HM.out]; omega, rfl, rfl, rfl, all_more ha, all_more hb⟩)
      clear ha hb
      generalize atN xs k = x at *
      generalize atN ys k = y at *
      obtain ⟨p, hp⟩ : ∃ p, decide (x ≤ y) = p := ⟨_, rfl⟩
      obtain ⟨q, hq⟩ : ∃ q, decide (y ≤ x) = q := ⟨_, rfl⟩
      have hp2 : decide ((x : Int) ≤ (y : Int)) = p := by rw [← hp]; exact decide_eq_decide.2 (by omega)
      have hq2 : decide ((x : Int) ≥ (y : Int)) = q := by rw [← hq]; exact decide_eq_decide.2 (by omega)
      rw [hp, hq] at R
      clear hk
      have hk1 : k ≤ max n m := by omega
      rcases hcase with ⟨e1, e2⟩ | ⟨e1, e2, e3, e4⟩
      all_goals
        cases a
        · cases b
          · go_wp2_with fail
            go_round
            case rel => exact R.out
            case measure => simp only [intOf]; omega
          · go_wp2_with fail
            refine C1.out.mono ?_
            rintro e w' ⟨rfl, rfl⟩
            go_wp2_with fail
            refine C2.out.mono ?_
            rintro e w' ⟨rfl, rfl⟩
            go_wp2_with fail
            go_round
            case rel => exact R.out
            case measure => simp only [intOf]; omega
        · cases b
          · go_wp2_with fail
            refine C1.out.mono ?_
            rintro e w' ⟨rfl, rfl⟩
            go_wp2_with fail
            refine C2.out.mono ?_
            rintro e w' ⟨rfl, rfl⟩
            go_wp2_with fail
            go_round
            case rel => exact R.out
            case measure => simp only [intOf]; omega
          · go_wp2_with fail
            refine C1.out.mono ?_
            rintro e w' ⟨rfl, rfl⟩
            go_wp2_with fail
            refine C2.out.mono ?_
            rintro e w' ⟨rfl, rfl⟩
            go_wp2_with fail
            refine C1.out.mono ?_
            rintro e w' ⟨rfl, rfl⟩
            go_wp2_with fail
            refine C2.out.mono ?_
            rintro e w' ⟨rfl, rfl⟩
            go_wp2_with fail
            go_round
            case rel => exact R.out
            case measure => simp only [intOf]; omega
    · obtain rfl : k = max n m := by omega
      have e1 : decide (((max n m : Nat) : Int) < (n : Int)) = false := decide_eq_false (by omega)
      have e2 : decide (((max n m : Nat) : Int) < (m : Int)) = false := decide_eq_false (by omega)
      have e3 : decide (max n m < n) = false := decide_eq_false (by omega)
      have e4 : decide (max n m < m) = false := decide_eq_false (by omega)
      have R := Lib.hid (HZ.out a b (all_done (by rw [HN.out, HM.out]) ha) (all_done (by rw [HN.out, HM.out, Nat.max_comm]) hb))
      clear ha hb hk hlt
      generalize max n m = l at *
      cases a <;> cases b
      all_goals
        go_wp2_with fail
        go_ret
        exact ⟨by rw [R.out]; rfl, rfl⟩

/-- What is held while two rows are put together. -/
def RjoinRel (W : World) (xs ys : List Nat) (s v : Value) (wr : World) : Prop :=
  ∃ k : Nat, k ≤ (joinL xs ys).length ∧ v = .int .i64 (k : Nat) ∧ wr.ownsRow W.heap.size 30 1 s k (((joinL xs ys).take k).map qV) ∧ Below W.heap.size W wr

theorem take_map_succ {r : List Nat} {k : Nat} (h : k < r.length) : (r.take k).map qV ++ [qV (atN r k)] = (r.take (k + 1)).map qV := by
  rw [List.take_succ_eq_append_getElem h, List.map_append, atN_of h]; rfl

theorem lit_one (w : World) {v : Nat} (hv : v < QM) : SlAt qV QM (w.alloc (.cells #[.int .u64 (v : Int)] 30)) (some ⟨w.heap.size, 0, none⟩) 1 [v] :=
  sl_lit w [v] #[.int .u64 (v : Int)] 30 1 rfl rfl (by simpa using hv) (by unfold maxLen; omega)

set_option maxRecDepth 20000 in
set_option maxHeartbeats 4000000 in
theorem rjoin_any {W : World} {a1 a2 : Option Addr} {c1 c2 n m : Nat} {xs ys : List Nat} (h1 : SlAt qV QM W a1 c1 xs) (h2 : SlAt qV QM W a2 c2 ys) (hn : xs.length = n) (hm : ys.length = m) (hl : n ≤ 100000) (hl2 : m ≤ 100000) {r : List Nat} (hr : joinL xs ys = r) :
    Calls Try.prog 41 #[.slice a1 n c1, .slice a2 m c2] W (NewQ W r) := by
  obtain ⟨i0, hi0, hz0, hz1, hz2⟩ := info_q Try.infoQ
  have A := Lib.hid h1
  have B := Lib.hid h2
  have HN := Lib.hid hn
  have HM := Lib.hid hm
  have HL := Lib.hid (show r.length = max n m by rw [← hr, joinL_length, hn, hm])
  have HX := Lib.hid (show ∀ x ∈ r, x < QM by rw [← hr]; exact joinL_lt (by decide) h1.lt h2.lt)
  have HA := Lib.hid (fun k => show atN r k = max (atN xs k) (atN ys k) from by rw [← hr]; exact joinL_at ..)
  have S0 := Lib.hid (show RjoinRel W xs ys (.slice none 0 0) (.int .i64 0) W from ⟨0, Nat.zero_le _, rfl, by rw [List.take_zero]; exact World.ownsRow_nil _ _ _ _, Below.refl _ _⟩)
  have HR := Lib.hid hr
  clear h1 h2 hn hm hr
  go_enter Try.func41, Try.ntmps41
  go_wp2_with fail
  go_loopw [5, 6] (fun s v wr => RjoinRel W xs ys s v wr) (fun _ v _ => max n m - (intOf v).toNat)
  case atStart => exact S0.out
  case round =>
    obtain ⟨k, hk, rfl, hO, hb⟩ := hrel
    rw [HR.out] at hk hO
    rw [HL.out] at hk
    by_cases hlt : k < max n m
    · have hcase : (decide ((k : Int) < (n : Int)) = true ∧ decide (k < n) = true) ∨ (decide ((k : Int) < (n : Int)) = false ∧ decide (k < n) = false ∧ decide ((k : Int) < (m : Int)) = true ∧ decide (k < m) = true) := by
        by_cases h : k < n
        · exact Or.inl ⟨decide_eq_true (by omega), decide_eq_true h⟩
        · exact Or.inr ⟨decide_eq_false (by omega), decide_eq_false h, decide_eq_true (by omega), decide_eq_true (by omega)⟩
      have C1 := Lib.hid (rat_any (z := (k : Int)) (A.out.below hb) HN.out (atZ_nat xs k))
      have C2 := Lib.hid (rat_any (z := (k : Int)) (B.out.below hb) HM.out (atZ_nat ys k))
      have O := Lib.hid hO
      have HB := Lib.hid hb
      have kr : k < r.length := by rw [HL.out]; exact hlt
      have FIN := Lib.hid (fun s' w' (v : Nat) (hv : v = atN r k) (h : w'.ownsRow W.heap.size 30 1 s' (k + 1) ((r.take k).map qV ++ [qV v])) (hb : Below W.heap.size W w') => show RjoinRel W xs ys s' (.int .i64 ((k + 1 : Nat) : Int)) w' from
        ⟨k + 1, by rw [HR.out]; omega, rfl, by rw [HR.out, ← take_map_succ kr, ← hv]; exact h, hb⟩)
      rw [HA.out] at FIN
      have hown := hO
      obtain ⟨sa, sc, rfl⟩ := own_form hO
      have XL := Lib.hid (atN_lt (by decide) A.out.lt k)
      have YL := Lib.hid (atN_lt (by decide) B.out.lt k)
      clear hO hb kr hk hown
      generalize atN xs k = x at *
      generalize atN ys k = y at *
      have hxy : (decide ((y : Int) > (x : Int)) = true ∧ decide (x < y) = true ∧ Hid (y = max x y)) ∨ (decide ((y : Int) > (x : Int)) = false ∧ decide (x < y) = false ∧ Hid (x = max x y)) := by
        by_cases h : x < y
        · exact Or.inl ⟨decide_eq_true (by omega), decide_eq_true h, Lib.hid (by omega)⟩
        · exact Or.inr ⟨decide_eq_false (by omega), decide_eq_false h, Lib.hid (by omega)⟩
      have LIT := Lib.hid (fun v (hv : v < QM) => lit_one wr (v := v) hv)
      have hx : x < QM := XL.out
      have hy : y < QM := YL.out
      have HB2 := Lib.hid (fun o => HB.out.alloc HB.out.size o)
      have O2 := Lib.hid (fun o => own_below O.out ((Below.refl _ wr).alloc (Nat.le_refl _) o))
      have hk8 : k ≤ 100000 := by omega
      clear O HB
      rcases hcase with ⟨e1, e2⟩ | ⟨e1, e2, e3, e4⟩
      all_goals
        rcases hxy with ⟨g1, g2, g3⟩ | ⟨g1, g2, g3⟩
        · go_wp2_with fail
          refine C1.out.mono ?_
          rintro e w' ⟨rfl, rfl⟩
          go_wp2_with fail
          refine C2.out.mono ?_
          rintro e w' ⟨rfl, rfl⟩
          go_wp2_with fail
          refine C2.out.mono ?_
          rintro e w' ⟨rfl, rfl⟩
          clear C1 C2
          go_wp2_with (
            at_builtin
            refine wpList_append_at rfl (.tmp 31) (.tmp 33) 37 rfl W.heap.size 30 i0 (.int .u64 0) 1 8 Try.underlying37 hi0 hz0 hz1 hz2 rfl (by decide) _ k ((r.take k).map qV) rfl ?h1 _ _ _ [qV y] rfl ?h2 ?h3 ?h4 ?h5 ?h6 ?h7 ?h8 ?_
            case h1 => exact O2.out _
            case h2 => rfl
            case h3 => intro e; cases e
            case h4 => exact (LIT.out y hy).news
            case h5 => exact ones_q [y]
            case h6 => unfold maxLen; omega
            case h7 => omega
            case h8 => exact (HB2.out (.cells #[.int .u64 (y : Int)] 30)).size
            intro v2 w2 hown2 hgr2 hat2
            have R := Lib.hid (FIN.out v2 w2 y g3.out hown2 ((HB2.out (.cells #[.int .u64 (y : Int)] 30)).grown hgr2 (HB2.out (.cells #[.int .u64 (y : Int)] 30)).size (fun k h => ((O2.out (.cells #[.int .u64 (y : Int)] 30)).lt k h).1)))
            clear hown2 hgr2 hat2)
          go_roundw
          case rel => exact R.out
          case measure => simp only [intOf]; omega
        · go_wp2_with fail
          refine C1.out.mono ?_
          rintro e w' ⟨rfl, rfl⟩
          go_wp2_with fail
          refine C2.out.mono ?_
          rintro e w' ⟨rfl, rfl⟩
          clear C1 C2
          go_wp2_with (
            at_builtin
            refine wpList_append_at rfl (.tmp 31) (.tmp 33) 37 rfl W.heap.size 30 i0 (.int .u64 0) 1 8 Try.underlying37 hi0 hz0 hz1 hz2 rfl (by decide) _ k ((r.take k).map qV) rfl ?h1 _ _ _ [qV x] rfl ?h2 ?h3 ?h4 ?h5 ?h6 ?h7 ?h8 ?_
            case h1 => exact O2.out _
            case h2 => rfl
            case h3 => intro e; cases e
            case h4 => exact (LIT.out x hx).news
            case h5 => exact ones_q [x]
            case h6 => unfold maxLen; omega
            case h7 => omega
            case h8 => exact (HB2.out (.cells #[.int .u64 (x : Int)] 30)).size
            intro v2 w2 hown2 hgr2 hat2
            have R := Lib.hid (FIN.out v2 w2 x g3.out hown2 ((HB2.out (.cells #[.int .u64 (x : Int)] 30)).grown hgr2 (HB2.out (.cells #[.int .u64 (x : Int)] 30)).size (fun k h => ((O2.out (.cells #[.int .u64 (x : Int)] 30)).lt k h).1)))
            clear hown2 hgr2 hat2)
          go_roundw
          case rel => exact R.out
          case measure => simp only [intOf]; omega
    · obtain rfl : k = max n m := by omega
      have e1 : decide (((max n m : Nat) : Int) < (n : Int)) = false := decide_eq_false (by omega)
      have e2 : decide (((max n m : Nat) : Int) < (m : Int)) = false := decide_eq_false (by omega)
      have e3 : decide (max n m < n) = false := decide_eq_false (by omega)
      have e4 : decide (max n m < m) = false := decide_eq_false (by omega)
      rw [List.take_of_length_le (by rw [HL.out]; exact Nat.le_refl _)] at hO
      obtain ⟨-, a3, c3, rfl, hS⟩ := own_sl hO HX.out
      have R := Lib.hid (show NewQ W r (.returned (.slice a3 r.length c3)) wr from ⟨a3, c3, rfl, hS, hb, (fun ad e => by subst e; exact (hO.lt ad.block rfl).1), by have h := hO; rw [← HL.out] at h; exact h⟩)
      clear hO hb hS
      generalize max n m = l at *
      go_wp2_with fail
      go_ret
      exact R.out

end Go.Proofs.Ytfiamomadicbpaa
