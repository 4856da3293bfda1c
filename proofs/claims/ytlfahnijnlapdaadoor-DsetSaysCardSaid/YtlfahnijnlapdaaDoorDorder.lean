/-
  In whichever order, and however often, processes are named: the walk of the statement.
-/
import Derived.Test.YtlfahnijnlapdaaDoorDknown
import Derived.Deep.RegionLaw
namespace Go.Proofs.YtlfahnijnlapdaaDoor
open Go.RowKit

/-- The last k of l, backwards, each twice. -/
def backN (l : List Int) (k : Nat) : List Int := (l.drop k).reverse.flatMap fun x => [x, x]
theorem back_all (l : List Int) (x : Int) : x ∈ backN l 0 ↔ x ∈ l := by
  unfold backN
  simp
theorem back_none (l : List Int) : backN l l.length = [] := by unfold backN; simp
theorem back_next {l : List Int} {k : Nat} (h : k < l.length) : backN l k = backN l (k + 1) ++ [l[k], l[k]] := by
  unfold backN
  rw [List.drop_eq_getElem_cons h, List.reverse_cons, List.flatMap_append]
  rfl
theorem twice_len : ∀ (l : List Int), (l.flatMap fun x => [x, x]).length = 2 * l.length
  | [] => rfl
  | x :: r => by rw [List.flatMap_cons, List.length_append, twice_len r]; simp; omega
theorem back_len (l : List Int) (k : Nat) : (backN l k).length ≤ 2 * l.length := by
  unfold backN
  rw [twice_len]
  simp
  omega
theorem back_ok {l : List Int} (h : ∀ x ∈ l, IntOk x) (k : Nat) : ∀ x ∈ backN l k, IntOk x := by
  intro x hx
  unfold backN at hx
  obtain ⟨y, hy, h2⟩ := List.mem_flatMap.1 hx
  have hm := List.mem_of_mem_drop (List.mem_reverse.1 hy)
  simp at h2
  rw [h2]; exact h y hm
theorem of_back (l : List Int) : ofN (backN l 0) = ofN l := by
  refine word_ext (ofN_lt _) (ofN_lt _) fun i _ => ?_
  rw [of_test, of_test]
  apply decide_eq_decide.2
  rw [back_all]

theorem all_but {s : Nat} (hs : s < 18446744073709551616) (h0 : s ≠ 0) : decide (butN s (butN (allN 64) (allN (firstN s : Nat))) = 0) = true := by
  refine decide_eq_true ((but_zero hs (but_lt _ (allN_lt _))).2 fun i hi h1 => ?_)
  rw [but_test (allN_lt _) i hi, all_test, all_test]
  obtain ⟨_, _, hf⟩ := first_bit hs h0
  have h2 : ¬ i < firstN s := fun h => by rw [hf i h] at h1; cases h1
  simp
  omega

def OrdRel (W : World) (l : List Int) (m i : Value) (wr : World) : Prop :=
  ∃ (k : Nat) (a : Option Addr) (c : Nat), k ≤ l.length ∧ i = .int .i64 ((k : Int) - 1) ∧ m = .slice a (backN l k).length c ∧ wr.ownsRow W.heap.size 3 1 m (backN l k).length ((backN l k).map iV) ∧ Below W.heap.size W wr

theorem ord_step {w0 wr w2 : World} {l : List Int} {j : Nat} {x : Int} {a : Option Addr} {c g c2 : Nat} {o : Obj} (hB : Below w0.heap.size w0 wr) (hO : wr.ownsRow w0.heap.size 3 1 (.slice a (backN l (j + 1)).length c) (backN l (j + 1)).length ((backN l (j + 1)).map iV))
    (e : backN l j = backN l (j + 1) ++ [x, x]) (hj : j ≤ l.length)
    (hown : w2.ownsRow w0.heap.size 3 1 (.slice (some ⟨g, 0, none⟩) ((backN l (j + 1)).length + 2) c2) ((backN l (j + 1)).length + 2) ((backN l (j + 1)).map iV ++ [iV x, iV x])) (hgr : ((wr.drew).alloc o).grownBy w2 (Value.slice a (backN l (j + 1)).length c).ownBlock) :
    OrdRel w0 l (.slice (some ⟨g, 0, none⟩) ((backN l (j + 1)).length + 2) c2) (.int .i64 ((j : Int) - 1)) w2 := by
  have hB2 : Below w0.heap.size w0 wr.drew := ⟨hB.os, hB.tape, hB.output, hB.size, hB.block⟩
  refine ⟨j, some ⟨g, 0, none⟩, c2, hj, rfl, by rw [e]; simp, by rw [e]; simpa using hown, (hB2.alloc hB2.size o).grown hgr (by have := hB.size; show w0.heap.size ≤ (wr.alloc o).heap.size; rw [World.size_alloc]; omega) (fun b h => (hO.lt b h).1)⟩

set_option maxRecDepth 20000 in
set_option maxHeartbeats 4000000 in
theorem law_DsetOrder (l : List Int) (ao : Option Addr) (cap : Nat) (W : World) (hG : Good W) (hsl : SlV W ao cap (l.map iV)) (hok : ∀ x ∈ l, IntOk x) : Calls Tryd.prog 7 #[.slice ao l.length cap] W (OkPost W) := by
  obtain ⟨i0, hi0, hz0, hz1, hz2⟩ := info_parts Tryd.infoI
  have G := Lib.hid hG
  have S := Lib.hid hsl
  have X := Lib.hid hok
  have hfit := hsl.fit
  have hmax := hsl.max
  unfold maxLen at hmax
  rw [List.length_map] at hfit
  clear hG hsl hok
  go_enter Tryd.func7, Tryd.ntmps7
  go_wp2_with fail
  refine (awake_any W G.out).mono ?_
  rintro e w0 ⟨rfl, hb0⟩
  have B0 := Lib.hid hb0
  have S0 := Lib.hid (S.out.below hb0)
  clear hb0
  by_cases hlen : 70 < l.length
  · go_wp2_with fail
    go_ret
    exact ⟨rfl, B0.out⟩
  · go_wp2_with fail
    go_loopw [3, 4] (fun m i wr => OrdRel w0 l m i wr) (fun _ i _ => (intOf i + 1).toNat)
    case atStart => exact ⟨l.length, none, 0, Nat.le_refl _, rfl, by rw [back_none]; rfl, by rw [back_none]; exact World.ownsRow_nil .., Below.refl _ _⟩
    case round =>
      obtain ⟨k, a, c, hk, rfl, rfl, hO, hB⟩ := hrel
      have HO := Lib.hid hO
      have HB := Lib.hid hB
      have hbl := back_len l k
      clear hO hB
      cases k with
      | zero =>
        have S1 := Lib.hid (S0.out.below HB.out)
        have B1 := Lib.hid (B0.out.trans (HB.out.mono B0.out.size))
        obtain ⟨hx0, a2, c2, e2, hm⟩ := own_slv HO.out
        clear hx0
        rw [List.length_map] at e2
        cases e2
        have M1 := Lib.hid hm
        clear hm HO HB S0 B0
        have hu := ofN_lt l
        have E := Lib.hid (of_back l)
        have HF := Lib.hid (fun (V : World) (s : Nat) (h : ofN l = s) (hV : SlV V ao cap (l.map iV)) => of_end (W := V) hV X.out rfl h)
        have HM := Lib.hid (fun (V : World) (s : Nat) (h : ofN l = s) (hV : SlV V a c ((backN l 0).map iV)) => of_end (W := V) hV (back_ok X.out 0) rfl (show ofN (backN l 0) = s by rw [E.out, h]))
        clear E X
        obtain ⟨s, hs⟩ : ∃ s, ofN l = s := ⟨_, rfl⟩
        rw [hs] at hu
        have HS := Lib.hid hs
        clear hs
        have G1 := Lib.hid (G.out.below B1.out)
        by_cases h0 : s = 0
        · subst h0
          go_wp2_with fail
          refine (HF.out _ 0 HS.out S1.out).mono ?_
          rintro e w' ⟨rfl, rfl⟩
          go_wp2_with fail
          refine (first_is (s := 0) (n := 0) (r := false) G1.out (by decide) rfl rfl rfl).mono ?_
          rintro e w' ⟨rfl, rfl⟩
          go_wp2_with fail
          refine (HM.out _ 0 HS.out M1.out).mono ?_
          rintro e w' ⟨rfl, rfl⟩
          go_wp2_with fail
          go_ret
          exact ⟨rfl, B1.out⟩
        · have d0 : ((s : Int) != 0) = true := by rw [ne_word]; exact decide_eq_true h0
          have D0 := Lib.hid (show decide (s ≠ 0) = true from decide_eq_true h0)
          obtain ⟨hb1, hb2, _⟩ := first_bit hu h0
          have HA := Lib.hid (show hasN s ((firstN s : Nat) : Int) = true by rw [hasN_nat hb2]; exact hb1)
          have W1 := Lib.hid (all_but hu h0)
          have lA := allN_lt 64
          have lB := allN_lt ((firstN s : Nat) : Int)
          have lD := but_lt (s := allN 64) (allN ((firstN s : Nat) : Int)) lA
          have e3 : bits .andNot .u64 ((allN 64 : Nat) : Int) ((allN ((firstN s : Nat) : Int) : Nat) : Int) = ((butN (allN 64) (allN ((firstN s : Nat) : Int)) : Nat) : Int) := u64_andNot_nat _ _ lA lB
          have HI := Lib.hid (show IntOk ((firstN s : Nat) : Int) by unfold IntOk; omega)
          have F1 := Lib.hid (fun (V : World) (hV : Good V) => first_is (W := V) (s := s) (n := firstN s) (r := true) hV hu rfl rfl D0.out)
          have A1 := Lib.hid (fun (V : World) => all_any 64 V (by unfold IntOk; decide))
          have A2 := Lib.hid (fun (V : World) => all_any ((firstN s : Nat) : Int) V HI.out)
          clear h0 hb1 hb2
          generalize butN (allN 64) (allN ((firstN s : Nat) : Int)) = d at *
          generalize allN 64 = x at *
          generalize allN ((firstN s : Nat) : Int) = y at *
          generalize firstN s = f at *
          go_wp2_with fail
          refine (HF.out _ s HS.out S1.out).mono ?_
          rintro e w' ⟨rfl, rfl⟩
          go_wp2_with fail
          refine (F1.out _ G1.out).mono ?_
          rintro e w' ⟨rfl, rfl⟩
          go_wp2_with fail
          refine (HM.out _ s HS.out M1.out).mono ?_
          rintro e w' ⟨rfl, rfl⟩
          go_wp2_with fail
          refine (has_is hu rfl HI.out HA.out).mono ?_
          rintro e w2 ⟨rfl, hb⟩
          have B2 := Lib.hid (B1.out.trans (hb.mono B1.out.size))
          clear hb B1
          go_wp2_with fail
          refine (A1.out _).mono ?_
          rintro e w' ⟨rfl, rfl⟩
          go_wp2_with fail
          refine (A2.out _).mono ?_
          rintro e w' ⟨rfl, rfl⟩
          go_wp2_with fail
          refine (within_is hu lD W1.out).mono ?_
          rintro e w' ⟨rfl, rfl⟩
          go_wp2_with fail
          go_ret
          exact ⟨rfl, B2.out⟩
      | succ j =>
        have hj : j < l.length := by omega
        obtain ⟨b, off, rfl, hbW, hcx⟩ := (S0.out.below HB.out).at j hj
        have k1 : wr.cell? ⟨b, off + j, none⟩ = some (.int .i64 l[j]) := hcx
        clear hcx
        have P := Lib.hid (back_next hj)
        generalize l[j] = x at *
        have jw : ((j + 1 : Nat) : Int) - 1 = (j : Int) := by omega
        have jb : (j : Int) < (l.length : Int) := by omega
        have j0 : (0 : Int) ≤ (j : Int) := by omega
        rw [jw]
        have HO2 := Lib.hid (show ((wr.drew).alloc (.cells #[.int .i64 x, .int .i64 x] 3)).ownsRow w0.heap.size 3 1 (.slice a (backN l (j + 1)).length c) (backN l (j + 1)).length ((backN l (j + 1)).map iV) from World.ownsRow.alloc (w := wr.drew) HO.out _)
        go_wp2_with fail
        go_region_law (refine step_append_lies _ rfl (.tmp 20) (.tmp 29) 35 rfl w0.heap.size 3 i0 (.int .i64 0) 1 8 Tryd.underlying35 hi0 hz0 hz1 hz2 rfl (by decide) _ _ _ (by simp [Act.eval]) HO2.out ⟨wr.heap.size, 0, none⟩ 2 2 [iV x, iV x] (by simp [Act.eval]) rfl (World.news_of_block (heap_alloc_new _ _)) (by simp [iV, Value.oneCell']) (by omega) (by unfold maxLen; omega) (by omega) (by have := HB.out.size; simp; omega) _ rfl ?_; intro g2 cap2 w2 hown3 hgr2 hat2 hlt2)
        all_goals
          have R := Lib.hid (ord_step HB.out HO.out P.out (by omega) hown3 hgr2)
          clear hown3 hgr2 hat2
          try go_simp
          go_wp2_with fail
          go_roundw
          case rel => exact R.out
          case measure => simp only [intOf]; omega

end Go.Proofs.YtlfahnijnlapdaaDoor
