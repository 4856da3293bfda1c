/-
  MatJoins.
-/
import Derived.Test.YtfiamomadicbpaaCaw
import Derived.Deep.RegionHeld3
namespace Go.Proofs.Ytfiamomadicbpaa
open Go.RowKit

/-- Both may be, of one number. -/
theorem both_join {n : Nat} {ma mb : List (List Nat)} (ga : goodM (n : Int) ma = true) (gb : goodM (n : Int) mb = true) : goodM (n : Int) (joinM ma mb) = true := by
  obtain ⟨k, e, h1, h2, h3, h4⟩ := goodM_is ga
  obtain ⟨k2, e2, -, -, h5, h6⟩ := goodM_is gb
  obtain rfl : n = k := by omega
  obtain rfl : n = k2 := by omega
  refine goodM_of h1 h2 (by rw [joinM_len, h3]) fun r hr => ?_
  obtain ⟨i, hi, rfl⟩ := List.getElem_of_mem hr
  rw [joinM_len] at hi
  rw [joinM_at hi (by omega), joinL_length, h4 _ (List.getElem_mem _), h6 _ (List.getElem_mem _), Nat.max_self]
theorem drew_b {w w' : World} {q : Nat} (h : w' = w.drewN q) : Below w.heap.size w w' := by rw [h]; exact ⟨rfl, rfl, rfl, Nat.le_refl _, fun _ _ => rfl⟩
theorem both_of {z : Int} {ma mb : List (List Nat)} (ga : goodM z ma = true) (gb : goodM z mb = true) : bothM z ma z mb = true := by
  unfold bothM
  rw [ga, gb, decide_eq_true rfl]; rfl
theorem wi_of {z : Int} {ma mb : List (List Nat)} (ga : goodM z ma = true) (gb : goodM z mb = true) (h : ∀ i, i < ma.length → wiB (ma.getD i []) (mb.getD i []) = true) : wiM z ma z mb = true := by
  unfold wiM
  rw [both_of ga gb, Bool.true_and, List.all_eq_true]
  exact fun i hi => h i (List.mem_range.1 hi)
theorem joinM_getD {ma mb : List (List Nat)} {i : Nat} (h : i < ma.length) : (joinM ma mb).getD i [] = joinL (ma.getD i []) (mb.getD i []) := by
  rw [List.getD, List.getElem?_eq_getElem (by rw [joinM_len]; exact h)]
  simp [joinM, h]
theorem joinL_comm (a b : List Nat) : joinL b a = joinL a b :=
  row_ext (by rw [joinL_length, joinL_length, Nat.max_comm]) fun i _ => by rw [joinL_at, joinL_at, Nat.max_comm]
theorem joinL_twice (a b : List Nat) : joinL (joinL a b) a = joinL a b :=
  row_ext (by rw [joinL_length, joinL_length]; omega) fun i _ => by rw [joinL_at, joinL_at]; omega
theorem joinM_ext {m1 m2 : List (List Nat)} (hl : m1.length = m2.length) (h : ∀ i, i < m1.length → m1.getD i [] = m2.getD i []) : m1 = m2 :=
  List.ext_getElem hl fun i h1 h2 => by
    have := h i h1
    rwa [List.getD, List.getElem?_eq_getElem h1, List.getD, List.getElem?_eq_getElem h2] at this
theorem joinM_comm {ma mb : List (List Nat)} (hl : ma.length = mb.length) : joinM mb ma = joinM ma mb :=
  joinM_ext (by rw [joinM_len, joinM_len, hl]) fun i hi => by
    rw [joinM_len] at hi
    rw [joinM_getD hi, joinM_getD (by omega), joinL_comm]
theorem joinM_twice {ma mb : List (List Nat)} : joinM (joinM ma mb) ma = joinM ma mb :=
  joinM_ext (by rw [joinM_len]) fun i hi => by
    rw [joinM_len, joinM_len] at hi
    rw [joinM_getD (by rw [joinM_len]; exact hi), joinM_getD hi, joinL_twice]

set_option maxRecDepth 20000 in
set_option maxHeartbeats 16000000 in
theorem law_MatJoins (z : Int) (L : List Rd) (ao0 : Option Addr) (c0 : Nat) (M : List Rd) (ao1 : Option Addr) (c1 : Nat) (W : World) (b0 : SqV W ao0 c0 L) (b1 : SqV W ao1 c1 M) :
    Calls Try.prog 5 #[.int .i64 z, .slice ao0 L.length c0, .slice ao1 M.length c1] W (VOk W) := by
  have A0 := Lib.hid (SqAt.of b0 rfl)
  have A1 := Lib.hid (SqAt.of b1 rfl)
  clear b0 b1
  generalize mOf L = ma at *
  generalize mOf M = mb at *
  generalize L.length = n at *
  generalize M.length = m at *
  obtain ⟨ha, hha⟩ : ∃ h, h = heavyM ma := ⟨_, rfl⟩
  obtain ⟨hb, hhb⟩ : ∃ h, h = heavyM mb := ⟨_, rfl⟩
  obtain ⟨ga, hga⟩ : ∃ h, h = goodM z ma := ⟨_, rfl⟩
  obtain ⟨gb, hgb⟩ : ∃ h, h = goodM z mb := ⟨_, rfl⟩
  have HA := Lib.hid hha.symm
  have HB := Lib.hid hhb.symm
  have GA := Lib.hid hga.symm
  have GB := Lib.hid hgb.symm
  clear hha hhb hga hgb
  go_enter Try.func5, Try.ntmps5
  go_wp2_with fail
  refine (mawake_any W).mono ?_
  rintro e w1 ⟨rfl, hbb⟩
  have B := Lib.hid hbb
  replace A0 := Lib.hid (A0.out.below hbb)
  replace A1 := Lib.hid (A1.out.below hbb)
  clear hbb
  go_wp2_with fail
  refine (heavy_at A0.out HA.out).mono ?_
  rintro e w' ⟨rfl, rfl⟩
  cases ha
  case true =>
    go_wp2_with fail
    go_ret
    exact ⟨rfl, B.out⟩
  go_wp2_with fail
  refine (heavy_at A1.out HB.out).mono ?_
  rintro e w' ⟨rfl, rfl⟩
  cases hb
  case true =>
    go_wp2_with fail
    go_ret
    exact ⟨rfl, B.out⟩
  go_wp2_with fail
  refine (rgood_at (z := z) A0.out GA.out).mono ?_
  rintro e w' ⟨rfl, rfl⟩
  cases ga
  case false =>
    go_wp2_with fail
    go_ret
    exact ⟨rfl, B.out⟩
  go_wp2_with fail
  refine (rgood_at (z := z) A1.out GB.out).mono ?_
  rintro e w' ⟨rfl, rfl⟩
  cases gb
  case false =>
    go_wp2_with fail
    go_ret
    exact ⟨rfl, B.out⟩
  obtain ⟨N, rfl, hN1, hN2, hN3, hN4⟩ := goodM_is GA.out
  obtain ⟨N2, e2, -, -, hM3, hM4⟩ := goodM_is GB.out
  obtain rfl : N = N2 := by omega
  obtain rfl : n = N := by rw [← A0.out.len, hN3]
  obtain rfl : m = n := by rw [← A1.out.len, hM3]
  have LA := Lib.hid hN3
  have LB := Lib.hid hM3
  have hn : m ≤ 10000 := by omega
  have JC := Lib.hid (joinM_comm (ma := ma) (mb := mb) (by rw [hN3, hM3]))
  have JT := Lib.hid (joinM_twice (ma := ma) (mb := mb))
  have GJ := Lib.hid (both_join GA.out GB.out)
  clear e2 hN1 hN2 hN3 hN4 hM3 hM4
  go_wp2_with fail
  refine (mat1_at (m : Int) A0.out (by omega)).mono ?_
  rintro e w2 ⟨a2, c2, rfl, h2⟩
  have X := Lib.hid h2.1
  replace A1 := Lib.hid (A1.out.below h2.2)
  replace B := Lib.hid (B.out.trans (h2.2.mono B.out.size))
  clear h2 A0
  go_wp2_with fail
  refine (mat1_at (m : Int) A1.out (by omega)).mono ?_
  rintro e w3 ⟨a3, c3, rfl, h3⟩
  have Y := Lib.hid h3.1
  replace X := Lib.hid (X.out.below h3.2)
  replace B := Lib.hid (B.out.trans (h3.2.mono B.out.size))
  clear h3 A1
  go_wp2_with fail
  have X1 := (MtV.new (z := (m : Int)) X.out 25).below (below_alloc (Below.refl _ _) (.cells #[.int .i64 (m : Int), .slice a3 m c3] 25))
  have Y1 := MtV.new (z := (m : Int)) (Y.out.below (below_alloc (Below.refl _ _) (.cells #[.int .i64 (m : Int), .slice a2 m c2] 25))) 25
  rw [size_one] at Y1
  have XX := Lib.hid X1
  have YY := Lib.hid Y1
  replace B := Lib.hid (B.out.trans ((below_alloc (below_alloc (Below.refl _ w3) (.cells #[.int .i64 (m : Int), .slice a2 m c2] 25)) (.cells #[.int .i64 (m : Int), .slice a3 m c3] 25)).mono B.out.size))
  clear X Y X1 Y1
  generalize (w3.alloc (.cells #[.int .i64 (m : Int), .slice a2 m c2] 25)).alloc (.cells #[.int .i64 (m : Int), .slice a3 m c3] 25) = w4 at *
  generalize w3.heap.size + 1 = py at *
  generalize w3.heap.size = px at *
  have BT := Lib.hid (both_of GA.out GB.out)
  have BT2 := Lib.hid (both_of GB.out GA.out)
  have BT3 := Lib.hid (both_of GJ.out GA.out)
  have WA := Lib.hid (wi_of GA.out GJ.out (fun i hi => by rw [joinM_getD hi]; exact wiB_iff.2 fun k => by rw [joinL_at]; omega))
  have WB := Lib.hid (wi_of GB.out GJ.out (fun i hi => by rw [joinM_getD (by rw [LA.out, ← LB.out]; exact hi)]; exact wiB_iff.2 fun k => by rw [joinL_at]; omega))
  obtain ⟨mj, hmj⟩ : ∃ mj, mj = joinM ma mb := ⟨_, rfl⟩
  have HJ := Lib.hid hmj.symm
  rw [← hmj] at JC JT WA WB BT3 GJ
  clear hmj
  refine (mjoin_yes XX.out.s YY.out.s BT.out).mono ?_
  rintro e w5 ⟨a5, c5, rfl, h5⟩
  rw [HJ.out] at h5
  replace XX := Lib.hid ((XX.out.below h5.2).below (below_alloc (Below.refl _ _) (.cells #[.int .i64 (m : Int), .slice a5 m c5] 25)))
  replace YY := Lib.hid ((YY.out.below h5.2).below (below_alloc (Below.refl _ _) (.cells #[.int .i64 (m : Int), .slice a5 m c5] 25)))
  have JJ := Lib.hid (MtV.new (z := (m : Int)) h5.1 25)
  replace B := Lib.hid ((B.out.trans (h5.2.mono B.out.size)).alloc (B.out.trans (h5.2.mono B.out.size)).size (.cells #[.int .i64 (m : Int), .slice a5 m c5] 25))
  clear h5
  have kYY0 := YY.out.c0
  have kYY1 := YY.out.c1
  have kXX0 := XX.out.c0
  have kXX1 := XX.out.c1
  go_wp2_with fail
  generalize hw : w5.alloc (.cells #[.int .i64 (m : Int), .slice a5 m c5] 25) = v5 at *
  generalize hp : w5.heap.size = pj at *
  clear hw hp
  clear kYY0 kYY1 kXX0 kXX1
  refine (mjoin_yes YY.out.s XX.out.s BT2.out).mono ?_
  rintro e w6 ⟨a6, c6, rfl, h5⟩
  rw [JC.out] at h5
  replace XX := Lib.hid ((XX.out.below h5.2).below (below_alloc (Below.refl _ _) (.cells #[.int .i64 (m : Int), .slice a6 m c6] 25)))
  replace YY := Lib.hid ((YY.out.below h5.2).below (below_alloc (Below.refl _ _) (.cells #[.int .i64 (m : Int), .slice a6 m c6] 25)))
  replace JJ := Lib.hid ((JJ.out.below h5.2).below (below_alloc (Below.refl _ _) (.cells #[.int .i64 (m : Int), .slice a6 m c6] 25)))
  have KK := Lib.hid (MtV.new (z := (m : Int)) h5.1 25)
  replace B := Lib.hid ((B.out.trans (h5.2.mono B.out.size)).alloc (B.out.trans (h5.2.mono B.out.size)).size (.cells #[.int .i64 (m : Int), .slice a6 m c6] 25))
  clear h5
  have kJJ0 := JJ.out.c0
  have kJJ1 := JJ.out.c1
  have kXX0 := XX.out.c0
  have kXX1 := XX.out.c1
  go_wp2_with fail
  generalize hw : w6.alloc (.cells #[.int .i64 (m : Int), .slice a6 m c6] 25) = v6 at *
  generalize hp : w6.heap.size = pk at *
  clear hw hp
  clear kJJ0 kJJ1 kXX0 kXX1
  refine (mjoin_yes JJ.out.s XX.out.s BT3.out).mono ?_
  rintro e w7 ⟨a7, c7, rfl, h5⟩
  rw [JT.out] at h5
  replace XX := Lib.hid ((XX.out.below h5.2).below (below_alloc (Below.refl _ _) (.cells #[.int .i64 (m : Int), .slice a7 m c7] 25)))
  replace YY := Lib.hid ((YY.out.below h5.2).below (below_alloc (Below.refl _ _) (.cells #[.int .i64 (m : Int), .slice a7 m c7] 25)))
  replace JJ := Lib.hid ((JJ.out.below h5.2).below (below_alloc (Below.refl _ _) (.cells #[.int .i64 (m : Int), .slice a7 m c7] 25)))
  replace KK := Lib.hid ((KK.out.below h5.2).below (below_alloc (Below.refl _ _) (.cells #[.int .i64 (m : Int), .slice a7 m c7] 25)))
  have GG := Lib.hid (MtV.new (z := (m : Int)) h5.1 25)
  replace B := Lib.hid ((B.out.trans (h5.2.mono B.out.size)).alloc (B.out.trans (h5.2.mono B.out.size)).size (.cells #[.int .i64 (m : Int), .slice a7 m c7] 25))
  clear h5
  have kXX0 := XX.out.c0
  have kXX1 := XX.out.c1
  have kYY0 := YY.out.c0
  have kYY1 := YY.out.c1
  have kJJ0 := JJ.out.c0
  have kJJ1 := JJ.out.c1
  have kKK0 := KK.out.c0
  have kKK1 := KK.out.c1
  have kGG0 := GG.out.c0
  have kGG1 := GG.out.c1
  go_upto_region 9 with fail
  generalize hw : w7.alloc (.cells #[.int .i64 (m : Int), .slice a7 m c7] 25) = v7 at *
  generalize hp : w7.heap.size = pg at *
  clear hw hp
  refine wp_region_noPanic ?_
  refine wp_region_held_drew (S := (fun w' => w'.cell? ⟨px, 0, none⟩ = some (.int .i64 (m : Int)) ∧ w'.cell? ⟨px, 1, none⟩ = some (.slice a2 m c2) ∧ w'.cell? ⟨py, 0, none⟩ = some (.int .i64 (m : Int)) ∧ w'.cell? ⟨py, 1, none⟩ = some (.slice a3 m c3) ∧ w'.cell? ⟨pj, 0, none⟩ = some (.int .i64 (m : Int)) ∧ w'.cell? ⟨pj, 1, none⟩ = some (.slice a5 m c5) ∧ w'.cell? ⟨pk, 0, none⟩ = some (.int .i64 (m : Int)) ∧ w'.cell? ⟨pk, 1, none⟩ = some (.slice a6 m c6) ∧ w'.cell? ⟨pg, 0, none⟩ = some (.int .i64 (m : Int)) ∧ w'.cell? ⟨pg, 1, none⟩ = some (.slice a7 m c7) ∧ Hid (Below v7.heap.size v7 w'))) (by kernel_rfl) ?_ (fun hHeld => ?_)
  · exact ⟨kXX0, kXX1, kYY0, kYY1, kJJ0, kJJ1, kKK0, kKK1, kGG0, kGG1, Lib.hid (drew_below v7)⟩
  refine wpAnyH_take (i := 0) (oi := { dst := some 59, op := Op.move (Operand.tmp 10), type := 26, pos := "law.go:136", after := #[], guard := none }) (v := ?_) rfl (by kernel_rfl) (by kernel_rfl) (by kernel_rfl) (fun _ _ _ h => h) (Or.inl ⟨by rfl, ?_⟩) (by assumption) ?_
  rotate_left
  · (intro w hSw; (try dsimp only at hSw); go_simp; try with_reducible rfl)
  ((try simp only [Act.put]); (try simp only [List.setIfInBounds_toArray]); (try simp only [List.set_cons_succ]); (try simp only [List.set_cons_zero]))
  refine wpAnyH_take (i := 1) (oi := { dst := some 60, op := Op.binOp BinOp.eql 26 (Operand.tmp 59) (Operand.const (Value.int IntKind.i64 0)) 26, type := 4, pos := "law.go:136", after := #[{ on := 0, ground := Ground.data }], guard := none }) (v := ?_) rfl (by kernel_rfl) (by kernel_rfl) (by kernel_rfl) (fun _ _ _ h => h) (Or.inl ⟨by rfl, ?_⟩) (by assumption) ?_
  rotate_left
  · (intro w hSw; (try dsimp only at hSw); go_simp; try with_reducible rfl)
  ((try simp only [Act.put]); (try simp only [List.setIfInBounds_toArray]); (try simp only [List.set_cons_succ]); (try simp only [List.set_cons_zero]))
  refine wpAnyH_take (i := 2) (oi := { dst := some 61, op := Op.move (Operand.tmp 60), type := 4, pos := "law.go:136", after := #[{ on := 1, ground := Ground.data }], guard := none }) (v := ?_) rfl (by kernel_rfl) (by kernel_rfl) (by kernel_rfl) (fun _ _ _ h => h) (Or.inl ⟨by rfl, ?_⟩) (by assumption) ?_
  rotate_left
  · (intro w hSw; (try dsimp only at hSw); go_simp; try with_reducible rfl)
  ((try simp only [Act.put]); (try simp only [List.setIfInBounds_toArray]); (try simp only [List.set_cons_succ]); (try simp only [List.set_cons_zero]))
  refine wpAnyH_take (i := 3) (oi := { dst := some 62, op := Op.move (Operand.tmp 12), type := 26, pos := "law.go:136", after := #[{ on := 2, ground := Ground.guard }], guard := some (2, true) }) (v := ?_) rfl (by kernel_rfl) (by kernel_rfl) (by kernel_rfl) (fun _ _ _ h => h) (Or.inl ⟨by rfl, ?_⟩) (by assumption) ?_
  rotate_left
  · (intro w hSw; (try dsimp only at hSw); go_simp; try with_reducible rfl)
  ((try simp only [Act.put]); (try simp only [List.setIfInBounds_toArray]); (try simp only [List.set_cons_succ]); (try simp only [List.set_cons_zero]))
  refine wpAnyH_take (i := 4) (oi := { dst := some 63, op := Op.binOp BinOp.eql 26 (Operand.tmp 62) (Operand.const (Value.int IntKind.i64 0)) 26, type := 4, pos := "law.go:136", after := #[{ on := 3, ground := Ground.data }, { on := 2, ground := Ground.guard }], guard := some (2, true) }) (v := ?_) rfl (by kernel_rfl) (by kernel_rfl) (by kernel_rfl) (fun _ _ _ h => h) (Or.inl ⟨by rfl, ?_⟩) (by assumption) ?_
  rotate_left
  · (intro w hSw; (try dsimp only at hSw); go_simp; try with_reducible rfl)
  ((try simp only [Act.put]); (try simp only [List.setIfInBounds_toArray]); (try simp only [List.set_cons_succ]); (try simp only [List.set_cons_zero]))
  refine wpAnyH_take (i := 5) (oi := { dst := some 64, op := Op.pick (Operand.tmp 61) (Operand.tmp 63) (Operand.const (Value.bool false)), type := 4, pos := "law.go:136", after := #[{ on := 2, ground := Ground.data }, { on := 4, ground := Ground.data }], guard := none }) (v := ?_) rfl (by kernel_rfl) (by kernel_rfl) (by kernel_rfl) (fun _ _ _ h => h) (Or.inl ⟨by rfl, ?_⟩) (by assumption) ?_
  rotate_left
  · (intro w hSw; (try dsimp only at hSw); go_simp; try with_reducible rfl)
  ((try simp only [Act.put]); (try simp only [List.setIfInBounds_toArray]); (try simp only [List.set_cons_succ]); (try simp only [List.set_cons_zero]))
  refine wpAnyH_take (i := 6) (oi := { dst := some 65, op := Op.move (Operand.tmp 64), type := 4, pos := "law.go:136", after := #[{ on := 5, ground := Ground.data }, { on := 2, ground := Ground.chain }], guard := none }) (v := ?_) rfl (by kernel_rfl) (by kernel_rfl) (by kernel_rfl) (fun _ _ _ h => h) (Or.inl ⟨by rfl, ?_⟩) (by assumption) ?_
  rotate_left
  · (intro w hSw; (try dsimp only at hSw); go_simp; try with_reducible rfl)
  ((try simp only [Act.put]); (try simp only [List.setIfInBounds_toArray]); (try simp only [List.set_cons_succ]); (try simp only [List.set_cons_zero]))
  refine wpAnyH_take (i := 7) (oi := { dst := some 66, op := Op.move (Operand.tmp 14), type := 26, pos := "law.go:136", after := #[{ on := 6, ground := Ground.guard }], guard := some (6, true) }) (v := ?_) rfl (by kernel_rfl) (by kernel_rfl) (by kernel_rfl) (fun _ _ _ h => h) (Or.inl ⟨by rfl, ?_⟩) (by assumption) ?_
  rotate_left
  · (intro w hSw; (try dsimp only at hSw); go_simp; try with_reducible rfl)
  ((try simp only [Act.put]); (try simp only [List.setIfInBounds_toArray]); (try simp only [List.set_cons_succ]); (try simp only [List.set_cons_zero]))
  refine wpAnyH_take (i := 8) (oi := { dst := some 67, op := Op.binOp BinOp.eql 26 (Operand.tmp 66) (Operand.const (Value.int IntKind.i64 0)) 26, type := 4, pos := "law.go:136", after := #[{ on := 7, ground := Ground.data }, { on := 6, ground := Ground.guard }], guard := some (6, true) }) (v := ?_) rfl (by kernel_rfl) (by kernel_rfl) (by kernel_rfl) (fun _ _ _ h => h) (Or.inl ⟨by rfl, ?_⟩) (by assumption) ?_
  rotate_left
  · (intro w hSw; (try dsimp only at hSw); go_simp; try with_reducible rfl)
  ((try simp only [Act.put]); (try simp only [List.setIfInBounds_toArray]); (try simp only [List.set_cons_succ]); (try simp only [List.set_cons_zero]))
  refine wpAnyH_take (i := 9) (oi := { dst := some 68, op := Op.pick (Operand.tmp 65) (Operand.tmp 67) (Operand.const (Value.bool false)), type := 4, pos := "law.go:136", after := #[{ on := 6, ground := Ground.data }, { on := 8, ground := Ground.data }], guard := none }) (v := ?_) rfl (by kernel_rfl) (by kernel_rfl) (by kernel_rfl) (fun _ _ _ h => h) (Or.inl ⟨by rfl, ?_⟩) (by assumption) ?_
  rotate_left
  · (intro w hSw; (try dsimp only at hSw); go_simp; try with_reducible rfl)
  ((try simp only [Act.put]); (try simp only [List.setIfInBounds_toArray]); (try simp only [List.set_cons_succ]); (try simp only [List.set_cons_zero]))
  refine wpAnyH_take (i := 10) (oi := { dst := some 69, op := Op.move (Operand.tmp 68), type := 4, pos := "law.go:136", after := #[{ on := 9, ground := Ground.data }, { on := 6, ground := Ground.chain }], guard := none }) (v := ?_) rfl (by kernel_rfl) (by kernel_rfl) (by kernel_rfl) (fun _ _ _ h => h) (Or.inl ⟨by rfl, ?_⟩) (by assumption) ?_
  rotate_left
  · (intro w hSw; (try dsimp only at hSw); go_simp; try with_reducible rfl)
  ((try simp only [Act.put]); (try simp only [List.setIfInBounds_toArray]); (try simp only [List.set_cons_succ]); (try simp only [List.set_cons_zero]))
  refine wpAnyH_take (i := 11) (oi := { dst := some 70, op := Op.load 25 (Operand.tmp 7), type := 25, pos := "law.go:136", after := #[{ on := 10, ground := Ground.guard }], guard := some (10, true) }) (v := ?_) rfl (by kernel_rfl) (by kernel_rfl) (by kernel_rfl) (fun _ _ _ h => h) (Or.inl ⟨by rfl, ?_⟩) (by assumption) ?_
  rotate_left
  · (intro w hSw; (try dsimp only at hSw); go_simp; try with_reducible rfl)
  ((try simp only [Act.put]); (try simp only [List.setIfInBounds_toArray]); (try simp only [List.set_cons_succ]); (try simp only [List.set_cons_zero]))
  refine wpAnyH_take (i := 12) (oi := { dst := some 71, op := Op.load 25 (Operand.tmp 9), type := 25, pos := "law.go:136", after := #[{ on := 10, ground := Ground.guard }], guard := some (10, true) }) (v := ?_) rfl (by kernel_rfl) (by kernel_rfl) (by kernel_rfl) (fun _ _ _ h => h) (Or.inl ⟨by rfl, ?_⟩) (by assumption) ?_
  rotate_left
  · (intro w hSw; (try dsimp only at hSw); go_simp; try with_reducible rfl)
  ((try simp only [Act.put]); (try simp only [List.setIfInBounds_toArray]); (try simp only [List.set_cons_succ]); (try simp only [List.set_cons_zero]))
  refine wpAnyH_ready (rs := [13]) (by kernel_rfl) (by simp) ?_
  refine AllReadyH.cons (o := { dst := some 72, op := Op.call { callee := Callee.value (Operand.func 18), args := #[Operand.tmp 70, Operand.tmp 71], argTypes := #[25, 25] }, type := 4, pos := "law.go:136", after := #[{ on := 11, ground := Ground.data }, { on := 12, ground := Ground.data }, { on := 10, ground := Ground.chain }, { on := 10, ground := Ground.guard }], guard := some (10, true) }) rfl (fun K hK => ?_) AllReadyH.nil
  go_simp
  refine (mwi_at (r := true) (XX.out.s.below (Hid.out hHeld.2.2.2.2.2.2.2.2.2.2)) (JJ.out.s.below (Hid.out hHeld.2.2.2.2.2.2.2.2.2.2)) WA.out).mono ?_
  rintro e w5 ⟨rfl, hb⟩
  try go_wp2_with fail
  refine hK.out _ _ ?_ (fun hNew => ?_)
  · exact ⟨cell_go hHeld.1 hb, cell_go hHeld.2.1 hb, cell_go hHeld.2.2.1 hb, cell_go hHeld.2.2.2.1 hb, cell_go hHeld.2.2.2.2.1 hb, cell_go hHeld.2.2.2.2.2.1 hb, cell_go hHeld.2.2.2.2.2.2.1 hb, cell_go hHeld.2.2.2.2.2.2.2.1 hb, cell_go hHeld.2.2.2.2.2.2.2.2.1 hb, cell_go hHeld.2.2.2.2.2.2.2.2.2.1 hb, Lib.hid ((Hid.out hHeld.2.2.2.2.2.2.2.2.2.2).trans (hb.mono (Hid.out hHeld.2.2.2.2.2.2.2.2.2.2).size))⟩
  clear hK K
  replace hHeld := hNew
  clear hNew
  ((try simp only [Act.put]); (try simp only [List.setIfInBounds_toArray]); (try simp only [List.set_cons_succ]); (try simp only [List.set_cons_zero]))
  refine wpAnyH_take (i := 14) (oi := { dst := some 73, op := Op.pick (Operand.tmp 69) (Operand.tmp 72) (Operand.const (Value.bool false)), type := 4, pos := "law.go:136", after := #[{ on := 10, ground := Ground.data }, { on := 13, ground := Ground.data }], guard := none }) (v := ?_) rfl (by kernel_rfl) (by kernel_rfl) (by kernel_rfl) (fun _ _ _ h => h) (Or.inl ⟨by rfl, ?_⟩) (by assumption) ?_
  rotate_left
  · (intro w hSw; (try dsimp only at hSw); go_simp; try with_reducible rfl)
  ((try simp only [Act.put]); (try simp only [List.setIfInBounds_toArray]); (try simp only [List.set_cons_succ]); (try simp only [List.set_cons_zero]))
  refine wpAnyH_take (i := 15) (oi := { dst := some 74, op := Op.move (Operand.tmp 73), type := 4, pos := "law.go:136", after := #[{ on := 14, ground := Ground.data }, { on := 13, ground := Ground.chain }], guard := none }) (v := ?_) rfl (by kernel_rfl) (by kernel_rfl) (by kernel_rfl) (fun _ _ _ h => h) (Or.inl ⟨by rfl, ?_⟩) (by assumption) ?_
  rotate_left
  · (intro w hSw; (try dsimp only at hSw); go_simp; try with_reducible rfl)
  ((try simp only [Act.put]); (try simp only [List.setIfInBounds_toArray]); (try simp only [List.set_cons_succ]); (try simp only [List.set_cons_zero]))
  refine wpAnyH_take (i := 16) (oi := { dst := some 75, op := Op.load 25 (Operand.tmp 8), type := 25, pos := "law.go:136", after := #[{ on := 15, ground := Ground.guard }], guard := some (15, true) }) (v := ?_) rfl (by kernel_rfl) (by kernel_rfl) (by kernel_rfl) (fun _ _ _ h => h) (Or.inl ⟨by rfl, ?_⟩) (by assumption) ?_
  rotate_left
  · (intro w hSw; (try dsimp only at hSw); go_simp; try with_reducible rfl)
  ((try simp only [Act.put]); (try simp only [List.setIfInBounds_toArray]); (try simp only [List.set_cons_succ]); (try simp only [List.set_cons_zero]))
  refine wpAnyH_take (i := 17) (oi := { dst := some 76, op := Op.load 25 (Operand.tmp 9), type := 25, pos := "law.go:136", after := #[{ on := 15, ground := Ground.guard }], guard := some (15, true) }) (v := ?_) rfl (by kernel_rfl) (by kernel_rfl) (by kernel_rfl) (fun _ _ _ h => h) (Or.inl ⟨by rfl, ?_⟩) (by assumption) ?_
  rotate_left
  · (intro w hSw; (try dsimp only at hSw); go_simp; try with_reducible rfl)
  ((try simp only [Act.put]); (try simp only [List.setIfInBounds_toArray]); (try simp only [List.set_cons_succ]); (try simp only [List.set_cons_zero]))
  refine wpAnyH_ready (rs := [18]) (by kernel_rfl) (by simp) ?_
  refine AllReadyH.cons (o := { dst := some 77, op := Op.call { callee := Callee.value (Operand.func 18), args := #[Operand.tmp 75, Operand.tmp 76], argTypes := #[25, 25] }, type := 4, pos := "law.go:136", after := #[{ on := 16, ground := Ground.data }, { on := 17, ground := Ground.data }, { on := 15, ground := Ground.chain }, { on := 15, ground := Ground.guard }], guard := some (15, true) }) rfl (fun K hK => ?_) AllReadyH.nil
  go_simp
  refine (mwi_at (r := true) (YY.out.s.below (Hid.out hHeld.2.2.2.2.2.2.2.2.2.2)) (JJ.out.s.below (Hid.out hHeld.2.2.2.2.2.2.2.2.2.2)) WB.out).mono ?_
  rintro e w5 ⟨rfl, hb⟩
  try go_wp2_with fail
  refine hK.out _ _ ?_ (fun hNew => ?_)
  · exact ⟨cell_go hHeld.1 hb, cell_go hHeld.2.1 hb, cell_go hHeld.2.2.1 hb, cell_go hHeld.2.2.2.1 hb, cell_go hHeld.2.2.2.2.1 hb, cell_go hHeld.2.2.2.2.2.1 hb, cell_go hHeld.2.2.2.2.2.2.1 hb, cell_go hHeld.2.2.2.2.2.2.2.1 hb, cell_go hHeld.2.2.2.2.2.2.2.2.1 hb, cell_go hHeld.2.2.2.2.2.2.2.2.2.1 hb, Lib.hid ((Hid.out hHeld.2.2.2.2.2.2.2.2.2.2).trans (hb.mono (Hid.out hHeld.2.2.2.2.2.2.2.2.2.2).size))⟩
  clear hK K
  replace hHeld := hNew
  clear hNew
  ((try simp only [Act.put]); (try simp only [List.setIfInBounds_toArray]); (try simp only [List.set_cons_succ]); (try simp only [List.set_cons_zero]))
  refine wpAnyH_take (i := 19) (oi := { dst := some 78, op := Op.pick (Operand.tmp 74) (Operand.tmp 77) (Operand.const (Value.bool false)), type := 4, pos := "law.go:136", after := #[{ on := 15, ground := Ground.data }, { on := 18, ground := Ground.data }], guard := none }) (v := ?_) rfl (by kernel_rfl) (by kernel_rfl) (by kernel_rfl) (fun _ _ _ h => h) (Or.inl ⟨by rfl, ?_⟩) (by assumption) ?_
  rotate_left
  · (intro w hSw; (try dsimp only at hSw); go_simp; try with_reducible rfl)
  ((try simp only [Act.put]); (try simp only [List.setIfInBounds_toArray]); (try simp only [List.set_cons_succ]); (try simp only [List.set_cons_zero]))
  refine wpAnyH_take (i := 20) (oi := { dst := some 79, op := Op.move (Operand.tmp 78), type := 4, pos := "law.go:136", after := #[{ on := 19, ground := Ground.data }, { on := 18, ground := Ground.chain }], guard := none }) (v := ?_) rfl (by kernel_rfl) (by kernel_rfl) (by kernel_rfl) (fun _ _ _ h => h) (Or.inl ⟨by rfl, ?_⟩) (by assumption) ?_
  rotate_left
  · (intro w hSw; (try dsimp only at hSw); go_simp; try with_reducible rfl)
  ((try simp only [Act.put]); (try simp only [List.setIfInBounds_toArray]); (try simp only [List.set_cons_succ]); (try simp only [List.set_cons_zero]))
  refine wpAnyH_take (i := 21) (oi := { dst := some 80, op := Op.load 25 (Operand.tmp 9), type := 25, pos := "law.go:136", after := #[{ on := 20, ground := Ground.guard }], guard := some (20, true) }) (v := ?_) rfl (by kernel_rfl) (by kernel_rfl) (by kernel_rfl) (fun _ _ _ h => h) (Or.inl ⟨by rfl, ?_⟩) (by assumption) ?_
  rotate_left
  · (intro w hSw; (try dsimp only at hSw); go_simp; try with_reducible rfl)
  ((try simp only [Act.put]); (try simp only [List.setIfInBounds_toArray]); (try simp only [List.set_cons_succ]); (try simp only [List.set_cons_zero]))
  refine wpAnyH_take (i := 23) (oi := { dst := some 82, op := Op.load 25 (Operand.tmp 11), type := 25, pos := "law.go:136", after := #[{ on := 20, ground := Ground.guard }], guard := some (20, true) }) (v := ?_) rfl (by kernel_rfl) (by kernel_rfl) (by kernel_rfl) (fun _ _ _ h => h) (Or.inl ⟨by rfl, ?_⟩) (by assumption) ?_
  rotate_left
  · (intro w hSw; (try dsimp only at hSw); go_simp; try with_reducible rfl)
  ((try simp only [Act.put]); (try simp only [List.setIfInBounds_toArray]); (try simp only [List.set_cons_succ]); (try simp only [List.set_cons_zero]))
  refine wpAnyH_ready (rs := [22]) (by kernel_rfl) (by simp) ?_
  refine AllReadyH.cons (o := { dst := some 81, op := Op.call { callee := Callee.value (Operand.func 13), args := #[Operand.tmp 80], argTypes := #[25] }, type := 35, pos := "law.go:136", after := #[{ on := 21, ground := Ground.data }, { on := 20, ground := Ground.chain }, { on := 20, ground := Ground.guard }], guard := some (20, true) }) rfl (fun K hK => ?_) AllReadyH.nil
  go_simp
  refine (rows_at (m : Int) (JJ.out.s.below (Hid.out hHeld.2.2.2.2.2.2.2.2.2.2)) (by omega)).mono ?_
  rintro e w5 ⟨d1, cd1, rfl, h5⟩
  have hb := h5.2
  have R1 := Lib.hid h5.1
  clear h5
  try go_wp2_with fail
  refine hK.out _ _ ?_ (fun hNew => ?_)
  · exact ⟨cell_go hHeld.1 hb, cell_go hHeld.2.1 hb, cell_go hHeld.2.2.1 hb, cell_go hHeld.2.2.2.1 hb, cell_go hHeld.2.2.2.2.1 hb, cell_go hHeld.2.2.2.2.2.1 hb, cell_go hHeld.2.2.2.2.2.2.1 hb, cell_go hHeld.2.2.2.2.2.2.2.1 hb, cell_go hHeld.2.2.2.2.2.2.2.2.1 hb, cell_go hHeld.2.2.2.2.2.2.2.2.2.1 hb, Lib.hid ((Hid.out hHeld.2.2.2.2.2.2.2.2.2.2).trans (hb.mono (Hid.out hHeld.2.2.2.2.2.2.2.2.2.2).size))⟩
  clear hK K
  replace hHeld := hNew
  clear hNew
  ((try simp only [Act.put]); (try simp only [List.setIfInBounds_toArray]); (try simp only [List.set_cons_succ]); (try simp only [List.set_cons_zero]))
  refine wpAnyH_ready (rs := [24]) (by kernel_rfl) (by simp) ?_
  refine AllReadyH.cons (o := { dst := some 83, op := Op.call { callee := Callee.value (Operand.func 13), args := #[Operand.tmp 82], argTypes := #[25] }, type := 35, pos := "law.go:136", after := #[{ on := 23, ground := Ground.data }, { on := 22, ground := Ground.chain }, { on := 20, ground := Ground.guard }], guard := some (20, true) }) rfl (fun K hK => ?_) AllReadyH.nil
  go_simp
  refine (rows_at (m : Int) (KK.out.s.below (Hid.out hHeld.2.2.2.2.2.2.2.2.2.2)) (by omega)).mono ?_
  rintro e w5 ⟨d2, cd2, rfl, h5⟩
  have hb := h5.2
  replace R1 := Lib.hid (R1.out.below hb)
  have R2 := Lib.hid h5.1
  clear h5
  try go_wp2_with fail
  refine hK.out _ _ ?_ (fun hNew => ?_)
  · exact ⟨cell_go hHeld.1 hb, cell_go hHeld.2.1 hb, cell_go hHeld.2.2.1 hb, cell_go hHeld.2.2.2.1 hb, cell_go hHeld.2.2.2.2.1 hb, cell_go hHeld.2.2.2.2.2.1 hb, cell_go hHeld.2.2.2.2.2.2.1 hb, cell_go hHeld.2.2.2.2.2.2.2.1 hb, cell_go hHeld.2.2.2.2.2.2.2.2.1 hb, cell_go hHeld.2.2.2.2.2.2.2.2.2.1 hb, Lib.hid ((Hid.out hHeld.2.2.2.2.2.2.2.2.2.2).trans (hb.mono (Hid.out hHeld.2.2.2.2.2.2.2.2.2.2).size))⟩
  clear hK K
  replace hHeld := hNew
  clear hNew
  ((try simp only [Act.put]); (try simp only [List.setIfInBounds_toArray]); (try simp only [List.set_cons_succ]); (try simp only [List.set_cons_zero]))
  refine wpAnyH_ready (rs := [25]) (by kernel_rfl) (by simp) ?_
  refine AllReadyH.cons (o := { dst := some 84, op := Op.call { callee := Callee.value (Operand.func 12), args := #[Operand.tmp 81, Operand.tmp 83], argTypes := #[35, 35] }, type := 4, pos := "law.go:136", after := #[{ on := 22, ground := Ground.data }, { on := 24, ground := Ground.data }, { on := 24, ground := Ground.chain }, { on := 20, ground := Ground.guard }], guard := some (20, true) }) rfl (fun K hK => ?_) AllReadyH.nil
  go_simp
  refine (squares_at (r := true) R1.out R2.out (decide_eq_true rfl)).mono ?_
  rintro e w5 ⟨rfl, n5, hw⟩
  have hb := drew_b hw
  clear hw
  try go_wp2_with fail
  refine hK.out _ _ ?_ (fun hNew => ?_)
  · exact ⟨cell_go hHeld.1 hb, cell_go hHeld.2.1 hb, cell_go hHeld.2.2.1 hb, cell_go hHeld.2.2.2.1 hb, cell_go hHeld.2.2.2.2.1 hb, cell_go hHeld.2.2.2.2.2.1 hb, cell_go hHeld.2.2.2.2.2.2.1 hb, cell_go hHeld.2.2.2.2.2.2.2.1 hb, cell_go hHeld.2.2.2.2.2.2.2.2.1 hb, cell_go hHeld.2.2.2.2.2.2.2.2.2.1 hb, Lib.hid ((Hid.out hHeld.2.2.2.2.2.2.2.2.2.2).trans (hb.mono (Hid.out hHeld.2.2.2.2.2.2.2.2.2.2).size))⟩
  clear hK K
  replace hHeld := hNew
  clear hNew
  ((try simp only [Act.put]); (try simp only [List.setIfInBounds_toArray]); (try simp only [List.set_cons_succ]); (try simp only [List.set_cons_zero]))
  refine wpAnyH_take (i := 26) (oi := { dst := some 85, op := Op.pick (Operand.tmp 79) (Operand.tmp 84) (Operand.const (Value.bool false)), type := 4, pos := "law.go:136", after := #[{ on := 20, ground := Ground.data }, { on := 25, ground := Ground.data }], guard := none }) (v := ?_) rfl (by kernel_rfl) (by kernel_rfl) (by kernel_rfl) (fun _ _ _ h => h) (Or.inl ⟨by rfl, ?_⟩) (by assumption) ?_
  rotate_left
  · (intro w hSw; (try dsimp only at hSw); go_simp; try with_reducible rfl)
  ((try simp only [Act.put]); (try simp only [List.setIfInBounds_toArray]); (try simp only [List.set_cons_succ]); (try simp only [List.set_cons_zero]))
  refine wpAnyH_take (i := 27) (oi := { dst := some 86, op := Op.move (Operand.tmp 85), type := 4, pos := "law.go:136", after := #[{ on := 26, ground := Ground.data }, { on := 25, ground := Ground.chain }], guard := none }) (v := ?_) rfl (by kernel_rfl) (by kernel_rfl) (by kernel_rfl) (fun _ _ _ h => h) (Or.inl ⟨by rfl, ?_⟩) (by assumption) ?_
  rotate_left
  · (intro w hSw; (try dsimp only at hSw); go_simp; try with_reducible rfl)
  ((try simp only [Act.put]); (try simp only [List.setIfInBounds_toArray]); (try simp only [List.set_cons_succ]); (try simp only [List.set_cons_zero]))
  refine wpAnyH_take (i := 28) (oi := { dst := some 87, op := Op.load 25 (Operand.tmp 13), type := 25, pos := "law.go:136", after := #[{ on := 27, ground := Ground.guard }], guard := some (27, true) }) (v := ?_) rfl (by kernel_rfl) (by kernel_rfl) (by kernel_rfl) (fun _ _ _ h => h) (Or.inl ⟨by rfl, ?_⟩) (by assumption) ?_
  rotate_left
  · (intro w hSw; (try dsimp only at hSw); go_simp; try with_reducible rfl)
  ((try simp only [Act.put]); (try simp only [List.setIfInBounds_toArray]); (try simp only [List.set_cons_succ]); (try simp only [List.set_cons_zero]))
  refine wpAnyH_take (i := 30) (oi := { dst := some 89, op := Op.load 25 (Operand.tmp 9), type := 25, pos := "law.go:136", after := #[{ on := 27, ground := Ground.guard }], guard := some (27, true) }) (v := ?_) rfl (by kernel_rfl) (by kernel_rfl) (by kernel_rfl) (fun _ _ _ h => h) (Or.inl ⟨by rfl, ?_⟩) (by assumption) ?_
  rotate_left
  · (intro w hSw; (try dsimp only at hSw); go_simp; try with_reducible rfl)
  ((try simp only [Act.put]); (try simp only [List.setIfInBounds_toArray]); (try simp only [List.set_cons_succ]); (try simp only [List.set_cons_zero]))
  refine wpAnyH_ready (rs := [29]) (by kernel_rfl) (by simp) ?_
  refine AllReadyH.cons (o := { dst := some 88, op := Op.call { callee := Callee.value (Operand.func 13), args := #[Operand.tmp 87], argTypes := #[25] }, type := 35, pos := "law.go:136", after := #[{ on := 28, ground := Ground.data }, { on := 27, ground := Ground.chain }, { on := 27, ground := Ground.guard }], guard := some (27, true) }) rfl (fun K hK => ?_) AllReadyH.nil
  go_simp
  refine (rows_at (m : Int) (GG.out.s.below (Hid.out hHeld.2.2.2.2.2.2.2.2.2.2)) (by omega)).mono ?_
  rintro e w5 ⟨d3, cd3, rfl, h5⟩
  have hb := h5.2
  have R3 := Lib.hid h5.1
  clear h5
  try go_wp2_with fail
  refine hK.out _ _ ?_ (fun hNew => ?_)
  · exact ⟨cell_go hHeld.1 hb, cell_go hHeld.2.1 hb, cell_go hHeld.2.2.1 hb, cell_go hHeld.2.2.2.1 hb, cell_go hHeld.2.2.2.2.1 hb, cell_go hHeld.2.2.2.2.2.1 hb, cell_go hHeld.2.2.2.2.2.2.1 hb, cell_go hHeld.2.2.2.2.2.2.2.1 hb, cell_go hHeld.2.2.2.2.2.2.2.2.1 hb, cell_go hHeld.2.2.2.2.2.2.2.2.2.1 hb, Lib.hid ((Hid.out hHeld.2.2.2.2.2.2.2.2.2.2).trans (hb.mono (Hid.out hHeld.2.2.2.2.2.2.2.2.2.2).size))⟩
  clear hK K
  replace hHeld := hNew
  clear hNew
  ((try simp only [Act.put]); (try simp only [List.setIfInBounds_toArray]); (try simp only [List.set_cons_succ]); (try simp only [List.set_cons_zero]))
  refine wpAnyH_ready (rs := [31]) (by kernel_rfl) (by simp) ?_
  refine AllReadyH.cons (o := { dst := some 90, op := Op.call { callee := Callee.value (Operand.func 13), args := #[Operand.tmp 89], argTypes := #[25] }, type := 35, pos := "law.go:136", after := #[{ on := 30, ground := Ground.data }, { on := 29, ground := Ground.chain }, { on := 27, ground := Ground.guard }], guard := some (27, true) }) rfl (fun K hK => ?_) AllReadyH.nil
  go_simp
  refine (rows_at (m : Int) (JJ.out.s.below (Hid.out hHeld.2.2.2.2.2.2.2.2.2.2)) (by omega)).mono ?_
  rintro e w5 ⟨d4, cd4, rfl, h5⟩
  have hb := h5.2
  replace R3 := Lib.hid (R3.out.below hb)
  have R4 := Lib.hid h5.1
  clear h5
  try go_wp2_with fail
  refine hK.out _ _ ?_ (fun hNew => ?_)
  · exact ⟨cell_go hHeld.1 hb, cell_go hHeld.2.1 hb, cell_go hHeld.2.2.1 hb, cell_go hHeld.2.2.2.1 hb, cell_go hHeld.2.2.2.2.1 hb, cell_go hHeld.2.2.2.2.2.1 hb, cell_go hHeld.2.2.2.2.2.2.1 hb, cell_go hHeld.2.2.2.2.2.2.2.1 hb, cell_go hHeld.2.2.2.2.2.2.2.2.1 hb, cell_go hHeld.2.2.2.2.2.2.2.2.2.1 hb, Lib.hid ((Hid.out hHeld.2.2.2.2.2.2.2.2.2.2).trans (hb.mono (Hid.out hHeld.2.2.2.2.2.2.2.2.2.2).size))⟩
  clear hK K
  replace hHeld := hNew
  clear hNew
  ((try simp only [Act.put]); (try simp only [List.setIfInBounds_toArray]); (try simp only [List.set_cons_succ]); (try simp only [List.set_cons_zero]))
  refine wpAnyH_ready (rs := [32]) (by kernel_rfl) (by simp) ?_
  refine AllReadyH.cons (o := { dst := some 91, op := Op.call { callee := Callee.value (Operand.func 12), args := #[Operand.tmp 88, Operand.tmp 90], argTypes := #[35, 35] }, type := 4, pos := "law.go:136", after := #[{ on := 29, ground := Ground.data }, { on := 31, ground := Ground.data }, { on := 31, ground := Ground.chain }, { on := 27, ground := Ground.guard }], guard := some (27, true) }) rfl (fun K hK => ?_) AllReadyH.nil
  go_simp
  refine (squares_at (r := true) R3.out R4.out (decide_eq_true rfl)).mono ?_
  rintro e w5 ⟨rfl, n5, hw⟩
  have hb := drew_b hw
  clear hw
  try go_wp2_with fail
  refine hK.out _ _ ?_ (fun hNew => ?_)
  · exact ⟨cell_go hHeld.1 hb, cell_go hHeld.2.1 hb, cell_go hHeld.2.2.1 hb, cell_go hHeld.2.2.2.1 hb, cell_go hHeld.2.2.2.2.1 hb, cell_go hHeld.2.2.2.2.2.1 hb, cell_go hHeld.2.2.2.2.2.2.1 hb, cell_go hHeld.2.2.2.2.2.2.2.1 hb, cell_go hHeld.2.2.2.2.2.2.2.2.1 hb, cell_go hHeld.2.2.2.2.2.2.2.2.2.1 hb, Lib.hid ((Hid.out hHeld.2.2.2.2.2.2.2.2.2.2).trans (hb.mono (Hid.out hHeld.2.2.2.2.2.2.2.2.2.2).size))⟩
  clear hK K
  replace hHeld := hNew
  clear hNew
  ((try simp only [Act.put]); (try simp only [List.setIfInBounds_toArray]); (try simp only [List.set_cons_succ]); (try simp only [List.set_cons_zero]))
  refine wpAnyH_take (i := 33) (oi := { dst := some 92, op := Op.pick (Operand.tmp 86) (Operand.tmp 91) (Operand.const (Value.bool false)), type := 4, pos := "law.go:136", after := #[{ on := 27, ground := Ground.data }, { on := 32, ground := Ground.data }], guard := none }) (v := ?_) rfl (by kernel_rfl) (by kernel_rfl) (by kernel_rfl) (fun _ _ _ h => h) (Or.inl ⟨by rfl, ?_⟩) (by assumption) ?_
  rotate_left
  · (intro w hSw; (try dsimp only at hSw); go_simp; try with_reducible rfl)
  ((try simp only [Act.put]); (try simp only [List.setIfInBounds_toArray]); (try simp only [List.set_cons_succ]); (try simp only [List.set_cons_zero]))
  refine wpAnyH_take (i := 34) (oi := { dst := some 6, op := Op.assign (Operand.tmp 92), type := 4, pos := "law.go:136", after := #[{ on := 33, ground := Ground.data }, { on := 32, ground := Ground.chain }, { on := 0, ground := Ground.phase }, { on := 1, ground := Ground.phase }, { on := 2, ground := Ground.phase }, { on := 3, ground := Ground.phase }, { on := 4, ground := Ground.phase }, { on := 5, ground := Ground.phase }, { on := 6, ground := Ground.phase }, { on := 7, ground := Ground.phase }, { on := 8, ground := Ground.phase }, { on := 9, ground := Ground.phase }, { on := 10, ground := Ground.phase }, { on := 11, ground := Ground.phase }, { on := 12, ground := Ground.phase }, { on := 13, ground := Ground.phase }, { on := 14, ground := Ground.phase }, { on := 15, ground := Ground.phase }, { on := 16, ground := Ground.phase }, { on := 17, ground := Ground.phase }, { on := 18, ground := Ground.phase }, { on := 19, ground := Ground.phase }, { on := 20, ground := Ground.phase }, { on := 21, ground := Ground.phase }, { on := 22, ground := Ground.phase }, { on := 23, ground := Ground.phase }, { on := 24, ground := Ground.phase }, { on := 25, ground := Ground.phase }, { on := 26, ground := Ground.phase }, { on := 27, ground := Ground.phase }, { on := 28, ground := Ground.phase }, { on := 29, ground := Ground.phase }, { on := 30, ground := Ground.phase }, { on := 31, ground := Ground.phase }, { on := 32, ground := Ground.phase }, { on := 33, ground := Ground.phase }], guard := none }) (v := ?_) rfl (by kernel_rfl) (by kernel_rfl) (by kernel_rfl) (fun _ _ _ h => h) (Or.inl ⟨by rfl, ?_⟩) (by assumption) ?_
  rotate_left
  · (intro w hSw; (try dsimp only at hSw); go_simp; try with_reducible rfl)
  ((try simp only [Act.put]); (try simp only [List.setIfInBounds_toArray]); (try simp only [List.set_cons_succ]); (try simp only [List.set_cons_zero]))
  refine wpAnyH_done (by kernel_rfl) ?_ _
  refine NoPanic.normal ?_
  have BF := Lib.hid (B.out.trans ((Hid.out hHeld.2.2.2.2.2.2.2.2.2.2).mono B.out.size))
  go_wp2_with fail
  go_ret
  exact ⟨rfl, BF.out⟩

end Go.Proofs.Ytfiamomadicbpaa
