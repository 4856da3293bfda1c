/-
  Any config may be or not, as the document says: the walk of the statement PlaceSays.
-/
import Derived.Test.YtnipoknmhcgplaaDoorQown
import Derived.Deep.RegionHeld3
namespace Go.Proofs.YtnipoknmhcgplaaDoor
open Go.RowKit
attribute [local go_sem ↓] Go.wp_at_zero Go.wp_at_succ

theorem Bun.each {W w w' : World} {N B : Nat} {c : Cfg} {ao : Option Addr} {cap : Nat} (h : Hid (Bun W N B c ao cap w)) (hb : Below w.heap.size w w') : Hid (Bun W N B c ao cap w') := Bun.of hb h

theorem both {W w' : World} {N B B2 : Nat} {c : Cfg} {ao a2 : Option Addr} {cap cp2 : Nat} (hx : Hid (Bun W N B c ao cap w')) (hy : Hid (Bun W N B2 c a2 cp2 w')) :
    w'.cell? ⟨B, 0, none⟩ = some (.int .i64 c.n) ∧ w'.cell? ⟨B, 1, none⟩ = some (.slice ao c.vs.length cap) ∧ w'.cell? ⟨B, 2, none⟩ = some (.int .i64 c.win) ∧ w'.cell? ⟨B, 3, none⟩ = some (.int .i64 c.que) ∧ w'.cell? ⟨B, 4, none⟩ = some (.int .i64 c.fst) ∧ w'.cell? ⟨B, 5, none⟩ = some (.int .i64 c.mst) ∧ w'.cell? ⟨B, 6, none⟩ = some (.int .i64 c.bod) ∧ w'.cell? ⟨B, 7, none⟩ = some (.int .i64 c.eng) ∧ w'.cell? ⟨B2, 0, none⟩ = some (.int .i64 c.n) ∧ w'.cell? ⟨B2, 1, none⟩ = some (.slice a2 c.vs.length cp2) ∧ w'.cell? ⟨B2, 2, none⟩ = some (.int .i64 c.win) ∧ w'.cell? ⟨B2, 3, none⟩ = some (.int .i64 c.que) ∧ w'.cell? ⟨B2, 4, none⟩ = some (.int .i64 c.fst) ∧ w'.cell? ⟨B2, 5, none⟩ = some (.int .i64 c.mst) ∧ w'.cell? ⟨B2, 6, none⟩ = some (.int .i64 c.bod) ∧ w'.cell? ⟨B2, 7, none⟩ = some (.int .i64 c.eng) ∧ Hid (Bun W N B c ao cap w') ∧ Hid (Bun W N B2 c a2 cp2 w') :=
  ⟨hx.out.bx.c0, hx.out.bx.c1, hx.out.bx.c2, hx.out.bx.c3, hx.out.bx.c4, hx.out.bx.c5, hx.out.bx.c6, hx.out.bx.c7, hy.out.bx.c0, hy.out.bx.c1, hy.out.bx.c2, hy.out.bx.c3, hy.out.bx.c4, hy.out.bx.c5, hy.out.bx.c6, hy.out.bx.c7, hx, hy⟩

theorem below_alloc2 {B : Nat} {W w : World} (h : Below B W w) (hB : B ≤ w.heap.size) (o : Obj) : Below B W (w.alloc o) := h.alloc hB o

set_option maxRecDepth 20000 in
set_option maxHeartbeats 16000000 in
theorem law_PlaceSays (c : Cfg) (ao : Option Addr) (cap : Nat) (p v : Int) (to : Nat) (W : World) (ht : TabAt 0 Lib.deBruijn64tab W) (hs : SlV W ao cap (c.vs.map uV)) (hk : CfgOk c) (hp : IntOk p) (hv : IntOk v) (hto : to < 18446744073709551616) :
    Calls Tryd.prog 4 #[.agg (cfgA c ao cap), .int .i64 p, .int .i64 v, .int .u64 (to : Nat)] W (OkPost W) := by
  have hmax := hs.max
  have hfit := hs.fit
  unfold maxLen at hmax
  rw [List.length_map] at hfit
  have B1 := below_alloc (Below.refl _ W) (.cells (cfgA c ao cap) 26)
  have X1 : Hid (Bun W W.heap.size W.heap.size c ao cap (W.alloc (.cells (cfgA c ao cap) 26))) := Lib.hid ⟨B1, B1.size, boxed_new W c ao cap _, hs.below B1⟩
  have T := Lib.hid (fun (w : World) (h : Below W.heap.size W w) => tab_below ht h)
  have V := Lib.hid hv
  have P := Lib.hid hp
  have TO := Lib.hid hto
  have O := Lib.hid hk
  have LT := Lib.hid (keepC_lt (v := v) hk)
  clear hs hk hv ht B1 hp hto
  go_enter Tryd.func4, Tryd.ntmps4
  go_wp2_with fail
  generalize W.alloc (.cells (cfgA c ao cap) 26) = w0 at X1 ⊢
  refine (awake_any _).mono ?_
  rintro e w1 ⟨rfl, hb⟩
  have X2 := Bun.of hb X1
  obtain ⟨k0, k1, k2, k3, k4, k5, k6, k7⟩ := X2.out.bx
  clear hb X1
  by_cases hl : 30 < c.vs.length
  · go_wp2_with fail
    go_ret
    exact ⟨rfl, X2.out.be⟩
  have hl' := Lib.hid (show c.vs.length ≤ 30 by omega)
  go_wp2_with fail
  refine (own_any c ao cap _ X2.out.sl hl'.out).mono ?_
  rintro e w2 ⟨a2, cp2, rfl, hs2, hb⟩
  have X3 := Bun.of hb X2
  have S3 := Lib.hid hs2
  have hm2 := hs2.max
  have hf2 := hs2.fit
  unfold maxLen at hm2
  rw [List.length_map] at hf2
  have Y3 : Hid (Bun W W.heap.size w2.heap.size c a2 cp2 (w2.alloc (.cells (cfgA c a2 cp2) 37))) := Lib.hid ⟨below_alloc2 X3.out.be X3.out.le _, by have := X3.out.le; simp; omega, boxed_new w2 c a2 cp2 _, hs2.below (below_alloc (Below.refl _ _) _)⟩
  clear hb X2 k0 k1 k2 k3 k4 k5 k6 k7 hs2
  have X4 : Hid (Bun W W.heap.size W.heap.size c ao cap (w2.alloc (.cells #[.int .i64 c.n, .slice a2 c.vs.length cp2, .int .i64 c.win, .int .i64 c.que, .int .i64 c.fst, .int .i64 c.mst, .int .i64 c.bod, .int .i64 c.eng] 37))) := Bun.alloc X3
  obtain ⟨k0, k1, k2, k3, k4, k5, k6, k7⟩ := X4.out.bx
  go_wp2_with fail
  generalize (w2.alloc (.cells #[.int .i64 c.n, .slice a2 c.vs.length cp2, .int .i64 c.win, .int .i64 c.que, .int .i64 c.fst, .int .i64 c.mst, .int .i64 c.bod, .int .i64 c.eng] 37)) = w3 at X4 Y3 k0 k1 k2 k3 k4 k5 k6 k7 ⊢
  generalize w2.heap.size = B2 at Y3 ⊢
  clear S3 X3
  obtain ⟨K, hK⟩ : ∃ K : Int, (firstN (keepC c v) : Int) = K := ⟨_, rfl⟩
  obtain ⟨r, hr⟩ : ∃ r, (!decide (keepC c v = 0)) = r := ⟨_, rfl⟩
  have RK := Lib.hid hK
  have RR := Lib.hid hr
  clear hK hr
  refine (keeper_is (T.out _ X4.out.be) X4.out.sl O.out V.out RK.out RR.out).mono ?_
  rintro e w4 ⟨rfl, hb⟩
  have X5 := Bun.of hb X4
  have Y5 := Bun.of hb Y3
  clear hb X4 Y3 k0 k1 k2 k3 k4 k5 k6 k7
  obtain ⟨k0, k1, k2, k3, k4, k5, k6, k7⟩ := Y5.out.bx
  go_wp2_with fail
  refine (rkeeper_is Y5.out.sl O.out V.out RK.out RR.out).mono ?_
  rintro e w5 ⟨rfl, hb⟩
  have X6 := Bun.of hb X5
  have Y6 := Bun.of hb Y5
  clear hb X5 Y5 k0 k1 k2 k3 k4 k5 k6 k7
  obtain ⟨g, hg⟩ : ∃ g, goodC c = g := ⟨_, rfl⟩
  obtain ⟨h, hh⟩ : ∃ h, hasN (keepC c v) p = h := ⟨_, rfl⟩
  obtain ⟨m, hm⟩ : ∃ m, mayC c p to = m := ⟨_, rfl⟩
  have RG := Lib.hid hg
  have RH := Lib.hid hh
  have RM := Lib.hid hm
  clear hg hh hm
  go_wp2_with fail
  refine wp_region_noPanic ?_
  refine wp_region_held_drew (S := (fun w' => w'.cell? ⟨W.heap.size, 0, none⟩ = some (.int .i64 c.n) ∧ w'.cell? ⟨W.heap.size, 1, none⟩ = some (.slice ao c.vs.length cap) ∧ w'.cell? ⟨W.heap.size, 2, none⟩ = some (.int .i64 c.win) ∧ w'.cell? ⟨W.heap.size, 3, none⟩ = some (.int .i64 c.que) ∧ w'.cell? ⟨W.heap.size, 4, none⟩ = some (.int .i64 c.fst) ∧ w'.cell? ⟨W.heap.size, 5, none⟩ = some (.int .i64 c.mst) ∧ w'.cell? ⟨W.heap.size, 6, none⟩ = some (.int .i64 c.bod) ∧ w'.cell? ⟨W.heap.size, 7, none⟩ = some (.int .i64 c.eng) ∧ w'.cell? ⟨B2, 0, none⟩ = some (.int .i64 c.n) ∧ w'.cell? ⟨B2, 1, none⟩ = some (.slice a2 c.vs.length cp2) ∧ w'.cell? ⟨B2, 2, none⟩ = some (.int .i64 c.win) ∧ w'.cell? ⟨B2, 3, none⟩ = some (.int .i64 c.que) ∧ w'.cell? ⟨B2, 4, none⟩ = some (.int .i64 c.fst) ∧ w'.cell? ⟨B2, 5, none⟩ = some (.int .i64 c.mst) ∧ w'.cell? ⟨B2, 6, none⟩ = some (.int .i64 c.bod) ∧ w'.cell? ⟨B2, 7, none⟩ = some (.int .i64 c.eng) ∧ Hid (Bun W W.heap.size W.heap.size c ao cap w') ∧ Hid (Bun W W.heap.size B2 c a2 cp2 w'))) (by kernel_rfl) ?_ (fun hHeld => ?_)
  · exact both (Bun.drew X6) (Bun.drew Y6)
  refine wpAnyH_take (i := 0) (oi := { dst := some 34, op := Op.load 26 (Operand.tmp 4), type := 26, pos := "law.go:69", after := #[], guard := none }) (v := ?_) rfl (by kernel_rfl) (by kernel_rfl) (by kernel_rfl) (fun _ _ _ h => h) (Or.inl ⟨by rfl, ?_⟩) (by assumption) ?_
  rotate_left
  · (intro w hSw; (try dsimp only at hSw); go_simp; try with_reducible rfl)
  ((try simp only [Act.put]); (try simp only [List.setIfInBounds_toArray]); (try simp only [List.set_cons_succ]); (try simp only [List.set_cons_zero]))
  refine wpAnyH_take (i := 2) (oi := { dst := some 36, op := Op.load 37 (Operand.tmp 9), type := 37, pos := "law.go:69", after := #[], guard := none }) (v := ?_) rfl (by kernel_rfl) (by kernel_rfl) (by kernel_rfl) (fun _ _ _ h => h) (Or.inl ⟨by rfl, ?_⟩) (by assumption) ?_
  rotate_left
  · (intro w hSw; (try dsimp only at hSw); go_simp; try with_reducible rfl)
  ((try simp only [Act.put]); (try simp only [List.setIfInBounds_toArray]); (try simp only [List.set_cons_succ]); (try simp only [List.set_cons_zero]))
  refine wpAnyH_ready (rs := [1]) (by kernel_rfl) (by simp) ?_
  refine AllReadyH.cons (o := { dst := some 35, op := Op.call { callee := Callee.value (Operand.func 8), args := #[Operand.tmp 34], argTypes := #[26] }, type := 4, pos := "law.go:69", after := #[{ on := 0, ground := Ground.data }], guard := none }) rfl (fun K hK => ?_) AllReadyH.nil
  go_simp
  refine (good_is hHeld.2.2.2.2.2.2.2.2.2.2.2.2.2.2.2.2.1.out.sl O.out RG.out).mono ?_
  rintro e w' ⟨rfl, hb⟩
  try go_wp2_with fail
  refine hK.out _ _ ?_ (fun hNew => ?_)
  · exact both (Bun.of hb hHeld.2.2.2.2.2.2.2.2.2.2.2.2.2.2.2.2.1) (Bun.of hb hHeld.2.2.2.2.2.2.2.2.2.2.2.2.2.2.2.2.2)
  clear hK K
  replace hHeld := hNew
  clear hNew
  ((try simp only [Act.put]); (try simp only [List.setIfInBounds_toArray]); (try simp only [List.set_cons_succ]); (try simp only [List.set_cons_zero]))
  refine wpAnyH_ready (rs := [3]) (by kernel_rfl) (by simp) ?_
  refine AllReadyH.cons (o := { dst := some 37, op := Op.call { callee := Callee.value (Operand.func 14), args := #[Operand.tmp 36], argTypes := #[37] }, type := 4, pos := "law.go:69", after := #[{ on := 2, ground := Ground.data }, { on := 1, ground := Ground.chain }], guard := none }) rfl (fun K hK => ?_) AllReadyH.nil
  go_simp
  refine (rgood_is hHeld.2.2.2.2.2.2.2.2.2.2.2.2.2.2.2.2.2.out.sl O.out RG.out).mono ?_
  rintro e w' ⟨rfl, hb⟩
  try go_wp2_with fail
  refine hK.out _ _ ?_ (fun hNew => ?_)
  · exact both (Bun.of hb hHeld.2.2.2.2.2.2.2.2.2.2.2.2.2.2.2.2.1) (Bun.of hb hHeld.2.2.2.2.2.2.2.2.2.2.2.2.2.2.2.2.2)
  clear hK K
  replace hHeld := hNew
  clear hNew
  ((try simp only [Act.put]); (try simp only [List.setIfInBounds_toArray]); (try simp only [List.set_cons_succ]); (try simp only [List.set_cons_zero]))
  refine wpAnyH_take (i := 4) (oi := { dst := some 38, op := Op.binOp BinOp.eql 4 (Operand.tmp 35) (Operand.tmp 37) 4, type := 4, pos := "law.go:69", after := #[{ on := 1, ground := Ground.data }, { on := 3, ground := Ground.data }], guard := none }) (v := ?_) rfl (by kernel_rfl) (by kernel_rfl) (by kernel_rfl) (fun _ _ _ h => h) (Or.inl ⟨by rfl, ?_⟩) (by assumption) ?_
  rotate_left
  · (intro w hSw; (try dsimp only at hSw); go_simp; try with_reducible rfl)
  ((try simp only [Act.put]); (try simp only [List.setIfInBounds_toArray]); (try simp only [List.set_cons_succ]); (try simp only [List.set_cons_zero]))
  refine wpAnyH_take (i := 5) (oi := { dst := some 39, op := Op.move (Operand.tmp 38), type := 4, pos := "law.go:69", after := #[{ on := 4, ground := Ground.data }, { on := 3, ground := Ground.chain }], guard := none }) (v := ?_) rfl (by kernel_rfl) (by kernel_rfl) (by kernel_rfl) (fun _ _ _ h => h) (Or.inl ⟨by rfl, ?_⟩) (by assumption) ?_
  rotate_left
  · (intro w hSw; (try dsimp only at hSw); go_simp; try with_reducible rfl)
  ((try simp only [Act.put]); (try simp only [List.setIfInBounds_toArray]); (try simp only [List.set_cons_succ]); (try simp only [List.set_cons_zero]))
  refine wpAnyH_take (i := 6) (oi := { dst := some 40, op := Op.load 26 (Operand.tmp 4), type := 26, pos := "law.go:69", after := #[{ on := 5, ground := Ground.guard }], guard := some (5, true) }) (v := ?_) rfl (by kernel_rfl) (by kernel_rfl) (by kernel_rfl) (fun _ _ _ h => h) (Or.inl ⟨by rfl, ?_⟩) (by assumption) ?_
  rotate_left
  · (intro w hSw; (try dsimp only at hSw); go_simp; try with_reducible rfl)
  ((try simp only [Act.put]); (try simp only [List.setIfInBounds_toArray]); (try simp only [List.set_cons_succ]); (try simp only [List.set_cons_zero]))
  refine wpAnyH_take (i := 7) (oi := { dst := some 41, op := Op.move (Operand.tmp 1), type := 3, pos := "law.go:69", after := #[{ on := 5, ground := Ground.guard }], guard := some (5, true) }) (v := ?_) rfl (by kernel_rfl) (by kernel_rfl) (by kernel_rfl) (fun _ _ _ h => h) (Or.inl ⟨by rfl, ?_⟩) (by assumption) ?_
  rotate_left
  · (intro w hSw; (try dsimp only at hSw); go_simp; try with_reducible rfl)
  ((try simp only [Act.put]); (try simp only [List.setIfInBounds_toArray]); (try simp only [List.set_cons_succ]); (try simp only [List.set_cons_zero]))
  refine wpAnyH_take (i := 8) (oi := { dst := some 42, op := Op.move (Operand.tmp 2), type := 3, pos := "law.go:69", after := #[{ on := 5, ground := Ground.guard }], guard := some (5, true) }) (v := ?_) rfl (by kernel_rfl) (by kernel_rfl) (by kernel_rfl) (fun _ _ _ h => h) (Or.inl ⟨by rfl, ?_⟩) (by assumption) ?_
  rotate_left
  · (intro w hSw; (try dsimp only at hSw); go_simp; try with_reducible rfl)
  ((try simp only [Act.put]); (try simp only [List.setIfInBounds_toArray]); (try simp only [List.set_cons_succ]); (try simp only [List.set_cons_zero]))
  refine wpAnyH_take (i := 10) (oi := { dst := some 44, op := Op.load 37 (Operand.tmp 9), type := 37, pos := "law.go:69", after := #[{ on := 5, ground := Ground.guard }], guard := some (5, true) }) (v := ?_) rfl (by kernel_rfl) (by kernel_rfl) (by kernel_rfl) (fun _ _ _ h => h) (Or.inl ⟨by rfl, ?_⟩) (by assumption) ?_
  rotate_left
  · (intro w hSw; (try dsimp only at hSw); go_simp; try with_reducible rfl)
  ((try simp only [Act.put]); (try simp only [List.setIfInBounds_toArray]); (try simp only [List.set_cons_succ]); (try simp only [List.set_cons_zero]))
  refine wpAnyH_take (i := 11) (oi := { dst := some 45, op := Op.move (Operand.tmp 1), type := 3, pos := "law.go:69", after := #[{ on := 5, ground := Ground.guard }], guard := some (5, true) }) (v := ?_) rfl (by kernel_rfl) (by kernel_rfl) (by kernel_rfl) (fun _ _ _ h => h) (Or.inl ⟨by rfl, ?_⟩) (by assumption) ?_
  rotate_left
  · (intro w hSw; (try dsimp only at hSw); go_simp; try with_reducible rfl)
  ((try simp only [Act.put]); (try simp only [List.setIfInBounds_toArray]); (try simp only [List.set_cons_succ]); (try simp only [List.set_cons_zero]))
  refine wpAnyH_take (i := 12) (oi := { dst := some 46, op := Op.move (Operand.tmp 2), type := 3, pos := "law.go:69", after := #[{ on := 5, ground := Ground.guard }], guard := some (5, true) }) (v := ?_) rfl (by kernel_rfl) (by kernel_rfl) (by kernel_rfl) (fun _ _ _ h => h) (Or.inl ⟨by rfl, ?_⟩) (by assumption) ?_
  rotate_left
  · (intro w hSw; (try dsimp only at hSw); go_simp; try with_reducible rfl)
  ((try simp only [Act.put]); (try simp only [List.setIfInBounds_toArray]); (try simp only [List.set_cons_succ]); (try simp only [List.set_cons_zero]))
  refine wpAnyH_ready (rs := [9]) (by kernel_rfl) (by simp) ?_
  refine AllReadyH.cons (o := { dst := some 43, op := Op.call { callee := Callee.value (Operand.func 10), args := #[Operand.tmp 40, Operand.tmp 41, Operand.tmp 42], argTypes := #[26, 3, 3] }, type := 4, pos := "law.go:69", after := #[{ on := 6, ground := Ground.data }, { on := 7, ground := Ground.data }, { on := 8, ground := Ground.data }, { on := 5, ground := Ground.chain }, { on := 5, ground := Ground.guard }], guard := some (5, true) }) rfl (fun K hK => ?_) AllReadyH.nil
  go_simp
  refine (keeps_is hHeld.2.2.2.2.2.2.2.2.2.2.2.2.2.2.2.2.1.out.sl O.out P.out V.out RH.out).mono ?_
  rintro e w' ⟨rfl, hb⟩
  try go_wp2_with fail
  refine hK.out _ _ ?_ (fun hNew => ?_)
  · exact both (Bun.of hb hHeld.2.2.2.2.2.2.2.2.2.2.2.2.2.2.2.2.1) (Bun.of hb hHeld.2.2.2.2.2.2.2.2.2.2.2.2.2.2.2.2.2)
  clear hK K
  replace hHeld := hNew
  clear hNew
  ((try simp only [Act.put]); (try simp only [List.setIfInBounds_toArray]); (try simp only [List.set_cons_succ]); (try simp only [List.set_cons_zero]))
  refine wpAnyH_ready (rs := [13]) (by kernel_rfl) (by simp) ?_
  refine AllReadyH.cons (o := { dst := some 47, op := Op.call { callee := Callee.value (Operand.func 15), args := #[Operand.tmp 44, Operand.tmp 45, Operand.tmp 46], argTypes := #[37, 3, 3] }, type := 4, pos := "law.go:69", after := #[{ on := 10, ground := Ground.data }, { on := 11, ground := Ground.data }, { on := 12, ground := Ground.data }, { on := 9, ground := Ground.chain }, { on := 5, ground := Ground.guard }], guard := some (5, true) }) rfl (fun K hK => ?_) AllReadyH.nil
  go_simp
  refine (rkeeps_is hHeld.2.2.2.2.2.2.2.2.2.2.2.2.2.2.2.2.2.out.sl O.out P.out V.out RH.out).mono ?_
  rintro e w' ⟨rfl, hb⟩
  try go_wp2_with fail
  refine hK.out _ _ ?_ (fun hNew => ?_)
  · exact both (Bun.of hb hHeld.2.2.2.2.2.2.2.2.2.2.2.2.2.2.2.2.1) (Bun.of hb hHeld.2.2.2.2.2.2.2.2.2.2.2.2.2.2.2.2.2)
  clear hK K
  replace hHeld := hNew
  clear hNew
  ((try simp only [Act.put]); (try simp only [List.setIfInBounds_toArray]); (try simp only [List.set_cons_succ]); (try simp only [List.set_cons_zero]))
  refine wpAnyH_take (i := 14) (oi := { dst := some 48, op := Op.binOp BinOp.eql 4 (Operand.tmp 43) (Operand.tmp 47) 4, type := 4, pos := "law.go:69", after := #[{ on := 9, ground := Ground.data }, { on := 13, ground := Ground.data }, { on := 5, ground := Ground.guard }], guard := some (5, true) }) (v := ?_) rfl (by kernel_rfl) (by kernel_rfl) (by kernel_rfl) (fun _ _ _ h => h) (Or.inl ⟨by rfl, ?_⟩) (by assumption) ?_
  rotate_left
  · (intro w hSw; (try dsimp only at hSw); go_simp; try with_reducible rfl)
  ((try simp only [Act.put]); (try simp only [List.setIfInBounds_toArray]); (try simp only [List.set_cons_succ]); (try simp only [List.set_cons_zero]))
  refine wpAnyH_take (i := 15) (oi := { dst := some 49, op := Op.pick (Operand.tmp 39) (Operand.tmp 48) (Operand.const (Value.bool false)), type := 4, pos := "law.go:69", after := #[{ on := 5, ground := Ground.data }, { on := 14, ground := Ground.data }], guard := none }) (v := ?_) rfl (by kernel_rfl) (by kernel_rfl) (by kernel_rfl) (fun _ _ _ h => h) (Or.inl ⟨by rfl, ?_⟩) (by assumption) ?_
  rotate_left
  · (intro w hSw; (try dsimp only at hSw); go_simp; try with_reducible rfl)
  ((try simp only [Act.put]); (try simp only [List.setIfInBounds_toArray]); (try simp only [List.set_cons_succ]); (try simp only [List.set_cons_zero]))
  refine wpAnyH_take (i := 16) (oi := { dst := some 50, op := Op.move (Operand.tmp 49), type := 4, pos := "law.go:69", after := #[{ on := 15, ground := Ground.data }, { on := 13, ground := Ground.chain }], guard := none }) (v := ?_) rfl (by kernel_rfl) (by kernel_rfl) (by kernel_rfl) (fun _ _ _ h => h) (Or.inl ⟨by rfl, ?_⟩) (by assumption) ?_
  rotate_left
  · (intro w hSw; (try dsimp only at hSw); go_simp; try with_reducible rfl)
  ((try simp only [Act.put]); (try simp only [List.setIfInBounds_toArray]); (try simp only [List.set_cons_succ]); (try simp only [List.set_cons_zero]))
  refine wpAnyH_take (i := 17) (oi := { dst := some 51, op := Op.move (Operand.tmp 10), type := 3, pos := "law.go:69", after := #[{ on := 16, ground := Ground.guard }], guard := some (16, true) }) (v := ?_) rfl (by kernel_rfl) (by kernel_rfl) (by kernel_rfl) (fun _ _ _ h => h) (Or.inl ⟨by rfl, ?_⟩) (by assumption) ?_
  rotate_left
  · (intro w hSw; (try dsimp only at hSw); go_simp; try with_reducible rfl)
  ((try simp only [Act.put]); (try simp only [List.setIfInBounds_toArray]); (try simp only [List.set_cons_succ]); (try simp only [List.set_cons_zero]))
  refine wpAnyH_take (i := 18) (oi := { dst := some 52, op := Op.move (Operand.tmp 12), type := 3, pos := "law.go:69", after := #[{ on := 16, ground := Ground.guard }], guard := some (16, true) }) (v := ?_) rfl (by kernel_rfl) (by kernel_rfl) (by kernel_rfl) (fun _ _ _ h => h) (Or.inl ⟨by rfl, ?_⟩) (by assumption) ?_
  rotate_left
  · (intro w hSw; (try dsimp only at hSw); go_simp; try with_reducible rfl)
  ((try simp only [Act.put]); (try simp only [List.setIfInBounds_toArray]); (try simp only [List.set_cons_succ]); (try simp only [List.set_cons_zero]))
  refine wpAnyH_take (i := 19) (oi := { dst := some 53, op := Op.binOp BinOp.eql 3 (Operand.tmp 51) (Operand.tmp 52) 3, type := 4, pos := "law.go:69", after := #[{ on := 17, ground := Ground.data }, { on := 18, ground := Ground.data }, { on := 16, ground := Ground.guard }], guard := some (16, true) }) (v := ?_) rfl (by kernel_rfl) (by kernel_rfl) (by kernel_rfl) (fun _ _ _ h => h) (Or.inl ⟨by rfl, ?_⟩) (by assumption) ?_
  rotate_left
  · (intro w hSw; (try dsimp only at hSw); go_simp; try with_reducible rfl)
  ((try simp only [Act.put]); (try simp only [List.setIfInBounds_toArray]); (try simp only [List.set_cons_succ]); (try simp only [List.set_cons_zero]))
  refine wpAnyH_take (i := 20) (oi := { dst := some 54, op := Op.pick (Operand.tmp 50) (Operand.tmp 53) (Operand.const (Value.bool false)), type := 4, pos := "law.go:69", after := #[{ on := 16, ground := Ground.data }, { on := 19, ground := Ground.data }], guard := none }) (v := ?_) rfl (by kernel_rfl) (by kernel_rfl) (by kernel_rfl) (fun _ _ _ h => h) (Or.inl ⟨by rfl, ?_⟩) (by assumption) ?_
  rotate_left
  · (intro w hSw; (try dsimp only at hSw); go_simp; try with_reducible rfl)
  ((try simp only [Act.put]); (try simp only [List.setIfInBounds_toArray]); (try simp only [List.set_cons_succ]); (try simp only [List.set_cons_zero]))
  refine wpAnyH_take (i := 21) (oi := { dst := some 55, op := Op.move (Operand.tmp 54), type := 4, pos := "law.go:69", after := #[{ on := 20, ground := Ground.data }, { on := 16, ground := Ground.chain }], guard := none }) (v := ?_) rfl (by kernel_rfl) (by kernel_rfl) (by kernel_rfl) (fun _ _ _ h => h) (Or.inl ⟨by rfl, ?_⟩) (by assumption) ?_
  rotate_left
  · (intro w hSw; (try dsimp only at hSw); go_simp; try with_reducible rfl)
  ((try simp only [Act.put]); (try simp only [List.setIfInBounds_toArray]); (try simp only [List.set_cons_succ]); (try simp only [List.set_cons_zero]))
  refine wpAnyH_take (i := 22) (oi := { dst := some 56, op := Op.move (Operand.tmp 11), type := 4, pos := "law.go:69", after := #[{ on := 21, ground := Ground.guard }], guard := some (21, true) }) (v := ?_) rfl (by kernel_rfl) (by kernel_rfl) (by kernel_rfl) (fun _ _ _ h => h) (Or.inl ⟨by rfl, ?_⟩) (by assumption) ?_
  rotate_left
  · (intro w hSw; (try dsimp only at hSw); go_simp; try with_reducible rfl)
  ((try simp only [Act.put]); (try simp only [List.setIfInBounds_toArray]); (try simp only [List.set_cons_succ]); (try simp only [List.set_cons_zero]))
  refine wpAnyH_take (i := 23) (oi := { dst := some 57, op := Op.move (Operand.tmp 13), type := 4, pos := "law.go:69", after := #[{ on := 21, ground := Ground.guard }], guard := some (21, true) }) (v := ?_) rfl (by kernel_rfl) (by kernel_rfl) (by kernel_rfl) (fun _ _ _ h => h) (Or.inl ⟨by rfl, ?_⟩) (by assumption) ?_
  rotate_left
  · (intro w hSw; (try dsimp only at hSw); go_simp; try with_reducible rfl)
  ((try simp only [Act.put]); (try simp only [List.setIfInBounds_toArray]); (try simp only [List.set_cons_succ]); (try simp only [List.set_cons_zero]))
  refine wpAnyH_take (i := 24) (oi := { dst := some 58, op := Op.binOp BinOp.eql 4 (Operand.tmp 56) (Operand.tmp 57) 4, type := 4, pos := "law.go:69", after := #[{ on := 22, ground := Ground.data }, { on := 23, ground := Ground.data }, { on := 21, ground := Ground.guard }], guard := some (21, true) }) (v := ?_) rfl (by kernel_rfl) (by kernel_rfl) (by kernel_rfl) (fun _ _ _ h => h) (Or.inl ⟨by rfl, ?_⟩) (by assumption) ?_
  rotate_left
  · (intro w hSw; (try dsimp only at hSw); go_simp; try with_reducible rfl)
  ((try simp only [Act.put]); (try simp only [List.setIfInBounds_toArray]); (try simp only [List.set_cons_succ]); (try simp only [List.set_cons_zero]))
  refine wpAnyH_take (i := 25) (oi := { dst := some 59, op := Op.pick (Operand.tmp 55) (Operand.tmp 58) (Operand.const (Value.bool false)), type := 4, pos := "law.go:69", after := #[{ on := 21, ground := Ground.data }, { on := 24, ground := Ground.data }], guard := none }) (v := ?_) rfl (by kernel_rfl) (by kernel_rfl) (by kernel_rfl) (fun _ _ _ h => h) (Or.inl ⟨by rfl, ?_⟩) (by assumption) ?_
  rotate_left
  · (intro w hSw; (try dsimp only at hSw); go_simp; try with_reducible rfl)
  ((try simp only [Act.put]); (try simp only [List.setIfInBounds_toArray]); (try simp only [List.set_cons_succ]); (try simp only [List.set_cons_zero]))
  refine wpAnyH_take (i := 26) (oi := { dst := some 60, op := Op.move (Operand.tmp 59), type := 4, pos := "law.go:69", after := #[{ on := 25, ground := Ground.data }, { on := 21, ground := Ground.chain }], guard := none }) (v := ?_) rfl (by kernel_rfl) (by kernel_rfl) (by kernel_rfl) (fun _ _ _ h => h) (Or.inl ⟨by rfl, ?_⟩) (by assumption) ?_
  rotate_left
  · (intro w hSw; (try dsimp only at hSw); go_simp; try with_reducible rfl)
  ((try simp only [Act.put]); (try simp only [List.setIfInBounds_toArray]); (try simp only [List.set_cons_succ]); (try simp only [List.set_cons_zero]))
  refine wpAnyH_take (i := 27) (oi := { dst := some 61, op := Op.load 26 (Operand.tmp 4), type := 26, pos := "law.go:69", after := #[{ on := 26, ground := Ground.guard }], guard := some (26, true) }) (v := ?_) rfl (by kernel_rfl) (by kernel_rfl) (by kernel_rfl) (fun _ _ _ h => h) (Or.inl ⟨by rfl, ?_⟩) (by assumption) ?_
  rotate_left
  · (intro w hSw; (try dsimp only at hSw); go_simp; try with_reducible rfl)
  ((try simp only [Act.put]); (try simp only [List.setIfInBounds_toArray]); (try simp only [List.set_cons_succ]); (try simp only [List.set_cons_zero]))
  refine wpAnyH_take (i := 28) (oi := { dst := some 62, op := Op.move (Operand.tmp 1), type := 3, pos := "law.go:69", after := #[{ on := 26, ground := Ground.guard }], guard := some (26, true) }) (v := ?_) rfl (by kernel_rfl) (by kernel_rfl) (by kernel_rfl) (fun _ _ _ h => h) (Or.inl ⟨by rfl, ?_⟩) (by assumption) ?_
  rotate_left
  · (intro w hSw; (try dsimp only at hSw); go_simp; try with_reducible rfl)
  ((try simp only [Act.put]); (try simp only [List.setIfInBounds_toArray]); (try simp only [List.set_cons_succ]); (try simp only [List.set_cons_zero]))
  refine wpAnyH_take (i := 29) (oi := { dst := some 63, op := Op.move (Operand.tmp 3), type := 28, pos := "law.go:69", after := #[{ on := 26, ground := Ground.guard }], guard := some (26, true) }) (v := ?_) rfl (by kernel_rfl) (by kernel_rfl) (by kernel_rfl) (fun _ _ _ h => h) (Or.inl ⟨by rfl, ?_⟩) (by assumption) ?_
  rotate_left
  · (intro w hSw; (try dsimp only at hSw); go_simp; try with_reducible rfl)
  ((try simp only [Act.put]); (try simp only [List.setIfInBounds_toArray]); (try simp only [List.set_cons_succ]); (try simp only [List.set_cons_zero]))
  refine wpAnyH_take (i := 31) (oi := { dst := some 65, op := Op.load 37 (Operand.tmp 9), type := 37, pos := "law.go:69", after := #[{ on := 26, ground := Ground.guard }], guard := some (26, true) }) (v := ?_) rfl (by kernel_rfl) (by kernel_rfl) (by kernel_rfl) (fun _ _ _ h => h) (Or.inl ⟨by rfl, ?_⟩) (by assumption) ?_
  rotate_left
  · (intro w hSw; (try dsimp only at hSw); go_simp; try with_reducible rfl)
  ((try simp only [Act.put]); (try simp only [List.setIfInBounds_toArray]); (try simp only [List.set_cons_succ]); (try simp only [List.set_cons_zero]))
  refine wpAnyH_take (i := 32) (oi := { dst := some 66, op := Op.move (Operand.tmp 1), type := 3, pos := "law.go:69", after := #[{ on := 26, ground := Ground.guard }], guard := some (26, true) }) (v := ?_) rfl (by kernel_rfl) (by kernel_rfl) (by kernel_rfl) (fun _ _ _ h => h) (Or.inl ⟨by rfl, ?_⟩) (by assumption) ?_
  rotate_left
  · (intro w hSw; (try dsimp only at hSw); go_simp; try with_reducible rfl)
  ((try simp only [Act.put]); (try simp only [List.setIfInBounds_toArray]); (try simp only [List.set_cons_succ]); (try simp only [List.set_cons_zero]))
  refine wpAnyH_take (i := 33) (oi := { dst := some 67, op := Op.move (Operand.tmp 3), type := 28, pos := "law.go:69", after := #[{ on := 26, ground := Ground.guard }], guard := some (26, true) }) (v := ?_) rfl (by kernel_rfl) (by kernel_rfl) (by kernel_rfl) (fun _ _ _ h => h) (Or.inl ⟨by rfl, ?_⟩) (by assumption) ?_
  rotate_left
  · (intro w hSw; (try dsimp only at hSw); go_simp; try with_reducible rfl)
  ((try simp only [Act.put]); (try simp only [List.setIfInBounds_toArray]); (try simp only [List.set_cons_succ]); (try simp only [List.set_cons_zero]))
  refine wpAnyH_ready (rs := [30]) (by kernel_rfl) (by simp) ?_
  refine AllReadyH.cons (o := { dst := some 64, op := Op.call { callee := Callee.value (Operand.func 11), args := #[Operand.tmp 61, Operand.tmp 62, Operand.tmp 63], argTypes := #[26, 3, 29] }, type := 4, pos := "law.go:69", after := #[{ on := 27, ground := Ground.data }, { on := 28, ground := Ground.data }, { on := 29, ground := Ground.data }, { on := 26, ground := Ground.chain }, { on := 26, ground := Ground.guard }], guard := some (26, true) }) rfl (fun K hK => ?_) AllReadyH.nil
  go_simp
  refine (may_is hHeld.2.2.2.2.2.2.2.2.2.2.2.2.2.2.2.2.1.out.sl O.out P.out TO.out RM.out).mono ?_
  rintro e w' ⟨rfl, hb⟩
  try go_wp2_with fail
  refine hK.out _ _ ?_ (fun hNew => ?_)
  · exact both (Bun.of hb hHeld.2.2.2.2.2.2.2.2.2.2.2.2.2.2.2.2.1) (Bun.of hb hHeld.2.2.2.2.2.2.2.2.2.2.2.2.2.2.2.2.2)
  clear hK K
  replace hHeld := hNew
  clear hNew
  ((try simp only [Act.put]); (try simp only [List.setIfInBounds_toArray]); (try simp only [List.set_cons_succ]); (try simp only [List.set_cons_zero]))
  refine wpAnyH_ready (rs := [34]) (by kernel_rfl) (by simp) ?_
  refine AllReadyH.cons (o := { dst := some 68, op := Op.call { callee := Callee.value (Operand.func 16), args := #[Operand.tmp 65, Operand.tmp 66, Operand.tmp 67], argTypes := #[37, 3, 28] }, type := 4, pos := "law.go:69", after := #[{ on := 31, ground := Ground.data }, { on := 32, ground := Ground.data }, { on := 33, ground := Ground.data }, { on := 30, ground := Ground.chain }, { on := 26, ground := Ground.guard }], guard := some (26, true) }) rfl (fun K hK => ?_) AllReadyH.nil
  go_simp
  refine (rmay_is hHeld.2.2.2.2.2.2.2.2.2.2.2.2.2.2.2.2.2.out.sl O.out P.out TO.out RM.out).mono ?_
  rintro e w' ⟨rfl, hb⟩
  try go_wp2_with fail
  refine hK.out _ _ ?_ (fun hNew => ?_)
  · exact both (Bun.of hb hHeld.2.2.2.2.2.2.2.2.2.2.2.2.2.2.2.2.1) (Bun.of hb hHeld.2.2.2.2.2.2.2.2.2.2.2.2.2.2.2.2.2)
  clear hK K
  replace hHeld := hNew
  clear hNew
  ((try simp only [Act.put]); (try simp only [List.setIfInBounds_toArray]); (try simp only [List.set_cons_succ]); (try simp only [List.set_cons_zero]))
  refine wpAnyH_take (i := 35) (oi := { dst := some 69, op := Op.binOp BinOp.eql 4 (Operand.tmp 64) (Operand.tmp 68) 4, type := 4, pos := "law.go:69", after := #[{ on := 30, ground := Ground.data }, { on := 34, ground := Ground.data }, { on := 26, ground := Ground.guard }], guard := some (26, true) }) (v := ?_) rfl (by kernel_rfl) (by kernel_rfl) (by kernel_rfl) (fun _ _ _ h => h) (Or.inl ⟨by rfl, ?_⟩) (by assumption) ?_
  rotate_left
  · (intro w hSw; (try dsimp only at hSw); go_simp; try with_reducible rfl)
  ((try simp only [Act.put]); (try simp only [List.setIfInBounds_toArray]); (try simp only [List.set_cons_succ]); (try simp only [List.set_cons_zero]))
  refine wpAnyH_take (i := 36) (oi := { dst := some 70, op := Op.pick (Operand.tmp 60) (Operand.tmp 69) (Operand.const (Value.bool false)), type := 4, pos := "law.go:69", after := #[{ on := 26, ground := Ground.data }, { on := 35, ground := Ground.data }], guard := none }) (v := ?_) rfl (by kernel_rfl) (by kernel_rfl) (by kernel_rfl) (fun _ _ _ h => h) (Or.inl ⟨by rfl, ?_⟩) (by assumption) ?_
  rotate_left
  · (intro w hSw; (try dsimp only at hSw); go_simp; try with_reducible rfl)
  ((try simp only [Act.put]); (try simp only [List.setIfInBounds_toArray]); (try simp only [List.set_cons_succ]); (try simp only [List.set_cons_zero]))
  refine wpAnyH_take (i := 37) (oi := { dst := some 8, op := Op.assign (Operand.tmp 70), type := 4, pos := "law.go:69", after := #[{ on := 36, ground := Ground.data }, { on := 34, ground := Ground.chain }, { on := 0, ground := Ground.phase }, { on := 1, ground := Ground.phase }, { on := 2, ground := Ground.phase }, { on := 3, ground := Ground.phase }, { on := 4, ground := Ground.phase }, { on := 5, ground := Ground.phase }, { on := 6, ground := Ground.phase }, { on := 7, ground := Ground.phase }, { on := 8, ground := Ground.phase }, { on := 9, ground := Ground.phase }, { on := 10, ground := Ground.phase }, { on := 11, ground := Ground.phase }, { on := 12, ground := Ground.phase }, { on := 13, ground := Ground.phase }, { on := 14, ground := Ground.phase }, { on := 15, ground := Ground.phase }, { on := 16, ground := Ground.phase }, { on := 17, ground := Ground.phase }, { on := 18, ground := Ground.phase }, { on := 19, ground := Ground.phase }, { on := 20, ground := Ground.phase }, { on := 21, ground := Ground.phase }, { on := 22, ground := Ground.phase }, { on := 23, ground := Ground.phase }, { on := 24, ground := Ground.phase }, { on := 25, ground := Ground.phase }, { on := 26, ground := Ground.phase }, { on := 27, ground := Ground.phase }, { on := 28, ground := Ground.phase }, { on := 29, ground := Ground.phase }, { on := 30, ground := Ground.phase }, { on := 31, ground := Ground.phase }, { on := 32, ground := Ground.phase }, { on := 33, ground := Ground.phase }, { on := 34, ground := Ground.phase }, { on := 35, ground := Ground.phase }, { on := 36, ground := Ground.phase }], guard := none }) (v := ?_) rfl (by kernel_rfl) (by kernel_rfl) (by kernel_rfl) (fun _ _ _ h => h) (Or.inl ⟨by rfl, ?_⟩) (by assumption) ?_
  rotate_left
  · (intro w hSw; (try dsimp only at hSw); go_simp; try with_reducible rfl)
  ((try simp only [Act.put]); (try simp only [List.setIfInBounds_toArray]); (try simp only [List.set_cons_succ]); (try simp only [List.set_cons_zero]))
  refine wpAnyH_done (by kernel_rfl) ?_ _
  refine NoPanic.normal ?_
  go_wp2_with fail
  go_ret
  exact ⟨by simp, hHeld.2.2.2.2.2.2.2.2.2.2.2.2.2.2.2.2.1.out.be⟩

end Go.Proofs.YtnipoknmhcgplaaDoor
