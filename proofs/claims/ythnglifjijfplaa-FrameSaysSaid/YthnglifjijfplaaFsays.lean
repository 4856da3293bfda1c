/-
  Any frame's bytes, any bytes' frame, as the document says; what is written is read again: the walk of the statement FrameSays.
-/
import Derived.Test.YthnglifjijfplaaFaw
import Derived.Test.YthnglifjijfplaaFrget
import Derived.Deep.RegionHeld3
namespace Go.Proofs.Ythnglifjijfplaa
open Go.RowKit

theorem three3 {W w' : World} {N A D F : Nat} {f x : Frm} {a b3 b4 a5 : Option Addr} {c c3 c4 c5 : Nat} {q : List Nat} (hx : Hid (Fun W N A f a c w')) (hy : Hid (Fun W N D x b3 c3 w')) (hz : Hid (Fun W N F x b4 c4 w')) (hp : Hid (SlAt bV 256 w' a5 c5 q)) :
    w'.cell? ⟨A, 0, none⟩ = some (.bool f.ack) ∧ w'.cell? ⟨A, 1, none⟩ = some (.int .u64 (f.num : Nat)) ∧ w'.cell? ⟨A, 2, none⟩ = some (.slice a f.bod.length c) ∧ w'.cell? ⟨D, 0, none⟩ = some (.bool x.ack) ∧ w'.cell? ⟨D, 1, none⟩ = some (.int .u64 (x.num : Nat)) ∧ w'.cell? ⟨D, 2, none⟩ = some (.slice b3 x.bod.length c3) ∧ w'.cell? ⟨F, 0, none⟩ = some (.bool x.ack) ∧ w'.cell? ⟨F, 1, none⟩ = some (.int .u64 (x.num : Nat)) ∧ w'.cell? ⟨F, 2, none⟩ = some (.slice b4 x.bod.length c4) ∧ Hid (Fun W N A f a c w') ∧ Hid (Fun W N D x b3 c3 w') ∧ Hid (Fun W N F x b4 c4 w') ∧ Hid (SlAt bV 256 w' a5 c5 q) :=
  ⟨hx.out.bx.c0, hx.out.bx.c1, hx.out.bx.c2, hy.out.bx.c0, hy.out.bx.c1, hy.out.bx.c2, hz.out.bx.c0, hz.out.bx.c1, hz.out.bx.c2, hx, hy, hz, hp⟩

set_option maxRecDepth 20000 in
set_option maxHeartbeats 64000000 in
theorem law_FrameSays (f : Frm) (a : Option Addr) (c : Nat) (b : List Nat) (ao : Option Addr) (cap : Nat) (W : World) (hs : SlAt bV 256 W a c f.bod) (hn : f.num < 18446744073709551616) (hb : SlAt bV 256 W ao cap b) :
    Calls Try.prog 4 #[.agg (frmA f a c), .slice ao b.length cap] W (Ok W) := by
  have hf := hs.fit
  have hx := hs.max
  have hf2 := hb.fit
  have hx2 := hb.max
  unfold maxLen at hx hx2
  have X1 := Fun.new hs 27
  have S1 := Lib.hid (hb.below (below_alloc (Below.refl _ W) (.cells (frmA f a c) 27)))
  have O := Lib.hid hn
  clear hs hn hb
  go_enter Try.func4, Try.ntmps4
  go_wp2_with fail
  generalize W.alloc (.cells (frmA f a c) 27) = w0 at X1 S1 ⊢
  refine (awake_any _).mono ?_
  rintro e w1 ⟨rfl, hb⟩
  have X2 := Fun.of hb X1
  have S2 := Lib.hid (S1.out.below hb)
  clear hb X1 S1
  obtain ⟨j0, j1, j2⟩ := X2.out.bx
  by_cases l1 : 500 < f.bod.length
  · have d1 : decide ((500 : Int) < (f.bod.length : Int)) = true := decide_eq_true (by omega)
    have d1' : decide (500 < f.bod.length) = true := decide_eq_true l1
    go_wp2_with fail
    go_ret
    exact ⟨rfl, X2.out.be⟩
  have d1 : decide ((500 : Int) < (f.bod.length : Int)) = false := decide_eq_false (by omega)
  have d1' : decide (500 < f.bod.length) = false := decide_eq_false l1
  by_cases l2 : 500 < b.length
  · have d2 : decide ((500 : Int) < (b.length : Int)) = true := decide_eq_true (by omega)
    have d2' : decide (500 < b.length) = true := decide_eq_true l2
    go_wp2_with fail
    go_ret
    exact ⟨rfl, X2.out.be⟩
  have d2 : decide ((500 : Int) < (b.length : Int)) = false := decide_eq_false (by omega)
  have d2' : decide (500 < b.length) = false := decide_eq_false l2
  have BL := Lib.hid (show b.length ≤ 1000000 by omega)
  obtain ⟨q, hq⟩ : ∃ q, bytesF f = q := ⟨_, rfl⟩
  have E := Lib.hid hq
  clear hq l1 l2
  go_wp2_with fail
  refine (fput_is X2.out.sl O.out E.out).mono ?_
  rintro e w2 ⟨a5, c5, rfl, hsp, hb⟩
  have X3 := Fun.of hb X2
  have S3 := Lib.hid (S2.out.below hb)
  have SP3 := Lib.hid hsp
  clear hb X2 S2 hsp j0 j1 j2
  obtain ⟨x, hx⟩ : ∃ x, gotF b = x := ⟨_, rfl⟩
  obtain ⟨ok, hok⟩ : ∃ ok, okF b = ok := ⟨_, rfl⟩
  have GX := Lib.hid hx
  have KX := Lib.hid hok
  clear hx hok
  go_wp2_with fail
  refine (fget_of S3.out rfl BL.out GX.out KX.out).mono ?_
  rintro e w3 ⟨b3, c3, rfl, hs3, hb, _⟩
  have X4 := Fun.alloc (o := .cells (frmA x b3 c3) 27) (Fun.of hb X3)
  have Y4 := Fun.lay X3.out.be X3.out.le hb hs3 27
  have hb2 := below_alloc hb (.cells (frmA x b3 c3) 27)
  have S4 := Lib.hid (S3.out.below hb2)
  have SP4 := Lib.hid (SP3.out.below hb2)
  clear hb hb2 hs3 X3 S3 SP3
  cases ok
  case false =>
    go_wp2_with fail
    generalize w3.alloc (.cells (frmA x b3 c3) 27) = w4 at X4 Y4 S4 SP4 ⊢
    generalize w3.heap.size = D at Y4 ⊢
    refine (rfget_of S4.out rfl BL.out GX.out KX.out).mono ?_
    rintro e w5 ⟨b4, c4, rfl, hs4, hb, _⟩
    have X5 := Fun.alloc (o := .cells (frmA x b4 c4) 32) (Fun.of hb X4)
    have Y5 := Fun.alloc (o := .cells (frmA x b4 c4) 32) (Fun.of hb Y4)
    have Z5 := Fun.lay X4.out.be X4.out.le hb hs4 32
    have SP5 := Lib.hid (SP4.out.below (below_alloc hb (.cells (frmA x b4 c4) 32)))
    clear hb hs4 X4 Y4 S4 SP4
    go_wp2_with fail
    generalize w5.alloc (.cells (frmA x b4 c4) 32) = w6 at X5 Y5 Z5 SP5 ⊢
    generalize w5.heap.size = F at Z5 ⊢
    obtain ⟨A, hA⟩ : ∃ A, A = W.heap.size := ⟨_, rfl⟩
    have X6 : Hid (Fun W W.heap.size A f a c w6) := hA ▸ X5
    rw [← hA]
    clear hA X5
    refine wp_region_noPanic ?_
    refine wp_region_held_drew (S := (fun w' => w'.cell? ⟨A, 0, none⟩ = some (.bool f.ack) ∧ w'.cell? ⟨A, 1, none⟩ = some (.int .u64 (f.num : Nat)) ∧ w'.cell? ⟨A, 2, none⟩ = some (.slice a f.bod.length c) ∧ w'.cell? ⟨D, 0, none⟩ = some (.bool x.ack) ∧ w'.cell? ⟨D, 1, none⟩ = some (.int .u64 (x.num : Nat)) ∧ w'.cell? ⟨D, 2, none⟩ = some (.slice b3 x.bod.length c3) ∧ w'.cell? ⟨F, 0, none⟩ = some (.bool x.ack) ∧ w'.cell? ⟨F, 1, none⟩ = some (.int .u64 (x.num : Nat)) ∧ w'.cell? ⟨F, 2, none⟩ = some (.slice b4 x.bod.length c4) ∧ Hid (Fun W W.heap.size A f a c w') ∧ Hid (Fun W W.heap.size D x b3 c3 w') ∧ Hid (Fun W W.heap.size F x b4 c4 w') ∧ Hid (SlAt bV 256 w' a5 c5 q))) (by kernel_rfl) ?_ (fun hHeld => ?_)
    · exact three3 (Fun.drew X6) (Fun.drew Y5) (Fun.drew Z5) (Lib.hid (SP5.out.below (drew_below _)))
    refine wpAnyH_take (i := 0) (oi := { dst := some 35, op := Op.move (Operand.tmp 5), type := 23, pos := "law.go:44", after := #[], guard := none }) (v := ?_) rfl (by kernel_rfl) (by kernel_rfl) (by kernel_rfl) (fun _ _ _ h => h) (Or.inl ⟨by rfl, ?_⟩) (by assumption) ?_
    rotate_left
    · (intro w hSw; (try dsimp only at hSw); go_simp; try with_reducible rfl)
    ((try simp only [Act.put]); (try simp only [List.setIfInBounds_toArray]); (try simp only [List.set_cons_succ]); (try simp only [List.set_cons_zero]))
    refine wpAnyH_take (i := 2) (oi := { dst := some 37, op := Op.fieldAddr 27 (Operand.tmp 2) 0, type := 0, pos := "law.go:44", after := #[], guard := none }) (v := ?_) rfl (by kernel_rfl) (by kernel_rfl) (by kernel_rfl) (fun _ _ _ h => h) (Or.inl ⟨by rfl, ?_⟩) (by assumption) ?_
    rotate_left
    · (intro w hSw; (try dsimp only at hSw); go_simp; try with_reducible rfl)
    ((try simp only [Act.put]); (try simp only [List.setIfInBounds_toArray]); (try simp only [List.set_cons_succ]); (try simp only [List.set_cons_zero]))
    refine wpAnyH_take (i := 3) (oi := { dst := some 38, op := Op.load 4 (Operand.tmp 37), type := 4, pos := "law.go:44", after := #[{ on := 2, ground := Ground.data }], guard := none }) (v := ?_) rfl (by kernel_rfl) (by kernel_rfl) (by kernel_rfl) (fun _ _ _ h => h) (Or.inl ⟨by rfl, ?_⟩) (by assumption) ?_
    rotate_left
    · (intro w hSw; (try dsimp only at hSw); go_simp; try with_reducible rfl)
    ((try simp only [Act.put]); (try simp only [List.setIfInBounds_toArray]); (try simp only [List.set_cons_succ]); (try simp only [List.set_cons_zero]))
    refine wpAnyH_take (i := 4) (oi := { dst := some 39, op := Op.fieldAddr 27 (Operand.tmp 2) 1, type := 0, pos := "law.go:44", after := #[], guard := none }) (v := ?_) rfl (by kernel_rfl) (by kernel_rfl) (by kernel_rfl) (fun _ _ _ h => h) (Or.inl ⟨by rfl, ?_⟩) (by assumption) ?_
    rotate_left
    · (intro w hSw; (try dsimp only at hSw); go_simp; try with_reducible rfl)
    ((try simp only [Act.put]); (try simp only [List.setIfInBounds_toArray]); (try simp only [List.set_cons_succ]); (try simp only [List.set_cons_zero]))
    refine wpAnyH_take (i := 5) (oi := { dst := some 40, op := Op.load 25 (Operand.tmp 39), type := 25, pos := "law.go:44", after := #[{ on := 4, ground := Ground.data }], guard := none }) (v := ?_) rfl (by kernel_rfl) (by kernel_rfl) (by kernel_rfl) (fun _ _ _ h => h) (Or.inl ⟨by rfl, ?_⟩) (by assumption) ?_
    rotate_left
    · (intro w hSw; (try dsimp only at hSw); go_simp; try with_reducible rfl)
    ((try simp only [Act.put]); (try simp only [List.setIfInBounds_toArray]); (try simp only [List.set_cons_succ]); (try simp only [List.set_cons_zero]))
    refine wpAnyH_take (i := 6) (oi := { dst := some 41, op := Op.fieldAddr 27 (Operand.tmp 2) 2, type := 0, pos := "law.go:44", after := #[], guard := none }) (v := ?_) rfl (by kernel_rfl) (by kernel_rfl) (by kernel_rfl) (fun _ _ _ h => h) (Or.inl ⟨by rfl, ?_⟩) (by assumption) ?_
    rotate_left
    · (intro w hSw; (try dsimp only at hSw); go_simp; try with_reducible rfl)
    ((try simp only [Act.put]); (try simp only [List.setIfInBounds_toArray]); (try simp only [List.set_cons_succ]); (try simp only [List.set_cons_zero]))
    refine wpAnyH_take (i := 7) (oi := { dst := some 42, op := Op.load 23 (Operand.tmp 41), type := 23, pos := "law.go:44", after := #[{ on := 6, ground := Ground.data }], guard := none }) (v := ?_) rfl (by kernel_rfl) (by kernel_rfl) (by kernel_rfl) (fun _ _ _ h => h) (Or.inl ⟨by rfl, ?_⟩) (by assumption) ?_
    rotate_left
    · (intro w hSw; (try dsimp only at hSw); go_simp; try with_reducible rfl)
    ((try simp only [Act.put]); (try simp only [List.setIfInBounds_toArray]); (try simp only [List.set_cons_succ]); (try simp only [List.set_cons_zero]))
    refine wpAnyH_take (i := 8) (oi := { dst := some 43, op := Op.build 32 #[(0, Operand.tmp 38), (1, Operand.tmp 40), (2, Operand.tmp 42)], type := 32, pos := "law.go:44", after := #[{ on := 3, ground := Ground.data }, { on := 5, ground := Ground.data }, { on := 7, ground := Ground.data }], guard := none }) (v := ?_) rfl (by kernel_rfl) (by kernel_rfl) (by kernel_rfl) (fun _ _ _ h => h) (Or.inl ⟨by rfl, ?_⟩) (by assumption) ?_
    rotate_left
    · (intro w hSw; (try dsimp only at hSw); go_simp; try with_reducible rfl)
    ((try simp only [Act.put]); (try simp only [List.setIfInBounds_toArray]); (try simp only [List.set_cons_succ]); (try simp only [List.set_cons_zero]))
    refine wpAnyH_ready (rs := [1, 9]) (by kernel_rfl) (by simp) ?_
    refine AllReadyH.cons (o := { dst := some 36, op := Op.convert 23 9 (Operand.tmp 35), type := 9, pos := "law.go:44", after := #[{ on := 0, ground := Ground.data }], guard := none }) rfl (fun K hK => ?_) (AllReadyH.cons (o := { dst := some 44, op := Op.call { callee := Callee.value (Operand.func 11), args := #[Operand.tmp 43], argTypes := #[32] }, type := 23, pos := "law.go:44", after := #[{ on := 8, ground := Ground.data }], guard := none }) rfl (fun K hK => ?_) AllReadyH.nil)
    · skip
      have cv := conv_any hHeld.2.2.2.2.2.2.2.2.2.2.2.2.out rfl
      go_simp
      clear cv
      try go_wp2_with fail
      refine hK.out _ _ ?_ (fun hNew => ?_)
      · first | exact hHeld | exact three3 (Fun.of hb hHeld.2.2.2.2.2.2.2.2.2.1) (Fun.of hb hHeld.2.2.2.2.2.2.2.2.2.2.1) (Fun.of hb hHeld.2.2.2.2.2.2.2.2.2.2.2.1) (Lib.hid (hHeld.2.2.2.2.2.2.2.2.2.2.2.2.out.below hb))
      clear hK K
      replace hHeld := hNew
      clear hNew
      ((try simp only [Act.put]); (try simp only [List.setIfInBounds_toArray]); (try simp only [List.set_cons_succ]); (try simp only [List.set_cons_zero]))
      refine wpAnyH_ready (rs := [9]) (by kernel_rfl) (by simp) ?_
      refine AllReadyH.cons (o := { dst := some 44, op := Op.call { callee := Callee.value (Operand.func 11), args := #[Operand.tmp 43], argTypes := #[32] }, type := 23, pos := "law.go:44", after := #[{ on := 8, ground := Ground.data }], guard := none }) rfl (fun K hK => ?_) AllReadyH.nil
      go_simp
      refine (rfput_is (f := f) hHeld.2.2.2.2.2.2.2.2.2.1.out.sl O.out E.out).mono ?_
      rintro e w' ⟨a6, c6, rfl, hsq, hb⟩
      have cq := conv_any hsq rfl
      have CQ := Lib.hid cq
      clear hsq cq
      try go_wp2_with fail
      refine hK.out _ _ ?_ (fun hNew => ?_)
      · first | exact hHeld | exact three3 (Fun.of hb hHeld.2.2.2.2.2.2.2.2.2.1) (Fun.of hb hHeld.2.2.2.2.2.2.2.2.2.2.1) (Fun.of hb hHeld.2.2.2.2.2.2.2.2.2.2.2.1) (Lib.hid (hHeld.2.2.2.2.2.2.2.2.2.2.2.2.out.below hb))
      clear hK K
      replace hHeld := hNew
      clear hNew
      ((try simp only [Act.put]); (try simp only [List.setIfInBounds_toArray]); (try simp only [List.set_cons_succ]); (try simp only [List.set_cons_zero]))
      refine wpAnyH_ready (rs := [10]) (by kernel_rfl) (by simp) ?_
      refine AllReadyH.cons (o := { dst := some 45, op := Op.convert 23 9 (Operand.tmp 44), type := 9, pos := "law.go:44", after := #[{ on := 9, ground := Ground.data }], guard := none }) rfl (fun K hK => ?_) AllReadyH.nil
      have cv := CQ.out
      go_simp
      clear cv
      try go_wp2_with fail
      refine hK.out _ _ ?_ (fun hNew => ?_)
      · first | exact hHeld | exact three3 (Fun.of hb hHeld.2.2.2.2.2.2.2.2.2.1) (Fun.of hb hHeld.2.2.2.2.2.2.2.2.2.2.1) (Fun.of hb hHeld.2.2.2.2.2.2.2.2.2.2.2.1) (Lib.hid (hHeld.2.2.2.2.2.2.2.2.2.2.2.2.out.below hb))
      clear hK K
      replace hHeld := hNew
      clear hNew
      ((try simp only [Act.put]); (try simp only [List.setIfInBounds_toArray]); (try simp only [List.set_cons_succ]); (try simp only [List.set_cons_zero]))
      refine wpAnyH_take (i := 11) (oi := { dst := some 46, op := Op.binOp BinOp.neq 9 (Operand.tmp 36) (Operand.tmp 45) 9, type := 4, pos := "law.go:44", after := #[{ on := 1, ground := Ground.data }, { on := 10, ground := Ground.data }], guard := none }) (v := ?_) rfl (by kernel_rfl) (by kernel_rfl) (by kernel_rfl) (fun _ _ _ h => h) (Or.inl ⟨by rfl, ?_⟩) (by assumption) ?_
      rotate_left
      · (intro w hSw; (try dsimp only at hSw); go_simp; try with_reducible rfl)
      ((try simp only [Act.put]); (try simp only [List.setIfInBounds_toArray]); (try simp only [List.set_cons_succ]); (try simp only [List.set_cons_zero]))
      refine wpAnyH_take (i := 12) (oi := { dst := some 47, op := Op.move (Operand.tmp 46), type := 4, pos := "law.go:44", after := #[{ on := 11, ground := Ground.data }, { on := 9, ground := Ground.chain }], guard := none }) (v := ?_) rfl (by kernel_rfl) (by kernel_rfl) (by kernel_rfl) (fun _ _ _ h => h) (Or.inl ⟨by rfl, ?_⟩) (by assumption) ?_
      rotate_left
      · (intro w hSw; (try dsimp only at hSw); go_simp; try with_reducible rfl)
      ((try simp only [Act.put]); (try simp only [List.setIfInBounds_toArray]); (try simp only [List.set_cons_succ]); (try simp only [List.set_cons_zero]))
      refine wpAnyH_take (i := 13) (oi := { dst := some 48, op := Op.move (Operand.tmp 7), type := 28, pos := "law.go:44", after := #[{ on := 12, ground := Ground.guard }], guard := some (12, false) }) (v := ?_) rfl (by kernel_rfl) (by kernel_rfl) (by kernel_rfl) (fun _ _ _ h => h) (Or.inl ⟨by rfl, ?_⟩) (by assumption) ?_
      rotate_left
      · (intro w hSw; (try dsimp only at hSw); go_simp; try with_reducible rfl)
      ((try simp only [Act.put]); (try simp only [List.setIfInBounds_toArray]); (try simp only [List.set_cons_succ]); (try simp only [List.set_cons_zero]))
      refine wpAnyH_take (i := 14) (oi := { dst := some 49, op := Op.binOp BinOp.eql 28 (Operand.tmp 48) (Operand.const (Value.int IntKind.i64 0)) 28, type := 4, pos := "law.go:44", after := #[{ on := 13, ground := Ground.data }, { on := 12, ground := Ground.guard }], guard := some (12, false) }) (v := ?_) rfl (by kernel_rfl) (by kernel_rfl) (by kernel_rfl) (fun _ _ _ h => h) (Or.inl ⟨by rfl, ?_⟩) (by assumption) ?_
      rotate_left
      · (intro w hSw; (try dsimp only at hSw); go_simp; try with_reducible rfl)
      ((try simp only [Act.put]); (try simp only [List.setIfInBounds_toArray]); (try simp only [List.set_cons_succ]); (try simp only [List.set_cons_zero]))
      refine wpAnyH_take (i := 15) (oi := { dst := some 50, op := Op.move (Operand.tmp 9), type := 4, pos := "law.go:44", after := #[{ on := 12, ground := Ground.guard }], guard := some (12, false) }) (v := ?_) rfl (by kernel_rfl) (by kernel_rfl) (by kernel_rfl) (fun _ _ _ h => h) (Or.inl ⟨by rfl, ?_⟩) (by assumption) ?_
      rotate_left
      · (intro w hSw; (try dsimp only at hSw); go_simp; try with_reducible rfl)
      ((try simp only [Act.put]); (try simp only [List.setIfInBounds_toArray]); (try simp only [List.set_cons_succ]); (try simp only [List.set_cons_zero]))
      refine wpAnyH_take (i := 16) (oi := { dst := some 51, op := Op.binOp BinOp.neq 4 (Operand.tmp 49) (Operand.tmp 50) 4, type := 4, pos := "law.go:44", after := #[{ on := 14, ground := Ground.data }, { on := 15, ground := Ground.data }, { on := 12, ground := Ground.guard }], guard := some (12, false) }) (v := ?_) rfl (by kernel_rfl) (by kernel_rfl) (by kernel_rfl) (fun _ _ _ h => h) (Or.inl ⟨by rfl, ?_⟩) (by assumption) ?_
      rotate_left
      · (intro w hSw; (try dsimp only at hSw); go_simp; try with_reducible rfl)
      ((try simp only [Act.put]); (try simp only [List.setIfInBounds_toArray]); (try simp only [List.set_cons_succ]); (try simp only [List.set_cons_zero]))
      refine wpAnyH_take (i := 17) (oi := { dst := some 52, op := Op.pick (Operand.tmp 47) (Operand.const (Value.bool true)) (Operand.tmp 51), type := 4, pos := "law.go:44", after := #[{ on := 12, ground := Ground.data }, { on := 16, ground := Ground.data }], guard := none }) (v := ?_) rfl (by kernel_rfl) (by kernel_rfl) (by kernel_rfl) (fun _ _ _ h => h) (Or.inl ⟨by rfl, ?_⟩) (by assumption) ?_
      rotate_left
      · (intro w hSw; (try dsimp only at hSw); go_simp; try with_reducible rfl)
      ((try simp only [Act.put]); (try simp only [List.setIfInBounds_toArray]); (try simp only [List.set_cons_succ]); (try simp only [List.set_cons_zero]))
      refine wpAnyH_take (i := 18) (oi := { dst := some 53, op := Op.move (Operand.tmp 52), type := 4, pos := "law.go:44", after := #[{ on := 17, ground := Ground.data }, { on := 12, ground := Ground.chain }], guard := none }) (v := ?_) rfl (by kernel_rfl) (by kernel_rfl) (by kernel_rfl) (fun _ _ _ h => h) (Or.inl ⟨by rfl, ?_⟩) (by assumption) ?_
      rotate_left
      · (intro w hSw; (try dsimp only at hSw); go_simp; try with_reducible rfl)
      ((try simp only [Act.put]); (try simp only [List.setIfInBounds_toArray]); (try simp only [List.set_cons_succ]); (try simp only [List.set_cons_zero]))
      refine wpAnyH_take (i := 19) (oi := { dst := some 54, op := Op.move (Operand.tmp 9), type := 4, pos := "law.go:44", after := #[{ on := 18, ground := Ground.guard }], guard := some (18, false) }) (v := ?_) rfl (by kernel_rfl) (by kernel_rfl) (by kernel_rfl) (fun _ _ _ h => h) (Or.inl ⟨by rfl, ?_⟩) (by assumption) ?_
      rotate_left
      · (intro w hSw; (try dsimp only at hSw); go_simp; try with_reducible rfl)
      ((try simp only [Act.put]); (try simp only [List.setIfInBounds_toArray]); (try simp only [List.set_cons_succ]); (try simp only [List.set_cons_zero]))
      refine wpAnyH_take (i := 20) (oi := { dst := some 55, op := Op.unOp UnOp.not 4 (Operand.tmp 54), type := 4, pos := "law.go:44", after := #[{ on := 19, ground := Ground.data }, { on := 18, ground := Ground.guard }], guard := some (18, false) }) (v := ?_) rfl (by kernel_rfl) (by kernel_rfl) (by kernel_rfl) (fun _ _ _ h => h) (Or.inl ⟨by rfl, ?_⟩) (by assumption) ?_
      rotate_left
      · (intro w hSw; (try dsimp only at hSw); go_simp; try with_reducible rfl)
      ((try simp only [Act.put]); (try simp only [List.setIfInBounds_toArray]); (try simp only [List.set_cons_succ]); (try simp only [List.set_cons_zero]))
      refine wpAnyH_take (i := 21) (oi := { dst := some 56, op := Op.move (Operand.tmp 55), type := 4, pos := "law.go:44", after := #[{ on := 20, ground := Ground.data }, { on := 18, ground := Ground.chain }, { on := 18, ground := Ground.guard }], guard := some (18, false) }) (v := ?_) rfl (by kernel_rfl) (by kernel_rfl) (by kernel_rfl) (fun _ _ _ h => h) (Or.inl ⟨by rfl, ?_⟩) (by assumption) ?_
      rotate_left
      · (intro w hSw; (try dsimp only at hSw); go_simp; try with_reducible rfl)
      ((try simp only [Act.put]); (try simp only [List.setIfInBounds_toArray]); (try simp only [List.set_cons_succ]); (try simp only [List.set_cons_zero]))
      refine wpAnyH_take (i := 22) (oi := { dst := some 57, op := Op.move (Operand.tmp 7), type := 28, pos := "law.go:44", after := #[{ on := 21, ground := Ground.guard }], guard := some (21, true) }) (v := ?_) rfl (by kernel_rfl) (by kernel_rfl) (by kernel_rfl) (fun _ _ _ h => h) (Or.inl ⟨by rfl, ?_⟩) (by assumption) ?_
      rotate_left
      · (intro w hSw; (try dsimp only at hSw); go_simp; try with_reducible rfl)
      ((try simp only [Act.put]); (try simp only [List.setIfInBounds_toArray]); (try simp only [List.set_cons_succ]); (try simp only [List.set_cons_zero]))
      refine wpAnyH_take (i := 23) (oi := { dst := some 58, op := Op.binOp BinOp.neq 28 (Operand.tmp 57) (Operand.const (Value.int IntKind.i64 2)) 28, type := 4, pos := "law.go:44", after := #[{ on := 22, ground := Ground.data }, { on := 21, ground := Ground.guard }], guard := some (21, true) }) (v := ?_) rfl (by kernel_rfl) (by kernel_rfl) (by kernel_rfl) (fun _ _ _ h => h) (Or.inl ⟨by rfl, ?_⟩) (by assumption) ?_
      rotate_left
      · (intro w hSw; (try dsimp only at hSw); go_simp; try with_reducible rfl)
      ((try simp only [Act.put]); (try simp only [List.setIfInBounds_toArray]); (try simp only [List.set_cons_succ]); (try simp only [List.set_cons_zero]))
      refine wpAnyH_take (i := 24) (oi := { dst := some 59, op := Op.pick (Operand.tmp 56) (Operand.tmp 58) (Operand.const (Value.bool false)), type := 4, pos := "law.go:44", after := #[{ on := 21, ground := Ground.data }, { on := 23, ground := Ground.data }, { on := 18, ground := Ground.guard }], guard := some (18, false) }) (v := ?_) rfl (by kernel_rfl) (by kernel_rfl) (by kernel_rfl) (fun _ _ _ h => h) (Or.inl ⟨by rfl, ?_⟩) (by assumption) ?_
      rotate_left
      · (intro w hSw; (try dsimp only at hSw); go_simp; try with_reducible rfl)
      ((try simp only [Act.put]); (try simp only [List.setIfInBounds_toArray]); (try simp only [List.set_cons_succ]); (try simp only [List.set_cons_zero]))
      refine wpAnyH_take (i := 25) (oi := { dst := some 60, op := Op.pick (Operand.tmp 53) (Operand.const (Value.bool true)) (Operand.tmp 59), type := 4, pos := "law.go:44", after := #[{ on := 18, ground := Ground.data }, { on := 24, ground := Ground.data }], guard := none }) (v := ?_) rfl (by kernel_rfl) (by kernel_rfl) (by kernel_rfl) (fun _ _ _ h => h) (Or.inl ⟨by rfl, ?_⟩) (by assumption) ?_
      rotate_left
      · (intro w hSw; (try dsimp only at hSw); go_simp; try with_reducible rfl)
      ((try simp only [Act.put]); (try simp only [List.setIfInBounds_toArray]); (try simp only [List.set_cons_succ]); (try simp only [List.set_cons_zero]))
      refine wpAnyH_take (i := 26) (oi := { dst := some 61, op := Op.move (Operand.tmp 60), type := 4, pos := "law.go:44", after := #[{ on := 25, ground := Ground.data }, { on := 21, ground := Ground.chain }], guard := none }) (v := ?_) rfl (by kernel_rfl) (by kernel_rfl) (by kernel_rfl) (fun _ _ _ h => h) (Or.inl ⟨by rfl, ?_⟩) (by assumption) ?_
      rotate_left
      · (intro w hSw; (try dsimp only at hSw); go_simp; try with_reducible rfl)
      ((try simp only [Act.put]); (try simp only [List.setIfInBounds_toArray]); (try simp only [List.set_cons_succ]); (try simp only [List.set_cons_zero]))
      refine wpAnyH_take (i := 27) (oi := { dst := some 62, op := Op.fieldAddr 27 (Operand.tmp 6) 0, type := 0, pos := "law.go:44", after := #[{ on := 26, ground := Ground.guard }], guard := some (26, false) }) (v := ?_) rfl (by kernel_rfl) (by kernel_rfl) (by kernel_rfl) (fun _ _ _ h => h) (Or.inl ⟨by rfl, ?_⟩) (by assumption) ?_
      rotate_left
      · (intro w hSw; (try dsimp only at hSw); go_simp; try with_reducible rfl)
      ((try simp only [Act.put]); (try simp only [List.setIfInBounds_toArray]); (try simp only [List.set_cons_succ]); (try simp only [List.set_cons_zero]))
      refine wpAnyH_take (i := 28) (oi := { dst := some 63, op := Op.load 4 (Operand.tmp 62), type := 4, pos := "law.go:44", after := #[{ on := 27, ground := Ground.data }, { on := 26, ground := Ground.guard }], guard := some (26, false) }) (v := ?_) rfl (by kernel_rfl) (by kernel_rfl) (by kernel_rfl) (fun _ _ _ h => h) (Or.inl ⟨by rfl, ?_⟩) (by assumption) ?_
      rotate_left
      · (intro w hSw; (try dsimp only at hSw); go_simp; try with_reducible rfl)
      ((try simp only [Act.put]); (try simp only [List.setIfInBounds_toArray]); (try simp only [List.set_cons_succ]); (try simp only [List.set_cons_zero]))
      refine wpAnyH_take (i := 29) (oi := { dst := some 64, op := Op.fieldAddr 32 (Operand.tmp 8) 0, type := 0, pos := "law.go:44", after := #[{ on := 26, ground := Ground.guard }], guard := some (26, false) }) (v := ?_) rfl (by kernel_rfl) (by kernel_rfl) (by kernel_rfl) (fun _ _ _ h => h) (Or.inl ⟨by rfl, ?_⟩) (by assumption) ?_
      rotate_left
      · (intro w hSw; (try dsimp only at hSw); go_simp; try with_reducible rfl)
      ((try simp only [Act.put]); (try simp only [List.setIfInBounds_toArray]); (try simp only [List.set_cons_succ]); (try simp only [List.set_cons_zero]))
      refine wpAnyH_take (i := 30) (oi := { dst := some 65, op := Op.load 4 (Operand.tmp 64), type := 4, pos := "law.go:44", after := #[{ on := 29, ground := Ground.data }, { on := 26, ground := Ground.guard }], guard := some (26, false) }) (v := ?_) rfl (by kernel_rfl) (by kernel_rfl) (by kernel_rfl) (fun _ _ _ h => h) (Or.inl ⟨by rfl, ?_⟩) (by assumption) ?_
      rotate_left
      · (intro w hSw; (try dsimp only at hSw); go_simp; try with_reducible rfl)
      ((try simp only [Act.put]); (try simp only [List.setIfInBounds_toArray]); (try simp only [List.set_cons_succ]); (try simp only [List.set_cons_zero]))
      refine wpAnyH_take (i := 31) (oi := { dst := some 66, op := Op.binOp BinOp.neq 4 (Operand.tmp 63) (Operand.tmp 65) 4, type := 4, pos := "law.go:44", after := #[{ on := 28, ground := Ground.data }, { on := 30, ground := Ground.data }, { on := 26, ground := Ground.guard }], guard := some (26, false) }) (v := ?_) rfl (by kernel_rfl) (by kernel_rfl) (by kernel_rfl) (fun _ _ _ h => h) (Or.inl ⟨by rfl, ?_⟩) (by assumption) ?_
      rotate_left
      · (intro w hSw; (try dsimp only at hSw); go_simp; try with_reducible rfl)
      ((try simp only [Act.put]); (try simp only [List.setIfInBounds_toArray]); (try simp only [List.set_cons_succ]); (try simp only [List.set_cons_zero]))
      refine wpAnyH_take (i := 32) (oi := { dst := some 67, op := Op.pick (Operand.tmp 61) (Operand.const (Value.bool true)) (Operand.tmp 66), type := 4, pos := "law.go:44", after := #[{ on := 26, ground := Ground.data }, { on := 31, ground := Ground.data }], guard := none }) (v := ?_) rfl (by kernel_rfl) (by kernel_rfl) (by kernel_rfl) (fun _ _ _ h => h) (Or.inl ⟨by rfl, ?_⟩) (by assumption) ?_
      rotate_left
      · (intro w hSw; (try dsimp only at hSw); go_simp; try with_reducible rfl)
      ((try simp only [Act.put]); (try simp only [List.setIfInBounds_toArray]); (try simp only [List.set_cons_succ]); (try simp only [List.set_cons_zero]))
      refine wpAnyH_take (i := 33) (oi := { dst := some 68, op := Op.move (Operand.tmp 67), type := 4, pos := "law.go:44", after := #[{ on := 32, ground := Ground.data }, { on := 26, ground := Ground.chain }], guard := none }) (v := ?_) rfl (by kernel_rfl) (by kernel_rfl) (by kernel_rfl) (fun _ _ _ h => h) (Or.inl ⟨by rfl, ?_⟩) (by assumption) ?_
      rotate_left
      · (intro w hSw; (try dsimp only at hSw); go_simp; try with_reducible rfl)
      ((try simp only [Act.put]); (try simp only [List.setIfInBounds_toArray]); (try simp only [List.set_cons_succ]); (try simp only [List.set_cons_zero]))
      refine wpAnyH_take (i := 34) (oi := { dst := some 69, op := Op.fieldAddr 27 (Operand.tmp 6) 1, type := 0, pos := "law.go:44", after := #[{ on := 33, ground := Ground.guard }], guard := some (33, false) }) (v := ?_) rfl (by kernel_rfl) (by kernel_rfl) (by kernel_rfl) (fun _ _ _ h => h) (Or.inl ⟨by rfl, ?_⟩) (by assumption) ?_
      rotate_left
      · (intro w hSw; (try dsimp only at hSw); go_simp; try with_reducible rfl)
      ((try simp only [Act.put]); (try simp only [List.setIfInBounds_toArray]); (try simp only [List.set_cons_succ]); (try simp only [List.set_cons_zero]))
      refine wpAnyH_take (i := 35) (oi := { dst := some 70, op := Op.load 25 (Operand.tmp 69), type := 25, pos := "law.go:44", after := #[{ on := 34, ground := Ground.data }, { on := 33, ground := Ground.guard }], guard := some (33, false) }) (v := ?_) rfl (by kernel_rfl) (by kernel_rfl) (by kernel_rfl) (fun _ _ _ h => h) (Or.inl ⟨by rfl, ?_⟩) (by assumption) ?_
      rotate_left
      · (intro w hSw; (try dsimp only at hSw); go_simp; try with_reducible rfl)
      ((try simp only [Act.put]); (try simp only [List.setIfInBounds_toArray]); (try simp only [List.set_cons_succ]); (try simp only [List.set_cons_zero]))
      refine wpAnyH_take (i := 36) (oi := { dst := some 71, op := Op.fieldAddr 32 (Operand.tmp 8) 1, type := 0, pos := "law.go:44", after := #[{ on := 33, ground := Ground.guard }], guard := some (33, false) }) (v := ?_) rfl (by kernel_rfl) (by kernel_rfl) (by kernel_rfl) (fun _ _ _ h => h) (Or.inl ⟨by rfl, ?_⟩) (by assumption) ?_
      rotate_left
      · (intro w hSw; (try dsimp only at hSw); go_simp; try with_reducible rfl)
      ((try simp only [Act.put]); (try simp only [List.setIfInBounds_toArray]); (try simp only [List.set_cons_succ]); (try simp only [List.set_cons_zero]))
      refine wpAnyH_take (i := 37) (oi := { dst := some 72, op := Op.load 25 (Operand.tmp 71), type := 25, pos := "law.go:44", after := #[{ on := 36, ground := Ground.data }, { on := 33, ground := Ground.guard }], guard := some (33, false) }) (v := ?_) rfl (by kernel_rfl) (by kernel_rfl) (by kernel_rfl) (fun _ _ _ h => h) (Or.inl ⟨by rfl, ?_⟩) (by assumption) ?_
      rotate_left
      · (intro w hSw; (try dsimp only at hSw); go_simp; try with_reducible rfl)
      ((try simp only [Act.put]); (try simp only [List.setIfInBounds_toArray]); (try simp only [List.set_cons_succ]); (try simp only [List.set_cons_zero]))
      refine wpAnyH_take (i := 38) (oi := { dst := some 73, op := Op.binOp BinOp.neq 25 (Operand.tmp 70) (Operand.tmp 72) 25, type := 4, pos := "law.go:44", after := #[{ on := 35, ground := Ground.data }, { on := 37, ground := Ground.data }, { on := 33, ground := Ground.guard }], guard := some (33, false) }) (v := ?_) rfl (by kernel_rfl) (by kernel_rfl) (by kernel_rfl) (fun _ _ _ h => h) (Or.inl ⟨by rfl, ?_⟩) (by assumption) ?_
      rotate_left
      · (intro w hSw; (try dsimp only at hSw); go_simp; try with_reducible rfl)
      ((try simp only [Act.put]); (try simp only [List.setIfInBounds_toArray]); (try simp only [List.set_cons_succ]); (try simp only [List.set_cons_zero]))
      refine wpAnyH_take (i := 39) (oi := { dst := some 74, op := Op.pick (Operand.tmp 68) (Operand.const (Value.bool true)) (Operand.tmp 73), type := 4, pos := "law.go:44", after := #[{ on := 33, ground := Ground.data }, { on := 38, ground := Ground.data }], guard := none }) (v := ?_) rfl (by kernel_rfl) (by kernel_rfl) (by kernel_rfl) (fun _ _ _ h => h) (Or.inl ⟨by rfl, ?_⟩) (by assumption) ?_
      rotate_left
      · (intro w hSw; (try dsimp only at hSw); go_simp; try with_reducible rfl)
      ((try simp only [Act.put]); (try simp only [List.setIfInBounds_toArray]); (try simp only [List.set_cons_succ]); (try simp only [List.set_cons_zero]))
      refine wpAnyH_take (i := 40) (oi := { dst := some 75, op := Op.move (Operand.tmp 74), type := 4, pos := "law.go:44", after := #[{ on := 39, ground := Ground.data }, { on := 33, ground := Ground.chain }], guard := none }) (v := ?_) rfl (by kernel_rfl) (by kernel_rfl) (by kernel_rfl) (fun _ _ _ h => h) (Or.inl ⟨by rfl, ?_⟩) (by assumption) ?_
      rotate_left
      · (intro w hSw; (try dsimp only at hSw); go_simp; try with_reducible rfl)
      ((try simp only [Act.put]); (try simp only [List.setIfInBounds_toArray]); (try simp only [List.set_cons_succ]); (try simp only [List.set_cons_zero]))
      refine wpAnyH_take (i := 41) (oi := { dst := some 76, op := Op.fieldAddr 27 (Operand.tmp 6) 2, type := 0, pos := "law.go:44", after := #[{ on := 40, ground := Ground.guard }], guard := some (40, false) }) (v := ?_) rfl (by kernel_rfl) (by kernel_rfl) (by kernel_rfl) (fun _ _ _ h => h) (Or.inl ⟨by rfl, ?_⟩) (by assumption) ?_
      rotate_left
      · (intro w hSw; (try dsimp only at hSw); go_simp; try with_reducible rfl)
      ((try simp only [Act.put]); (try simp only [List.setIfInBounds_toArray]); (try simp only [List.set_cons_succ]); (try simp only [List.set_cons_zero]))
      refine wpAnyH_take (i := 42) (oi := { dst := some 77, op := Op.load 23 (Operand.tmp 76), type := 23, pos := "law.go:44", after := #[{ on := 41, ground := Ground.data }, { on := 40, ground := Ground.guard }], guard := some (40, false) }) (v := ?_) rfl (by kernel_rfl) (by kernel_rfl) (by kernel_rfl) (fun _ _ _ h => h) (Or.inl ⟨by rfl, ?_⟩) (by assumption) ?_
      rotate_left
      · (intro w hSw; (try dsimp only at hSw); go_simp; try with_reducible rfl)
      ((try simp only [Act.put]); (try simp only [List.setIfInBounds_toArray]); (try simp only [List.set_cons_succ]); (try simp only [List.set_cons_zero]))
      refine wpAnyH_take (i := 44) (oi := { dst := some 79, op := Op.fieldAddr 32 (Operand.tmp 8) 2, type := 0, pos := "law.go:44", after := #[{ on := 40, ground := Ground.guard }], guard := some (40, false) }) (v := ?_) rfl (by kernel_rfl) (by kernel_rfl) (by kernel_rfl) (fun _ _ _ h => h) (Or.inl ⟨by rfl, ?_⟩) (by assumption) ?_
      rotate_left
      · (intro w hSw; (try dsimp only at hSw); go_simp; try with_reducible rfl)
      ((try simp only [Act.put]); (try simp only [List.setIfInBounds_toArray]); (try simp only [List.set_cons_succ]); (try simp only [List.set_cons_zero]))
      refine wpAnyH_take (i := 45) (oi := { dst := some 80, op := Op.load 23 (Operand.tmp 79), type := 23, pos := "law.go:44", after := #[{ on := 44, ground := Ground.data }, { on := 40, ground := Ground.guard }], guard := some (40, false) }) (v := ?_) rfl (by kernel_rfl) (by kernel_rfl) (by kernel_rfl) (fun _ _ _ h => h) (Or.inl ⟨by rfl, ?_⟩) (by assumption) ?_
      rotate_left
      · (intro w hSw; (try dsimp only at hSw); go_simp; try with_reducible rfl)
      ((try simp only [Act.put]); (try simp only [List.setIfInBounds_toArray]); (try simp only [List.set_cons_succ]); (try simp only [List.set_cons_zero]))
      refine wpAnyH_ready (rs := [43, 46]) (by kernel_rfl) (by simp) ?_
      refine AllReadyH.cons (o := { dst := some 78, op := Op.convert 23 9 (Operand.tmp 77), type := 9, pos := "law.go:44", after := #[{ on := 42, ground := Ground.data }, { on := 40, ground := Ground.guard }], guard := some (40, false) }) rfl (fun K hK => ?_) (AllReadyH.cons (o := { dst := some 81, op := Op.convert 23 9 (Operand.tmp 80), type := 9, pos := "law.go:44", after := #[{ on := 45, ground := Ground.data }, { on := 40, ground := Ground.guard }], guard := some (40, false) }) rfl (fun K hK => ?_) AllReadyH.nil)
      · skip
        have cv := conv_any hHeld.2.2.2.2.2.2.2.2.2.2.1.out.sl rfl
        go_simp
        clear cv
        try go_wp2_with fail
        refine hK.out _ _ ?_ (fun hNew => ?_)
        · first | exact hHeld | exact three3 (Fun.of hb hHeld.2.2.2.2.2.2.2.2.2.1) (Fun.of hb hHeld.2.2.2.2.2.2.2.2.2.2.1) (Fun.of hb hHeld.2.2.2.2.2.2.2.2.2.2.2.1) (Lib.hid (hHeld.2.2.2.2.2.2.2.2.2.2.2.2.out.below hb))
        clear hK K
        replace hHeld := hNew
        clear hNew
        ((try simp only [Act.put]); (try simp only [List.setIfInBounds_toArray]); (try simp only [List.set_cons_succ]); (try simp only [List.set_cons_zero]))
        refine wpAnyH_ready (rs := [46]) (by kernel_rfl) (by simp) ?_
        refine AllReadyH.cons (o := { dst := some 81, op := Op.convert 23 9 (Operand.tmp 80), type := 9, pos := "law.go:44", after := #[{ on := 45, ground := Ground.data }, { on := 40, ground := Ground.guard }], guard := some (40, false) }) rfl (fun K hK => ?_) AllReadyH.nil
        have cv := conv_any hHeld.2.2.2.2.2.2.2.2.2.2.2.1.out.sl rfl
        go_simp
        clear cv
        try go_wp2_with fail
        refine hK.out _ _ ?_ (fun hNew => ?_)
        · first | exact hHeld | exact three3 (Fun.of hb hHeld.2.2.2.2.2.2.2.2.2.1) (Fun.of hb hHeld.2.2.2.2.2.2.2.2.2.2.1) (Fun.of hb hHeld.2.2.2.2.2.2.2.2.2.2.2.1) (Lib.hid (hHeld.2.2.2.2.2.2.2.2.2.2.2.2.out.below hb))
        clear hK K
        replace hHeld := hNew
        clear hNew
        ((try simp only [Act.put]); (try simp only [List.setIfInBounds_toArray]); (try simp only [List.set_cons_succ]); (try simp only [List.set_cons_zero]))
        refine wpAnyH_take (i := 47) (oi := { dst := some 82, op := Op.binOp BinOp.neq 9 (Operand.tmp 78) (Operand.tmp 81) 9, type := 4, pos := "law.go:44", after := #[{ on := 43, ground := Ground.data }, { on := 46, ground := Ground.data }, { on := 40, ground := Ground.guard }], guard := some (40, false) }) (v := ?_) rfl (by kernel_rfl) (by kernel_rfl) (by kernel_rfl) (fun _ _ _ h => h) (Or.inl ⟨by rfl, ?_⟩) (by assumption) ?_
        rotate_left
        · (intro w hSw; (try dsimp only at hSw); go_simp; try with_reducible rfl)
        ((try simp only [Act.put]); (try simp only [List.setIfInBounds_toArray]); (try simp only [List.set_cons_succ]); (try simp only [List.set_cons_zero]))
        refine wpAnyH_take (i := 48) (oi := { dst := some 83, op := Op.pick (Operand.tmp 75) (Operand.const (Value.bool true)) (Operand.tmp 82), type := 4, pos := "law.go:44", after := #[{ on := 40, ground := Ground.data }, { on := 47, ground := Ground.data }], guard := none }) (v := ?_) rfl (by kernel_rfl) (by kernel_rfl) (by kernel_rfl) (fun _ _ _ h => h) (Or.inl ⟨by rfl, ?_⟩) (by assumption) ?_
        rotate_left
        · (intro w hSw; (try dsimp only at hSw); go_simp; try with_reducible rfl)
        ((try simp only [Act.put]); (try simp only [List.setIfInBounds_toArray]); (try simp only [List.set_cons_succ]); (try simp only [List.set_cons_zero]))
        refine wpAnyH_done (by kernel_rfl) ?_ _
        refine NoPanic.normal ?_
        have X7 := hHeld.2.2.2.2.2.2.2.2.2.1
        have SP7 := hHeld.2.2.2.2.2.2.2.2.2.2.2.2
        clear hHeld X6 Y5 Z5 SP5
        obtain ⟨j0, j1, j2⟩ := X7.out.bx
        by_cases l4 : q = []
        · subst l4
          go_wp2_with fail
          go_ret
          exact ⟨rfl, X7.out.be⟩
        have d4 : ((q.length : Int) == 0) = false := by simp [l4]
        have G1 := Lib.hid (show goodF f = true by
          cases hg : goodF f with
          | true => rfl
          | false => exact absurd (by rw [← E.out]; unfold bytesF; rw [hg]; rfl) l4)
        have P1 := Lib.hid (show putF f = q by rw [← E.out]; unfold bytesF; rw [G1.out]; rfl)
        have QL := Lib.hid (show q.length ≤ 1000000 by have := (putF_len O.out G1.out).2; rw [P1.out] at this; omega)
        have GP := Lib.hid (show okF q = true ∧ gotF q = f by rw [← P1.out]; exact gotF_put O.out G1.out)
        clear l4
        go_wp2_with fail
        refine (fget_of SP7.out rfl QL.out GP.out.2 GP.out.1).mono ?_
        rintro e w8 ⟨b8, c8, rfl, hs8, hb, _⟩
        have X8 := Fun.alloc (o := .cells (frmA f b8 c8) 27) (Fun.of hb X7)
        have Z8 := Fun.lay X7.out.be X7.out.le hb hs8 27
        clear hb hs8 X7 j0 j1 j2
        obtain ⟨j0, j1, j2⟩ := X8.out.bx
        obtain ⟨i0, i1, i2⟩ := Z8.out.bx
        have cf := conv_any X8.out.sl rfl
        have cg := conv_any Z8.out.sl rfl
        go_wp2_with fail
        go_ret
        exact ⟨rfl, X8.out.be⟩
      · skip
        have cv := conv_any hHeld.2.2.2.2.2.2.2.2.2.2.2.1.out.sl rfl
        go_simp
        clear cv
        try go_wp2_with fail
        refine hK.out _ _ ?_ (fun hNew => ?_)
        · first | exact hHeld | exact three3 (Fun.of hb hHeld.2.2.2.2.2.2.2.2.2.1) (Fun.of hb hHeld.2.2.2.2.2.2.2.2.2.2.1) (Fun.of hb hHeld.2.2.2.2.2.2.2.2.2.2.2.1) (Lib.hid (hHeld.2.2.2.2.2.2.2.2.2.2.2.2.out.below hb))
        clear hK K
        replace hHeld := hNew
        clear hNew
        ((try simp only [Act.put]); (try simp only [List.setIfInBounds_toArray]); (try simp only [List.set_cons_succ]); (try simp only [List.set_cons_zero]))
        refine wpAnyH_ready (rs := [43]) (by kernel_rfl) (by simp) ?_
        refine AllReadyH.cons (o := { dst := some 78, op := Op.convert 23 9 (Operand.tmp 77), type := 9, pos := "law.go:44", after := #[{ on := 42, ground := Ground.data }, { on := 40, ground := Ground.guard }], guard := some (40, false) }) rfl (fun K hK => ?_) AllReadyH.nil
        have cv := conv_any hHeld.2.2.2.2.2.2.2.2.2.2.1.out.sl rfl
        go_simp
        clear cv
        try go_wp2_with fail
        refine hK.out _ _ ?_ (fun hNew => ?_)
        · first | exact hHeld | exact three3 (Fun.of hb hHeld.2.2.2.2.2.2.2.2.2.1) (Fun.of hb hHeld.2.2.2.2.2.2.2.2.2.2.1) (Fun.of hb hHeld.2.2.2.2.2.2.2.2.2.2.2.1) (Lib.hid (hHeld.2.2.2.2.2.2.2.2.2.2.2.2.out.below hb))
        clear hK K
        replace hHeld := hNew
        clear hNew
        ((try simp only [Act.put]); (try simp only [List.setIfInBounds_toArray]); (try simp only [List.set_cons_succ]); (try simp only [List.set_cons_zero]))
        refine wpAnyH_take (i := 47) (oi := { dst := some 82, op := Op.binOp BinOp.neq 9 (Operand.tmp 78) (Operand.tmp 81) 9, type := 4, pos := "law.go:44", after := #[{ on := 43, ground := Ground.data }, { on := 46, ground := Ground.data }, { on := 40, ground := Ground.guard }], guard := some (40, false) }) (v := ?_) rfl (by kernel_rfl) (by kernel_rfl) (by kernel_rfl) (fun _ _ _ h => h) (Or.inl ⟨by rfl, ?_⟩) (by assumption) ?_
        rotate_left
        · (intro w hSw; (try dsimp only at hSw); go_simp; try with_reducible rfl)
        ((try simp only [Act.put]); (try simp only [List.setIfInBounds_toArray]); (try simp only [List.set_cons_succ]); (try simp only [List.set_cons_zero]))
        refine wpAnyH_take (i := 48) (oi := { dst := some 83, op := Op.pick (Operand.tmp 75) (Operand.const (Value.bool true)) (Operand.tmp 82), type := 4, pos := "law.go:44", after := #[{ on := 40, ground := Ground.data }, { on := 47, ground := Ground.data }], guard := none }) (v := ?_) rfl (by kernel_rfl) (by kernel_rfl) (by kernel_rfl) (fun _ _ _ h => h) (Or.inl ⟨by rfl, ?_⟩) (by assumption) ?_
        rotate_left
        · (intro w hSw; (try dsimp only at hSw); go_simp; try with_reducible rfl)
        ((try simp only [Act.put]); (try simp only [List.setIfInBounds_toArray]); (try simp only [List.set_cons_succ]); (try simp only [List.set_cons_zero]))
        refine wpAnyH_done (by kernel_rfl) ?_ _
        refine NoPanic.normal ?_
        have X7 := hHeld.2.2.2.2.2.2.2.2.2.1
        have SP7 := hHeld.2.2.2.2.2.2.2.2.2.2.2.2
        clear hHeld X6 Y5 Z5 SP5
        obtain ⟨j0, j1, j2⟩ := X7.out.bx
        by_cases l4 : q = []
        · subst l4
          go_wp2_with fail
          go_ret
          exact ⟨rfl, X7.out.be⟩
        have d4 : ((q.length : Int) == 0) = false := by simp [l4]
        have G1 := Lib.hid (show goodF f = true by
          cases hg : goodF f with
          | true => rfl
          | false => exact absurd (by rw [← E.out]; unfold bytesF; rw [hg]; rfl) l4)
        have P1 := Lib.hid (show putF f = q by rw [← E.out]; unfold bytesF; rw [G1.out]; rfl)
        have QL := Lib.hid (show q.length ≤ 1000000 by have := (putF_len O.out G1.out).2; rw [P1.out] at this; omega)
        have GP := Lib.hid (show okF q = true ∧ gotF q = f by rw [← P1.out]; exact gotF_put O.out G1.out)
        clear l4
        go_wp2_with fail
        refine (fget_of SP7.out rfl QL.out GP.out.2 GP.out.1).mono ?_
        rintro e w8 ⟨b8, c8, rfl, hs8, hb, _⟩
        have X8 := Fun.alloc (o := .cells (frmA f b8 c8) 27) (Fun.of hb X7)
        have Z8 := Fun.lay X7.out.be X7.out.le hb hs8 27
        clear hb hs8 X7 j0 j1 j2
        obtain ⟨j0, j1, j2⟩ := X8.out.bx
        obtain ⟨i0, i1, i2⟩ := Z8.out.bx
        have cf := conv_any X8.out.sl rfl
        have cg := conv_any Z8.out.sl rfl
        go_wp2_with fail
        go_ret
        exact ⟨rfl, X8.out.be⟩
    · skip
      go_simp
      refine (rfput_is (f := f) hHeld.2.2.2.2.2.2.2.2.2.1.out.sl O.out E.out).mono ?_
      rintro e w' ⟨a6, c6, rfl, hsq, hb⟩
      have cq := conv_any hsq rfl
      have CQ := Lib.hid cq
      clear hsq cq
      try go_wp2_with fail
      refine hK.out _ _ ?_ (fun hNew => ?_)
      · first | exact hHeld | exact three3 (Fun.of hb hHeld.2.2.2.2.2.2.2.2.2.1) (Fun.of hb hHeld.2.2.2.2.2.2.2.2.2.2.1) (Fun.of hb hHeld.2.2.2.2.2.2.2.2.2.2.2.1) (Lib.hid (hHeld.2.2.2.2.2.2.2.2.2.2.2.2.out.below hb))
      clear hK K
      replace hHeld := hNew
      clear hNew
      ((try simp only [Act.put]); (try simp only [List.setIfInBounds_toArray]); (try simp only [List.set_cons_succ]); (try simp only [List.set_cons_zero]))
      refine wpAnyH_ready (rs := [1, 10]) (by kernel_rfl) (by simp) ?_
      refine AllReadyH.cons (o := { dst := some 36, op := Op.convert 23 9 (Operand.tmp 35), type := 9, pos := "law.go:44", after := #[{ on := 0, ground := Ground.data }], guard := none }) rfl (fun K hK => ?_) (AllReadyH.cons (o := { dst := some 45, op := Op.convert 23 9 (Operand.tmp 44), type := 9, pos := "law.go:44", after := #[{ on := 9, ground := Ground.data }], guard := none }) rfl (fun K hK => ?_) AllReadyH.nil)
      · skip
        have cv := conv_any hHeld.2.2.2.2.2.2.2.2.2.2.2.2.out rfl
        go_simp
        clear cv
        try go_wp2_with fail
        refine hK.out _ _ ?_ (fun hNew => ?_)
        · first | exact hHeld | exact three3 (Fun.of hb hHeld.2.2.2.2.2.2.2.2.2.1) (Fun.of hb hHeld.2.2.2.2.2.2.2.2.2.2.1) (Fun.of hb hHeld.2.2.2.2.2.2.2.2.2.2.2.1) (Lib.hid (hHeld.2.2.2.2.2.2.2.2.2.2.2.2.out.below hb))
        clear hK K
        replace hHeld := hNew
        clear hNew
        ((try simp only [Act.put]); (try simp only [List.setIfInBounds_toArray]); (try simp only [List.set_cons_succ]); (try simp only [List.set_cons_zero]))
        refine wpAnyH_ready (rs := [10]) (by kernel_rfl) (by simp) ?_
        refine AllReadyH.cons (o := { dst := some 45, op := Op.convert 23 9 (Operand.tmp 44), type := 9, pos := "law.go:44", after := #[{ on := 9, ground := Ground.data }], guard := none }) rfl (fun K hK => ?_) AllReadyH.nil
        have cv := CQ.out
        go_simp
        clear cv
        try go_wp2_with fail
        refine hK.out _ _ ?_ (fun hNew => ?_)
        · first | exact hHeld | exact three3 (Fun.of hb hHeld.2.2.2.2.2.2.2.2.2.1) (Fun.of hb hHeld.2.2.2.2.2.2.2.2.2.2.1) (Fun.of hb hHeld.2.2.2.2.2.2.2.2.2.2.2.1) (Lib.hid (hHeld.2.2.2.2.2.2.2.2.2.2.2.2.out.below hb))
        clear hK K
        replace hHeld := hNew
        clear hNew
        ((try simp only [Act.put]); (try simp only [List.setIfInBounds_toArray]); (try simp only [List.set_cons_succ]); (try simp only [List.set_cons_zero]))
        refine wpAnyH_take (i := 11) (oi := { dst := some 46, op := Op.binOp BinOp.neq 9 (Operand.tmp 36) (Operand.tmp 45) 9, type := 4, pos := "law.go:44", after := #[{ on := 1, ground := Ground.data }, { on := 10, ground := Ground.data }], guard := none }) (v := ?_) rfl (by kernel_rfl) (by kernel_rfl) (by kernel_rfl) (fun _ _ _ h => h) (Or.inl ⟨by rfl, ?_⟩) (by assumption) ?_
        rotate_left
        · (intro w hSw; (try dsimp only at hSw); go_simp; try with_reducible rfl)
        ((try simp only [Act.put]); (try simp only [List.setIfInBounds_toArray]); (try simp only [List.set_cons_succ]); (try simp only [List.set_cons_zero]))
        refine wpAnyH_take (i := 12) (oi := { dst := some 47, op := Op.move (Operand.tmp 46), type := 4, pos := "law.go:44", after := #[{ on := 11, ground := Ground.data }, { on := 9, ground := Ground.chain }], guard := none }) (v := ?_) rfl (by kernel_rfl) (by kernel_rfl) (by kernel_rfl) (fun _ _ _ h => h) (Or.inl ⟨by rfl, ?_⟩) (by assumption) ?_
        rotate_left
        · (intro w hSw; (try dsimp only at hSw); go_simp; try with_reducible rfl)
        ((try simp only [Act.put]); (try simp only [List.setIfInBounds_toArray]); (try simp only [List.set_cons_succ]); (try simp only [List.set_cons_zero]))
        refine wpAnyH_take (i := 13) (oi := { dst := some 48, op := Op.move (Operand.tmp 7), type := 28, pos := "law.go:44", after := #[{ on := 12, ground := Ground.guard }], guard := some (12, false) }) (v := ?_) rfl (by kernel_rfl) (by kernel_rfl) (by kernel_rfl) (fun _ _ _ h => h) (Or.inl ⟨by rfl, ?_⟩) (by assumption) ?_
        rotate_left
        · (intro w hSw; (try dsimp only at hSw); go_simp; try with_reducible rfl)
        ((try simp only [Act.put]); (try simp only [List.setIfInBounds_toArray]); (try simp only [List.set_cons_succ]); (try simp only [List.set_cons_zero]))
        refine wpAnyH_take (i := 14) (oi := { dst := some 49, op := Op.binOp BinOp.eql 28 (Operand.tmp 48) (Operand.const (Value.int IntKind.i64 0)) 28, type := 4, pos := "law.go:44", after := #[{ on := 13, ground := Ground.data }, { on := 12, ground := Ground.guard }], guard := some (12, false) }) (v := ?_) rfl (by kernel_rfl) (by kernel_rfl) (by kernel_rfl) (fun _ _ _ h => h) (Or.inl ⟨by rfl, ?_⟩) (by assumption) ?_
        rotate_left
        · (intro w hSw; (try dsimp only at hSw); go_simp; try with_reducible rfl)
        ((try simp only [Act.put]); (try simp only [List.setIfInBounds_toArray]); (try simp only [List.set_cons_succ]); (try simp only [List.set_cons_zero]))
        refine wpAnyH_take (i := 15) (oi := { dst := some 50, op := Op.move (Operand.tmp 9), type := 4, pos := "law.go:44", after := #[{ on := 12, ground := Ground.guard }], guard := some (12, false) }) (v := ?_) rfl (by kernel_rfl) (by kernel_rfl) (by kernel_rfl) (fun _ _ _ h => h) (Or.inl ⟨by rfl, ?_⟩) (by assumption) ?_
        rotate_left
        · (intro w hSw; (try dsimp only at hSw); go_simp; try with_reducible rfl)
        ((try simp only [Act.put]); (try simp only [List.setIfInBounds_toArray]); (try simp only [List.set_cons_succ]); (try simp only [List.set_cons_zero]))
        refine wpAnyH_take (i := 16) (oi := { dst := some 51, op := Op.binOp BinOp.neq 4 (Operand.tmp 49) (Operand.tmp 50) 4, type := 4, pos := "law.go:44", after := #[{ on := 14, ground := Ground.data }, { on := 15, ground := Ground.data }, { on := 12, ground := Ground.guard }], guard := some (12, false) }) (v := ?_) rfl (by kernel_rfl) (by kernel_rfl) (by kernel_rfl) (fun _ _ _ h => h) (Or.inl ⟨by rfl, ?_⟩) (by assumption) ?_
        rotate_left
        · (intro w hSw; (try dsimp only at hSw); go_simp; try with_reducible rfl)
        ((try simp only [Act.put]); (try simp only [List.setIfInBounds_toArray]); (try simp only [List.set_cons_succ]); (try simp only [List.set_cons_zero]))
        refine wpAnyH_take (i := 17) (oi := { dst := some 52, op := Op.pick (Operand.tmp 47) (Operand.const (Value.bool true)) (Operand.tmp 51), type := 4, pos := "law.go:44", after := #[{ on := 12, ground := Ground.data }, { on := 16, ground := Ground.data }], guard := none }) (v := ?_) rfl (by kernel_rfl) (by kernel_rfl) (by kernel_rfl) (fun _ _ _ h => h) (Or.inl ⟨by rfl, ?_⟩) (by assumption) ?_
        rotate_left
        · (intro w hSw; (try dsimp only at hSw); go_simp; try with_reducible rfl)
        ((try simp only [Act.put]); (try simp only [List.setIfInBounds_toArray]); (try simp only [List.set_cons_succ]); (try simp only [List.set_cons_zero]))
        refine wpAnyH_take (i := 18) (oi := { dst := some 53, op := Op.move (Operand.tmp 52), type := 4, pos := "law.go:44", after := #[{ on := 17, ground := Ground.data }, { on := 12, ground := Ground.chain }], guard := none }) (v := ?_) rfl (by kernel_rfl) (by kernel_rfl) (by kernel_rfl) (fun _ _ _ h => h) (Or.inl ⟨by rfl, ?_⟩) (by assumption) ?_
        rotate_left
        · (intro w hSw; (try dsimp only at hSw); go_simp; try with_reducible rfl)
        ((try simp only [Act.put]); (try simp only [List.setIfInBounds_toArray]); (try simp only [List.set_cons_succ]); (try simp only [List.set_cons_zero]))
        refine wpAnyH_take (i := 19) (oi := { dst := some 54, op := Op.move (Operand.tmp 9), type := 4, pos := "law.go:44", after := #[{ on := 18, ground := Ground.guard }], guard := some (18, false) }) (v := ?_) rfl (by kernel_rfl) (by kernel_rfl) (by kernel_rfl) (fun _ _ _ h => h) (Or.inl ⟨by rfl, ?_⟩) (by assumption) ?_
        rotate_left
        · (intro w hSw; (try dsimp only at hSw); go_simp; try with_reducible rfl)
        ((try simp only [Act.put]); (try simp only [List.setIfInBounds_toArray]); (try simp only [List.set_cons_succ]); (try simp only [List.set_cons_zero]))
        refine wpAnyH_take (i := 20) (oi := { dst := some 55, op := Op.unOp UnOp.not 4 (Operand.tmp 54), type := 4, pos := "law.go:44", after := #[{ on := 19, ground := Ground.data }, { on := 18, ground := Ground.guard }], guard := some (18, false) }) (v := ?_) rfl (by kernel_rfl) (by kernel_rfl) (by kernel_rfl) (fun _ _ _ h => h) (Or.inl ⟨by rfl, ?_⟩) (by assumption) ?_
        rotate_left
        · (intro w hSw; (try dsimp only at hSw); go_simp; try with_reducible rfl)
        ((try simp only [Act.put]); (try simp only [List.setIfInBounds_toArray]); (try simp only [List.set_cons_succ]); (try simp only [List.set_cons_zero]))
        refine wpAnyH_take (i := 21) (oi := { dst := some 56, op := Op.move (Operand.tmp 55), type := 4, pos := "law.go:44", after := #[{ on := 20, ground := Ground.data }, { on := 18, ground := Ground.chain }, { on := 18, ground := Ground.guard }], guard := some (18, false) }) (v := ?_) rfl (by kernel_rfl) (by kernel_rfl) (by kernel_rfl) (fun _ _ _ h => h) (Or.inl ⟨by rfl, ?_⟩) (by assumption) ?_
        rotate_left
        · (intro w hSw; (try dsimp only at hSw); go_simp; try with_reducible rfl)
        ((try simp only [Act.put]); (try simp only [List.setIfInBounds_toArray]); (try simp only [List.set_cons_succ]); (try simp only [List.set_cons_zero]))
        refine wpAnyH_take (i := 22) (oi := { dst := some 57, op := Op.move (Operand.tmp 7), type := 28, pos := "law.go:44", after := #[{ on := 21, ground := Ground.guard }], guard := some (21, true) }) (v := ?_) rfl (by kernel_rfl) (by kernel_rfl) (by kernel_rfl) (fun _ _ _ h => h) (Or.inl ⟨by rfl, ?_⟩) (by assumption) ?_
        rotate_left
        · (intro w hSw; (try dsimp only at hSw); go_simp; try with_reducible rfl)
        ((try simp only [Act.put]); (try simp only [List.setIfInBounds_toArray]); (try simp only [List.set_cons_succ]); (try simp only [List.set_cons_zero]))
        refine wpAnyH_take (i := 23) (oi := { dst := some 58, op := Op.binOp BinOp.neq 28 (Operand.tmp 57) (Operand.const (Value.int IntKind.i64 2)) 28, type := 4, pos := "law.go:44", after := #[{ on := 22, ground := Ground.data }, { on := 21, ground := Ground.guard }], guard := some (21, true) }) (v := ?_) rfl (by kernel_rfl) (by kernel_rfl) (by kernel_rfl) (fun _ _ _ h => h) (Or.inl ⟨by rfl, ?_⟩) (by assumption) ?_
        rotate_left
        · (intro w hSw; (try dsimp only at hSw); go_simp; try with_reducible rfl)
        ((try simp only [Act.put]); (try simp only [List.setIfInBounds_toArray]); (try simp only [List.set_cons_succ]); (try simp only [List.set_cons_zero]))
        refine wpAnyH_take (i := 24) (oi := { dst := some 59, op := Op.pick (Operand.tmp 56) (Operand.tmp 58) (Operand.const (Value.bool false)), type := 4, pos := "law.go:44", after := #[{ on := 21, ground := Ground.data }, { on := 23, ground := Ground.data }, { on := 18, ground := Ground.guard }], guard := some (18, false) }) (v := ?_) rfl (by kernel_rfl) (by kernel_rfl) (by kernel_rfl) (fun _ _ _ h => h) (Or.inl ⟨by rfl, ?_⟩) (by assumption) ?_
        rotate_left
        · (intro w hSw; (try dsimp only at hSw); go_simp; try with_reducible rfl)
        ((try simp only [Act.put]); (try simp only [List.setIfInBounds_toArray]); (try simp only [List.set_cons_succ]); (try simp only [List.set_cons_zero]))
        refine wpAnyH_take (i := 25) (oi := { dst := some 60, op := Op.pick (Operand.tmp 53) (Operand.const (Value.bool true)) (Operand.tmp 59), type := 4, pos := "law.go:44", after := #[{ on := 18, ground := Ground.data }, { on := 24, ground := Ground.data }], guard := none }) (v := ?_) rfl (by kernel_rfl) (by kernel_rfl) (by kernel_rfl) (fun _ _ _ h => h) (Or.inl ⟨by rfl, ?_⟩) (by assumption) ?_
        rotate_left
        · (intro w hSw; (try dsimp only at hSw); go_simp; try with_reducible rfl)
        ((try simp only [Act.put]); (try simp only [List.setIfInBounds_toArray]); (try simp only [List.set_cons_succ]); (try simp only [List.set_cons_zero]))
        refine wpAnyH_take (i := 26) (oi := { dst := some 61, op := Op.move (Operand.tmp 60), type := 4, pos := "law.go:44", after := #[{ on := 25, ground := Ground.data }, { on := 21, ground := Ground.chain }], guard := none }) (v := ?_) rfl (by kernel_rfl) (by kernel_rfl) (by kernel_rfl) (fun _ _ _ h => h) (Or.inl ⟨by rfl, ?_⟩) (by assumption) ?_
        rotate_left
        · (intro w hSw; (try dsimp only at hSw); go_simp; try with_reducible rfl)
        ((try simp only [Act.put]); (try simp only [List.setIfInBounds_toArray]); (try simp only [List.set_cons_succ]); (try simp only [List.set_cons_zero]))
        refine wpAnyH_take (i := 27) (oi := { dst := some 62, op := Op.fieldAddr 27 (Operand.tmp 6) 0, type := 0, pos := "law.go:44", after := #[{ on := 26, ground := Ground.guard }], guard := some (26, false) }) (v := ?_) rfl (by kernel_rfl) (by kernel_rfl) (by kernel_rfl) (fun _ _ _ h => h) (Or.inl ⟨by rfl, ?_⟩) (by assumption) ?_
        rotate_left
        · (intro w hSw; (try dsimp only at hSw); go_simp; try with_reducible rfl)
        ((try simp only [Act.put]); (try simp only [List.setIfInBounds_toArray]); (try simp only [List.set_cons_succ]); (try simp only [List.set_cons_zero]))
        refine wpAnyH_take (i := 28) (oi := { dst := some 63, op := Op.load 4 (Operand.tmp 62), type := 4, pos := "law.go:44", after := #[{ on := 27, ground := Ground.data }, { on := 26, ground := Ground.guard }], guard := some (26, false) }) (v := ?_) rfl (by kernel_rfl) (by kernel_rfl) (by kernel_rfl) (fun _ _ _ h => h) (Or.inl ⟨by rfl, ?_⟩) (by assumption) ?_
        rotate_left
        · (intro w hSw; (try dsimp only at hSw); go_simp; try with_reducible rfl)
        ((try simp only [Act.put]); (try simp only [List.setIfInBounds_toArray]); (try simp only [List.set_cons_succ]); (try simp only [List.set_cons_zero]))
        refine wpAnyH_take (i := 29) (oi := { dst := some 64, op := Op.fieldAddr 32 (Operand.tmp 8) 0, type := 0, pos := "law.go:44", after := #[{ on := 26, ground := Ground.guard }], guard := some (26, false) }) (v := ?_) rfl (by kernel_rfl) (by kernel_rfl) (by kernel_rfl) (fun _ _ _ h => h) (Or.inl ⟨by rfl, ?_⟩) (by assumption) ?_
        rotate_left
        · (intro w hSw; (try dsimp only at hSw); go_simp; try with_reducible rfl)
        ((try simp only [Act.put]); (try simp only [List.setIfInBounds_toArray]); (try simp only [List.set_cons_succ]); (try simp only [List.set_cons_zero]))
        refine wpAnyH_take (i := 30) (oi := { dst := some 65, op := Op.load 4 (Operand.tmp 64), type := 4, pos := "law.go:44", after := #[{ on := 29, ground := Ground.data }, { on := 26, ground := Ground.guard }], guard := some (26, false) }) (v := ?_) rfl (by kernel_rfl) (by kernel_rfl) (by kernel_rfl) (fun _ _ _ h => h) (Or.inl ⟨by rfl, ?_⟩) (by assumption) ?_
        rotate_left
        · (intro w hSw; (try dsimp only at hSw); go_simp; try with_reducible rfl)
        ((try simp only [Act.put]); (try simp only [List.setIfInBounds_toArray]); (try simp only [List.set_cons_succ]); (try simp only [List.set_cons_zero]))
        refine wpAnyH_take (i := 31) (oi := { dst := some 66, op := Op.binOp BinOp.neq 4 (Operand.tmp 63) (Operand.tmp 65) 4, type := 4, pos := "law.go:44", after := #[{ on := 28, ground := Ground.data }, { on := 30, ground := Ground.data }, { on := 26, ground := Ground.guard }], guard := some (26, false) }) (v := ?_) rfl (by kernel_rfl) (by kernel_rfl) (by kernel_rfl) (fun _ _ _ h => h) (Or.inl ⟨by rfl, ?_⟩) (by assumption) ?_
        rotate_left
        · (intro w hSw; (try dsimp only at hSw); go_simp; try with_reducible rfl)
        ((try simp only [Act.put]); (try simp only [List.setIfInBounds_toArray]); (try simp only [List.set_cons_succ]); (try simp only [List.set_cons_zero]))
        refine wpAnyH_take (i := 32) (oi := { dst := some 67, op := Op.pick (Operand.tmp 61) (Operand.const (Value.bool true)) (Operand.tmp 66), type := 4, pos := "law.go:44", after := #[{ on := 26, ground := Ground.data }, { on := 31, ground := Ground.data }], guard := none }) (v := ?_) rfl (by kernel_rfl) (by kernel_rfl) (by kernel_rfl) (fun _ _ _ h => h) (Or.inl ⟨by rfl, ?_⟩) (by assumption) ?_
        rotate_left
        · (intro w hSw; (try dsimp only at hSw); go_simp; try with_reducible rfl)
        ((try simp only [Act.put]); (try simp only [List.setIfInBounds_toArray]); (try simp only [List.set_cons_succ]); (try simp only [List.set_cons_zero]))
        refine wpAnyH_take (i := 33) (oi := { dst := some 68, op := Op.move (Operand.tmp 67), type := 4, pos := "law.go:44", after := #[{ on := 32, ground := Ground.data }, { on := 26, ground := Ground.chain }], guard := none }) (v := ?_) rfl (by kernel_rfl) (by kernel_rfl) (by kernel_rfl) (fun _ _ _ h => h) (Or.inl ⟨by rfl, ?_⟩) (by assumption) ?_
        rotate_left
        · (intro w hSw; (try dsimp only at hSw); go_simp; try with_reducible rfl)
        ((try simp only [Act.put]); (try simp only [List.setIfInBounds_toArray]); (try simp only [List.set_cons_succ]); (try simp only [List.set_cons_zero]))
        refine wpAnyH_take (i := 34) (oi := { dst := some 69, op := Op.fieldAddr 27 (Operand.tmp 6) 1, type := 0, pos := "law.go:44", after := #[{ on := 33, ground := Ground.guard }], guard := some (33, false) }) (v := ?_) rfl (by kernel_rfl) (by kernel_rfl) (by kernel_rfl) (fun _ _ _ h => h) (Or.inl ⟨by rfl, ?_⟩) (by assumption) ?_
        rotate_left
        · (intro w hSw; (try dsimp only at hSw); go_simp; try with_reducible rfl)
        ((try simp only [Act.put]); (try simp only [List.setIfInBounds_toArray]); (try simp only [List.set_cons_succ]); (try simp only [List.set_cons_zero]))
        refine wpAnyH_take (i := 35) (oi := { dst := some 70, op := Op.load 25 (Operand.tmp 69), type := 25, pos := "law.go:44", after := #[{ on := 34, ground := Ground.data }, { on := 33, ground := Ground.guard }], guard := some (33, false) }) (v := ?_) rfl (by kernel_rfl) (by kernel_rfl) (by kernel_rfl) (fun _ _ _ h => h) (Or.inl ⟨by rfl, ?_⟩) (by assumption) ?_
        rotate_left
        · (intro w hSw; (try dsimp only at hSw); go_simp; try with_reducible rfl)
        ((try simp only [Act.put]); (try simp only [List.setIfInBounds_toArray]); (try simp only [List.set_cons_succ]); (try simp only [List.set_cons_zero]))
        refine wpAnyH_take (i := 36) (oi := { dst := some 71, op := Op.fieldAddr 32 (Operand.tmp 8) 1, type := 0, pos := "law.go:44", after := #[{ on := 33, ground := Ground.guard }], guard := some (33, false) }) (v := ?_) rfl (by kernel_rfl) (by kernel_rfl) (by kernel_rfl) (fun _ _ _ h => h) (Or.inl ⟨by rfl, ?_⟩) (by assumption) ?_
        rotate_left
        · (intro w hSw; (try dsimp only at hSw); go_simp; try with_reducible rfl)
        ((try simp only [Act.put]); (try simp only [List.setIfInBounds_toArray]); (try simp only [List.set_cons_succ]); (try simp only [List.set_cons_zero]))
        refine wpAnyH_take (i := 37) (oi := { dst := some 72, op := Op.load 25 (Operand.tmp 71), type := 25, pos := "law.go:44", after := #[{ on := 36, ground := Ground.data }, { on := 33, ground := Ground.guard }], guard := some (33, false) }) (v := ?_) rfl (by kernel_rfl) (by kernel_rfl) (by kernel_rfl) (fun _ _ _ h => h) (Or.inl ⟨by rfl, ?_⟩) (by assumption) ?_
        rotate_left
        · (intro w hSw; (try dsimp only at hSw); go_simp; try with_reducible rfl)
        ((try simp only [Act.put]); (try simp only [List.setIfInBounds_toArray]); (try simp only [List.set_cons_succ]); (try simp only [List.set_cons_zero]))
        refine wpAnyH_take (i := 38) (oi := { dst := some 73, op := Op.binOp BinOp.neq 25 (Operand.tmp 70) (Operand.tmp 72) 25, type := 4, pos := "law.go:44", after := #[{ on := 35, ground := Ground.data }, { on := 37, ground := Ground.data }, { on := 33, ground := Ground.guard }], guard := some (33, false) }) (v := ?_) rfl (by kernel_rfl) (by kernel_rfl) (by kernel_rfl) (fun _ _ _ h => h) (Or.inl ⟨by rfl, ?_⟩) (by assumption) ?_
        rotate_left
        · (intro w hSw; (try dsimp only at hSw); go_simp; try with_reducible rfl)
        ((try simp only [Act.put]); (try simp only [List.setIfInBounds_toArray]); (try simp only [List.set_cons_succ]); (try simp only [List.set_cons_zero]))
        refine wpAnyH_take (i := 39) (oi := { dst := some 74, op := Op.pick (Operand.tmp 68) (Operand.const (Value.bool true)) (Operand.tmp 73), type := 4, pos := "law.go:44", after := #[{ on := 33, ground := Ground.data }, { on := 38, ground := Ground.data }], guard := none }) (v := ?_) rfl (by kernel_rfl) (by kernel_rfl) (by kernel_rfl) (fun _ _ _ h => h) (Or.inl ⟨by rfl, ?_⟩) (by assumption) ?_
        rotate_left
        · (intro w hSw; (try dsimp only at hSw); go_simp; try with_reducible rfl)
        ((try simp only [Act.put]); (try simp only [List.setIfInBounds_toArray]); (try simp only [List.set_cons_succ]); (try simp only [List.set_cons_zero]))
        refine wpAnyH_take (i := 40) (oi := { dst := some 75, op := Op.move (Operand.tmp 74), type := 4, pos := "law.go:44", after := #[{ on := 39, ground := Ground.data }, { on := 33, ground := Ground.chain }], guard := none }) (v := ?_) rfl (by kernel_rfl) (by kernel_rfl) (by kernel_rfl) (fun _ _ _ h => h) (Or.inl ⟨by rfl, ?_⟩) (by assumption) ?_
        rotate_left
        · (intro w hSw; (try dsimp only at hSw); go_simp; try with_reducible rfl)
        ((try simp only [Act.put]); (try simp only [List.setIfInBounds_toArray]); (try simp only [List.set_cons_succ]); (try simp only [List.set_cons_zero]))
        refine wpAnyH_take (i := 41) (oi := { dst := some 76, op := Op.fieldAddr 27 (Operand.tmp 6) 2, type := 0, pos := "law.go:44", after := #[{ on := 40, ground := Ground.guard }], guard := some (40, false) }) (v := ?_) rfl (by kernel_rfl) (by kernel_rfl) (by kernel_rfl) (fun _ _ _ h => h) (Or.inl ⟨by rfl, ?_⟩) (by assumption) ?_
        rotate_left
        · (intro w hSw; (try dsimp only at hSw); go_simp; try with_reducible rfl)
        ((try simp only [Act.put]); (try simp only [List.setIfInBounds_toArray]); (try simp only [List.set_cons_succ]); (try simp only [List.set_cons_zero]))
        refine wpAnyH_take (i := 42) (oi := { dst := some 77, op := Op.load 23 (Operand.tmp 76), type := 23, pos := "law.go:44", after := #[{ on := 41, ground := Ground.data }, { on := 40, ground := Ground.guard }], guard := some (40, false) }) (v := ?_) rfl (by kernel_rfl) (by kernel_rfl) (by kernel_rfl) (fun _ _ _ h => h) (Or.inl ⟨by rfl, ?_⟩) (by assumption) ?_
        rotate_left
        · (intro w hSw; (try dsimp only at hSw); go_simp; try with_reducible rfl)
        ((try simp only [Act.put]); (try simp only [List.setIfInBounds_toArray]); (try simp only [List.set_cons_succ]); (try simp only [List.set_cons_zero]))
        refine wpAnyH_take (i := 44) (oi := { dst := some 79, op := Op.fieldAddr 32 (Operand.tmp 8) 2, type := 0, pos := "law.go:44", after := #[{ on := 40, ground := Ground.guard }], guard := some (40, false) }) (v := ?_) rfl (by kernel_rfl) (by kernel_rfl) (by kernel_rfl) (fun _ _ _ h => h) (Or.inl ⟨by rfl, ?_⟩) (by assumption) ?_
        rotate_left
        · (intro w hSw; (try dsimp only at hSw); go_simp; try with_reducible rfl)
        ((try simp only [Act.put]); (try simp only [List.setIfInBounds_toArray]); (try simp only [List.set_cons_succ]); (try simp only [List.set_cons_zero]))
        refine wpAnyH_take (i := 45) (oi := { dst := some 80, op := Op.load 23 (Operand.tmp 79), type := 23, pos := "law.go:44", after := #[{ on := 44, ground := Ground.data }, { on := 40, ground := Ground.guard }], guard := some (40, false) }) (v := ?_) rfl (by kernel_rfl) (by kernel_rfl) (by kernel_rfl) (fun _ _ _ h => h) (Or.inl ⟨by rfl, ?_⟩) (by assumption) ?_
        rotate_left
        · (intro w hSw; (try dsimp only at hSw); go_simp; try with_reducible rfl)
        ((try simp only [Act.put]); (try simp only [List.setIfInBounds_toArray]); (try simp only [List.set_cons_succ]); (try simp only [List.set_cons_zero]))
        refine wpAnyH_ready (rs := [43, 46]) (by kernel_rfl) (by simp) ?_
        refine AllReadyH.cons (o := { dst := some 78, op := Op.convert 23 9 (Operand.tmp 77), type := 9, pos := "law.go:44", after := #[{ on := 42, ground := Ground.data }, { on := 40, ground := Ground.guard }], guard := some (40, false) }) rfl (fun K hK => ?_) (AllReadyH.cons (o := { dst := some 81, op := Op.convert 23 9 (Operand.tmp 80), type := 9, pos := "law.go:44", after := #[{ on := 45, ground := Ground.data }, { on := 40, ground := Ground.guard }], guard := some (40, false) }) rfl (fun K hK => ?_) AllReadyH.nil)
        · skip
          have cv := conv_any hHeld.2.2.2.2.2.2.2.2.2.2.1.out.sl rfl
          go_simp
          clear cv
          try go_wp2_with fail
          refine hK.out _ _ ?_ (fun hNew => ?_)
          · first | exact hHeld | exact three3 (Fun.of hb hHeld.2.2.2.2.2.2.2.2.2.1) (Fun.of hb hHeld.2.2.2.2.2.2.2.2.2.2.1) (Fun.of hb hHeld.2.2.2.2.2.2.2.2.2.2.2.1) (Lib.hid (hHeld.2.2.2.2.2.2.2.2.2.2.2.2.out.below hb))
          clear hK K
          replace hHeld := hNew
          clear hNew
          ((try simp only [Act.put]); (try simp only [List.setIfInBounds_toArray]); (try simp only [List.set_cons_succ]); (try simp only [List.set_cons_zero]))
          refine wpAnyH_ready (rs := [46]) (by kernel_rfl) (by simp) ?_
          refine AllReadyH.cons (o := { dst := some 81, op := Op.convert 23 9 (Operand.tmp 80), type := 9, pos := "law.go:44", after := #[{ on := 45, ground := Ground.data }, { on := 40, ground := Ground.guard }], guard := some (40, false) }) rfl (fun K hK => ?_) AllReadyH.nil
          have cv := conv_any hHeld.2.2.2.2.2.2.2.2.2.2.2.1.out.sl rfl
          go_simp
          clear cv
          try go_wp2_with fail
          refine hK.out _ _ ?_ (fun hNew => ?_)
          · first | exact hHeld | exact three3 (Fun.of hb hHeld.2.2.2.2.2.2.2.2.2.1) (Fun.of hb hHeld.2.2.2.2.2.2.2.2.2.2.1) (Fun.of hb hHeld.2.2.2.2.2.2.2.2.2.2.2.1) (Lib.hid (hHeld.2.2.2.2.2.2.2.2.2.2.2.2.out.below hb))
          clear hK K
          replace hHeld := hNew
          clear hNew
          ((try simp only [Act.put]); (try simp only [List.setIfInBounds_toArray]); (try simp only [List.set_cons_succ]); (try simp only [List.set_cons_zero]))
          refine wpAnyH_take (i := 47) (oi := { dst := some 82, op := Op.binOp BinOp.neq 9 (Operand.tmp 78) (Operand.tmp 81) 9, type := 4, pos := "law.go:44", after := #[{ on := 43, ground := Ground.data }, { on := 46, ground := Ground.data }, { on := 40, ground := Ground.guard }], guard := some (40, false) }) (v := ?_) rfl (by kernel_rfl) (by kernel_rfl) (by kernel_rfl) (fun _ _ _ h => h) (Or.inl ⟨by rfl, ?_⟩) (by assumption) ?_
          rotate_left
          · (intro w hSw; (try dsimp only at hSw); go_simp; try with_reducible rfl)
          ((try simp only [Act.put]); (try simp only [List.setIfInBounds_toArray]); (try simp only [List.set_cons_succ]); (try simp only [List.set_cons_zero]))
          refine wpAnyH_take (i := 48) (oi := { dst := some 83, op := Op.pick (Operand.tmp 75) (Operand.const (Value.bool true)) (Operand.tmp 82), type := 4, pos := "law.go:44", after := #[{ on := 40, ground := Ground.data }, { on := 47, ground := Ground.data }], guard := none }) (v := ?_) rfl (by kernel_rfl) (by kernel_rfl) (by kernel_rfl) (fun _ _ _ h => h) (Or.inl ⟨by rfl, ?_⟩) (by assumption) ?_
          rotate_left
          · (intro w hSw; (try dsimp only at hSw); go_simp; try with_reducible rfl)
          ((try simp only [Act.put]); (try simp only [List.setIfInBounds_toArray]); (try simp only [List.set_cons_succ]); (try simp only [List.set_cons_zero]))
          refine wpAnyH_done (by kernel_rfl) ?_ _
          refine NoPanic.normal ?_
          have X7 := hHeld.2.2.2.2.2.2.2.2.2.1
          have SP7 := hHeld.2.2.2.2.2.2.2.2.2.2.2.2
          clear hHeld X6 Y5 Z5 SP5
          obtain ⟨j0, j1, j2⟩ := X7.out.bx
          by_cases l4 : q = []
          · subst l4
            go_wp2_with fail
            go_ret
            exact ⟨rfl, X7.out.be⟩
          have d4 : ((q.length : Int) == 0) = false := by simp [l4]
          have G1 := Lib.hid (show goodF f = true by
            cases hg : goodF f with
            | true => rfl
            | false => exact absurd (by rw [← E.out]; unfold bytesF; rw [hg]; rfl) l4)
          have P1 := Lib.hid (show putF f = q by rw [← E.out]; unfold bytesF; rw [G1.out]; rfl)
          have QL := Lib.hid (show q.length ≤ 1000000 by have := (putF_len O.out G1.out).2; rw [P1.out] at this; omega)
          have GP := Lib.hid (show okF q = true ∧ gotF q = f by rw [← P1.out]; exact gotF_put O.out G1.out)
          clear l4
          go_wp2_with fail
          refine (fget_of SP7.out rfl QL.out GP.out.2 GP.out.1).mono ?_
          rintro e w8 ⟨b8, c8, rfl, hs8, hb, _⟩
          have X8 := Fun.alloc (o := .cells (frmA f b8 c8) 27) (Fun.of hb X7)
          have Z8 := Fun.lay X7.out.be X7.out.le hb hs8 27
          clear hb hs8 X7 j0 j1 j2
          obtain ⟨j0, j1, j2⟩ := X8.out.bx
          obtain ⟨i0, i1, i2⟩ := Z8.out.bx
          have cf := conv_any X8.out.sl rfl
          have cg := conv_any Z8.out.sl rfl
          go_wp2_with fail
          go_ret
          exact ⟨rfl, X8.out.be⟩
        · skip
          have cv := conv_any hHeld.2.2.2.2.2.2.2.2.2.2.2.1.out.sl rfl
          go_simp
          clear cv
          try go_wp2_with fail
          refine hK.out _ _ ?_ (fun hNew => ?_)
          · first | exact hHeld | exact three3 (Fun.of hb hHeld.2.2.2.2.2.2.2.2.2.1) (Fun.of hb hHeld.2.2.2.2.2.2.2.2.2.2.1) (Fun.of hb hHeld.2.2.2.2.2.2.2.2.2.2.2.1) (Lib.hid (hHeld.2.2.2.2.2.2.2.2.2.2.2.2.out.below hb))
          clear hK K
          replace hHeld := hNew
          clear hNew
          ((try simp only [Act.put]); (try simp only [List.setIfInBounds_toArray]); (try simp only [List.set_cons_succ]); (try simp only [List.set_cons_zero]))
          refine wpAnyH_ready (rs := [43]) (by kernel_rfl) (by simp) ?_
          refine AllReadyH.cons (o := { dst := some 78, op := Op.convert 23 9 (Operand.tmp 77), type := 9, pos := "law.go:44", after := #[{ on := 42, ground := Ground.data }, { on := 40, ground := Ground.guard }], guard := some (40, false) }) rfl (fun K hK => ?_) AllReadyH.nil
          have cv := conv_any hHeld.2.2.2.2.2.2.2.2.2.2.1.out.sl rfl
          go_simp
          clear cv
          try go_wp2_with fail
          refine hK.out _ _ ?_ (fun hNew => ?_)
          · first | exact hHeld | exact three3 (Fun.of hb hHeld.2.2.2.2.2.2.2.2.2.1) (Fun.of hb hHeld.2.2.2.2.2.2.2.2.2.2.1) (Fun.of hb hHeld.2.2.2.2.2.2.2.2.2.2.2.1) (Lib.hid (hHeld.2.2.2.2.2.2.2.2.2.2.2.2.out.below hb))
          clear hK K
          replace hHeld := hNew
          clear hNew
          ((try simp only [Act.put]); (try simp only [List.setIfInBounds_toArray]); (try simp only [List.set_cons_succ]); (try simp only [List.set_cons_zero]))
          refine wpAnyH_take (i := 47) (oi := { dst := some 82, op := Op.binOp BinOp.neq 9 (Operand.tmp 78) (Operand.tmp 81) 9, type := 4, pos := "law.go:44", after := #[{ on := 43, ground := Ground.data }, { on := 46, ground := Ground.data }, { on := 40, ground := Ground.guard }], guard := some (40, false) }) (v := ?_) rfl (by kernel_rfl) (by kernel_rfl) (by kernel_rfl) (fun _ _ _ h => h) (Or.inl ⟨by rfl, ?_⟩) (by assumption) ?_
          rotate_left
          · (intro w hSw; (try dsimp only at hSw); go_simp; try with_reducible rfl)
          ((try simp only [Act.put]); (try simp only [List.setIfInBounds_toArray]); (try simp only [List.set_cons_succ]); (try simp only [List.set_cons_zero]))
          refine wpAnyH_take (i := 48) (oi := { dst := some 83, op := Op.pick (Operand.tmp 75) (Operand.const (Value.bool true)) (Operand.tmp 82), type := 4, pos := "law.go:44", after := #[{ on := 40, ground := Ground.data }, { on := 47, ground := Ground.data }], guard := none }) (v := ?_) rfl (by kernel_rfl) (by kernel_rfl) (by kernel_rfl) (fun _ _ _ h => h) (Or.inl ⟨by rfl, ?_⟩) (by assumption) ?_
          rotate_left
          · (intro w hSw; (try dsimp only at hSw); go_simp; try with_reducible rfl)
          ((try simp only [Act.put]); (try simp only [List.setIfInBounds_toArray]); (try simp only [List.set_cons_succ]); (try simp only [List.set_cons_zero]))
          refine wpAnyH_done (by kernel_rfl) ?_ _
          refine NoPanic.normal ?_
          have X7 := hHeld.2.2.2.2.2.2.2.2.2.1
          have SP7 := hHeld.2.2.2.2.2.2.2.2.2.2.2.2
          clear hHeld X6 Y5 Z5 SP5
          obtain ⟨j0, j1, j2⟩ := X7.out.bx
          by_cases l4 : q = []
          · subst l4
            go_wp2_with fail
            go_ret
            exact ⟨rfl, X7.out.be⟩
          have d4 : ((q.length : Int) == 0) = false := by simp [l4]
          have G1 := Lib.hid (show goodF f = true by
            cases hg : goodF f with
            | true => rfl
            | false => exact absurd (by rw [← E.out]; unfold bytesF; rw [hg]; rfl) l4)
          have P1 := Lib.hid (show putF f = q by rw [← E.out]; unfold bytesF; rw [G1.out]; rfl)
          have QL := Lib.hid (show q.length ≤ 1000000 by have := (putF_len O.out G1.out).2; rw [P1.out] at this; omega)
          have GP := Lib.hid (show okF q = true ∧ gotF q = f by rw [← P1.out]; exact gotF_put O.out G1.out)
          clear l4
          go_wp2_with fail
          refine (fget_of SP7.out rfl QL.out GP.out.2 GP.out.1).mono ?_
          rintro e w8 ⟨b8, c8, rfl, hs8, hb, _⟩
          have X8 := Fun.alloc (o := .cells (frmA f b8 c8) 27) (Fun.of hb X7)
          have Z8 := Fun.lay X7.out.be X7.out.le hb hs8 27
          clear hb hs8 X7 j0 j1 j2
          obtain ⟨j0, j1, j2⟩ := X8.out.bx
          obtain ⟨i0, i1, i2⟩ := Z8.out.bx
          have cf := conv_any X8.out.sl rfl
          have cg := conv_any Z8.out.sl rfl
          go_wp2_with fail
          go_ret
          exact ⟨rfl, X8.out.be⟩
      · skip
        have cv := CQ.out
        go_simp
        clear cv
        try go_wp2_with fail
        refine hK.out _ _ ?_ (fun hNew => ?_)
        · first | exact hHeld | exact three3 (Fun.of hb hHeld.2.2.2.2.2.2.2.2.2.1) (Fun.of hb hHeld.2.2.2.2.2.2.2.2.2.2.1) (Fun.of hb hHeld.2.2.2.2.2.2.2.2.2.2.2.1) (Lib.hid (hHeld.2.2.2.2.2.2.2.2.2.2.2.2.out.below hb))
        clear hK K
        replace hHeld := hNew
        clear hNew
        ((try simp only [Act.put]); (try simp only [List.setIfInBounds_toArray]); (try simp only [List.set_cons_succ]); (try simp only [List.set_cons_zero]))
        refine wpAnyH_ready (rs := [1]) (by kernel_rfl) (by simp) ?_
        refine AllReadyH.cons (o := { dst := some 36, op := Op.convert 23 9 (Operand.tmp 35), type := 9, pos := "law.go:44", after := #[{ on := 0, ground := Ground.data }], guard := none }) rfl (fun K hK => ?_) AllReadyH.nil
        have cv := conv_any hHeld.2.2.2.2.2.2.2.2.2.2.2.2.out rfl
        go_simp
        clear cv
        try go_wp2_with fail
        refine hK.out _ _ ?_ (fun hNew => ?_)
        · first | exact hHeld | exact three3 (Fun.of hb hHeld.2.2.2.2.2.2.2.2.2.1) (Fun.of hb hHeld.2.2.2.2.2.2.2.2.2.2.1) (Fun.of hb hHeld.2.2.2.2.2.2.2.2.2.2.2.1) (Lib.hid (hHeld.2.2.2.2.2.2.2.2.2.2.2.2.out.below hb))
        clear hK K
        replace hHeld := hNew
        clear hNew
        ((try simp only [Act.put]); (try simp only [List.setIfInBounds_toArray]); (try simp only [List.set_cons_succ]); (try simp only [List.set_cons_zero]))
        refine wpAnyH_take (i := 11) (oi := { dst := some 46, op := Op.binOp BinOp.neq 9 (Operand.tmp 36) (Operand.tmp 45) 9, type := 4, pos := "law.go:44", after := #[{ on := 1, ground := Ground.data }, { on := 10, ground := Ground.data }], guard := none }) (v := ?_) rfl (by kernel_rfl) (by kernel_rfl) (by kernel_rfl) (fun _ _ _ h => h) (Or.inl ⟨by rfl, ?_⟩) (by assumption) ?_
        rotate_left
        · (intro w hSw; (try dsimp only at hSw); go_simp; try with_reducible rfl)
        ((try simp only [Act.put]); (try simp only [List.setIfInBounds_toArray]); (try simp only [List.set_cons_succ]); (try simp only [List.set_cons_zero]))
        refine wpAnyH_take (i := 12) (oi := { dst := some 47, op := Op.move (Operand.tmp 46), type := 4, pos := "law.go:44", after := #[{ on := 11, ground := Ground.data }, { on := 9, ground := Ground.chain }], guard := none }) (v := ?_) rfl (by kernel_rfl) (by kernel_rfl) (by kernel_rfl) (fun _ _ _ h => h) (Or.inl ⟨by rfl, ?_⟩) (by assumption) ?_
        rotate_left
        · (intro w hSw; (try dsimp only at hSw); go_simp; try with_reducible rfl)
        ((try simp only [Act.put]); (try simp only [List.setIfInBounds_toArray]); (try simp only [List.set_cons_succ]); (try simp only [List.set_cons_zero]))
        refine wpAnyH_take (i := 13) (oi := { dst := some 48, op := Op.move (Operand.tmp 7), type := 28, pos := "law.go:44", after := #[{ on := 12, ground := Ground.guard }], guard := some (12, false) }) (v := ?_) rfl (by kernel_rfl) (by kernel_rfl) (by kernel_rfl) (fun _ _ _ h => h) (Or.inl ⟨by rfl, ?_⟩) (by assumption) ?_
        rotate_left
        · (intro w hSw; (try dsimp only at hSw); go_simp; try with_reducible rfl)
        ((try simp only [Act.put]); (try simp only [List.setIfInBounds_toArray]); (try simp only [List.set_cons_succ]); (try simp only [List.set_cons_zero]))
        refine wpAnyH_take (i := 14) (oi := { dst := some 49, op := Op.binOp BinOp.eql 28 (Operand.tmp 48) (Operand.const (Value.int IntKind.i64 0)) 28, type := 4, pos := "law.go:44", after := #[{ on := 13, ground := Ground.data }, { on := 12, ground := Ground.guard }], guard := some (12, false) }) (v := ?_) rfl (by kernel_rfl) (by kernel_rfl) (by kernel_rfl) (fun _ _ _ h => h) (Or.inl ⟨by rfl, ?_⟩) (by assumption) ?_
        rotate_left
        · (intro w hSw; (try dsimp only at hSw); go_simp; try with_reducible rfl)
        ((try simp only [Act.put]); (try simp only [List.setIfInBounds_toArray]); (try simp only [List.set_cons_succ]); (try simp only [List.set_cons_zero]))
        refine wpAnyH_take (i := 15) (oi := { dst := some 50, op := Op.move (Operand.tmp 9), type := 4, pos := "law.go:44", after := #[{ on := 12, ground := Ground.guard }], guard := some (12, false) }) (v := ?_) rfl (by kernel_rfl) (by kernel_rfl) (by kernel_rfl) (fun _ _ _ h => h) (Or.inl ⟨by rfl, ?_⟩) (by assumption) ?_
        rotate_left
        · (intro w hSw; (try dsimp only at hSw); go_simp; try with_reducible rfl)
        ((try simp only [Act.put]); (try simp only [List.setIfInBounds_toArray]); (try simp only [List.set_cons_succ]); (try simp only [List.set_cons_zero]))
        refine wpAnyH_take (i := 16) (oi := { dst := some 51, op := Op.binOp BinOp.neq 4 (Operand.tmp 49) (Operand.tmp 50) 4, type := 4, pos := "law.go:44", after := #[{ on := 14, ground := Ground.data }, { on := 15, ground := Ground.data }, { on := 12, ground := Ground.guard }], guard := some (12, false) }) (v := ?_) rfl (by kernel_rfl) (by kernel_rfl) (by kernel_rfl) (fun _ _ _ h => h) (Or.inl ⟨by rfl, ?_⟩) (by assumption) ?_
        rotate_left
        · (intro w hSw; (try dsimp only at hSw); go_simp; try with_reducible rfl)
        ((try simp only [Act.put]); (try simp only [List.setIfInBounds_toArray]); (try simp only [List.set_cons_succ]); (try simp only [List.set_cons_zero]))
        refine wpAnyH_take (i := 17) (oi := { dst := some 52, op := Op.pick (Operand.tmp 47) (Operand.const (Value.bool true)) (Operand.tmp 51), type := 4, pos := "law.go:44", after := #[{ on := 12, ground := Ground.data }, { on := 16, ground := Ground.data }], guard := none }) (v := ?_) rfl (by kernel_rfl) (by kernel_rfl) (by kernel_rfl) (fun _ _ _ h => h) (Or.inl ⟨by rfl, ?_⟩) (by assumption) ?_
        rotate_left
        · (intro w hSw; (try dsimp only at hSw); go_simp; try with_reducible rfl)
        ((try simp only [Act.put]); (try simp only [List.setIfInBounds_toArray]); (try simp only [List.set_cons_succ]); (try simp only [List.set_cons_zero]))
        refine wpAnyH_take (i := 18) (oi := { dst := some 53, op := Op.move (Operand.tmp 52), type := 4, pos := "law.go:44", after := #[{ on := 17, ground := Ground.data }, { on := 12, ground := Ground.chain }], guard := none }) (v := ?_) rfl (by kernel_rfl) (by kernel_rfl) (by kernel_rfl) (fun _ _ _ h => h) (Or.inl ⟨by rfl, ?_⟩) (by assumption) ?_
        rotate_left
        · (intro w hSw; (try dsimp only at hSw); go_simp; try with_reducible rfl)
        ((try simp only [Act.put]); (try simp only [List.setIfInBounds_toArray]); (try simp only [List.set_cons_succ]); (try simp only [List.set_cons_zero]))
        refine wpAnyH_take (i := 19) (oi := { dst := some 54, op := Op.move (Operand.tmp 9), type := 4, pos := "law.go:44", after := #[{ on := 18, ground := Ground.guard }], guard := some (18, false) }) (v := ?_) rfl (by kernel_rfl) (by kernel_rfl) (by kernel_rfl) (fun _ _ _ h => h) (Or.inl ⟨by rfl, ?_⟩) (by assumption) ?_
        rotate_left
        · (intro w hSw; (try dsimp only at hSw); go_simp; try with_reducible rfl)
        ((try simp only [Act.put]); (try simp only [List.setIfInBounds_toArray]); (try simp only [List.set_cons_succ]); (try simp only [List.set_cons_zero]))
        refine wpAnyH_take (i := 20) (oi := { dst := some 55, op := Op.unOp UnOp.not 4 (Operand.tmp 54), type := 4, pos := "law.go:44", after := #[{ on := 19, ground := Ground.data }, { on := 18, ground := Ground.guard }], guard := some (18, false) }) (v := ?_) rfl (by kernel_rfl) (by kernel_rfl) (by kernel_rfl) (fun _ _ _ h => h) (Or.inl ⟨by rfl, ?_⟩) (by assumption) ?_
        rotate_left
        · (intro w hSw; (try dsimp only at hSw); go_simp; try with_reducible rfl)
        ((try simp only [Act.put]); (try simp only [List.setIfInBounds_toArray]); (try simp only [List.set_cons_succ]); (try simp only [List.set_cons_zero]))
        refine wpAnyH_take (i := 21) (oi := { dst := some 56, op := Op.move (Operand.tmp 55), type := 4, pos := "law.go:44", after := #[{ on := 20, ground := Ground.data }, { on := 18, ground := Ground.chain }, { on := 18, ground := Ground.guard }], guard := some (18, false) }) (v := ?_) rfl (by kernel_rfl) (by kernel_rfl) (by kernel_rfl) (fun _ _ _ h => h) (Or.inl ⟨by rfl, ?_⟩) (by assumption) ?_
        rotate_left
        · (intro w hSw; (try dsimp only at hSw); go_simp; try with_reducible rfl)
        ((try simp only [Act.put]); (try simp only [List.setIfInBounds_toArray]); (try simp only [List.set_cons_succ]); (try simp only [List.set_cons_zero]))
        refine wpAnyH_take (i := 22) (oi := { dst := some 57, op := Op.move (Operand.tmp 7), type := 28, pos := "law.go:44", after := #[{ on := 21, ground := Ground.guard }], guard := some (21, true) }) (v := ?_) rfl (by kernel_rfl) (by kernel_rfl) (by kernel_rfl) (fun _ _ _ h => h) (Or.inl ⟨by rfl, ?_⟩) (by assumption) ?_
        rotate_left
        · (intro w hSw; (try dsimp only at hSw); go_simp; try with_reducible rfl)
        ((try simp only [Act.put]); (try simp only [List.setIfInBounds_toArray]); (try simp only [List.set_cons_succ]); (try simp only [List.set_cons_zero]))
        refine wpAnyH_take (i := 23) (oi := { dst := some 58, op := Op.binOp BinOp.neq 28 (Operand.tmp 57) (Operand.const (Value.int IntKind.i64 2)) 28, type := 4, pos := "law.go:44", after := #[{ on := 22, ground := Ground.data }, { on := 21, ground := Ground.guard }], guard := some (21, true) }) (v := ?_) rfl (by kernel_rfl) (by kernel_rfl) (by kernel_rfl) (fun _ _ _ h => h) (Or.inl ⟨by rfl, ?_⟩) (by assumption) ?_
        rotate_left
        · (intro w hSw; (try dsimp only at hSw); go_simp; try with_reducible rfl)
        ((try simp only [Act.put]); (try simp only [List.setIfInBounds_toArray]); (try simp only [List.set_cons_succ]); (try simp only [List.set_cons_zero]))
        refine wpAnyH_take (i := 24) (oi := { dst := some 59, op := Op.pick (Operand.tmp 56) (Operand.tmp 58) (Operand.const (Value.bool false)), type := 4, pos := "law.go:44", after := #[{ on := 21, ground := Ground.data }, { on := 23, ground := Ground.data }, { on := 18, ground := Ground.guard }], guard := some (18, false) }) (v := ?_) rfl (by kernel_rfl) (by kernel_rfl) (by kernel_rfl) (fun _ _ _ h => h) (Or.inl ⟨by rfl, ?_⟩) (by assumption) ?_
        rotate_left
        · (intro w hSw; (try dsimp only at hSw); go_simp; try with_reducible rfl)
        ((try simp only [Act.put]); (try simp only [List.setIfInBounds_toArray]); (try simp only [List.set_cons_succ]); (try simp only [List.set_cons_zero]))
        refine wpAnyH_take (i := 25) (oi := { dst := some 60, op := Op.pick (Operand.tmp 53) (Operand.const (Value.bool true)) (Operand.tmp 59), type := 4, pos := "law.go:44", after := #[{ on := 18, ground := Ground.data }, { on := 24, ground := Ground.data }], guard := none }) (v := ?_) rfl (by kernel_rfl) (by kernel_rfl) (by kernel_rfl) (fun _ _ _ h => h) (Or.inl ⟨by rfl, ?_⟩) (by assumption) ?_
        rotate_left
        · (intro w hSw; (try dsimp only at hSw); go_simp; try with_reducible rfl)
        ((try simp only [Act.put]); (try simp only [List.setIfInBounds_toArray]); (try simp only [List.set_cons_succ]); (try simp only [List.set_cons_zero]))
        refine wpAnyH_take (i := 26) (oi := { dst := some 61, op := Op.move (Operand.tmp 60), type := 4, pos := "law.go:44", after := #[{ on := 25, ground := Ground.data }, { on := 21, ground := Ground.chain }], guard := none }) (v := ?_) rfl (by kernel_rfl) (by kernel_rfl) (by kernel_rfl) (fun _ _ _ h => h) (Or.inl ⟨by rfl, ?_⟩) (by assumption) ?_
        rotate_left
        · (intro w hSw; (try dsimp only at hSw); go_simp; try with_reducible rfl)
        ((try simp only [Act.put]); (try simp only [List.setIfInBounds_toArray]); (try simp only [List.set_cons_succ]); (try simp only [List.set_cons_zero]))
        refine wpAnyH_take (i := 27) (oi := { dst := some 62, op := Op.fieldAddr 27 (Operand.tmp 6) 0, type := 0, pos := "law.go:44", after := #[{ on := 26, ground := Ground.guard }], guard := some (26, false) }) (v := ?_) rfl (by kernel_rfl) (by kernel_rfl) (by kernel_rfl) (fun _ _ _ h => h) (Or.inl ⟨by rfl, ?_⟩) (by assumption) ?_
        rotate_left
        · (intro w hSw; (try dsimp only at hSw); go_simp; try with_reducible rfl)
        ((try simp only [Act.put]); (try simp only [List.setIfInBounds_toArray]); (try simp only [List.set_cons_succ]); (try simp only [List.set_cons_zero]))
        refine wpAnyH_take (i := 28) (oi := { dst := some 63, op := Op.load 4 (Operand.tmp 62), type := 4, pos := "law.go:44", after := #[{ on := 27, ground := Ground.data }, { on := 26, ground := Ground.guard }], guard := some (26, false) }) (v := ?_) rfl (by kernel_rfl) (by kernel_rfl) (by kernel_rfl) (fun _ _ _ h => h) (Or.inl ⟨by rfl, ?_⟩) (by assumption) ?_
        rotate_left
        · (intro w hSw; (try dsimp only at hSw); go_simp; try with_reducible rfl)
        ((try simp only [Act.put]); (try simp only [List.setIfInBounds_toArray]); (try simp only [List.set_cons_succ]); (try simp only [List.set_cons_zero]))
        refine wpAnyH_take (i := 29) (oi := { dst := some 64, op := Op.fieldAddr 32 (Operand.tmp 8) 0, type := 0, pos := "law.go:44", after := #[{ on := 26, ground := Ground.guard }], guard := some (26, false) }) (v := ?_) rfl (by kernel_rfl) (by kernel_rfl) (by kernel_rfl) (fun _ _ _ h => h) (Or.inl ⟨by rfl, ?_⟩) (by assumption) ?_
        rotate_left
        · (intro w hSw; (try dsimp only at hSw); go_simp; try with_reducible rfl)
        ((try simp only [Act.put]); (try simp only [List.setIfInBounds_toArray]); (try simp only [List.set_cons_succ]); (try simp only [List.set_cons_zero]))
        refine wpAnyH_take (i := 30) (oi := { dst := some 65, op := Op.load 4 (Operand.tmp 64), type := 4, pos := "law.go:44", after := #[{ on := 29, ground := Ground.data }, { on := 26, ground := Ground.guard }], guard := some (26, false) }) (v := ?_) rfl (by kernel_rfl) (by kernel_rfl) (by kernel_rfl) (fun _ _ _ h => h) (Or.inl ⟨by rfl, ?_⟩) (by assumption) ?_
        rotate_left
        · (intro w hSw; (try dsimp only at hSw); go_simp; try with_reducible rfl)
        ((try simp only [Act.put]); (try simp only [List.setIfInBounds_toArray]); (try simp only [List.set_cons_succ]); (try simp only [List.set_cons_zero]))
        refine wpAnyH_take (i := 31) (oi := { dst := some 66, op := Op.binOp BinOp.neq 4 (Operand.tmp 63) (Operand.tmp 65) 4, type := 4, pos := "law.go:44", after := #[{ on := 28, ground := Ground.data }, { on := 30, ground := Ground.data }, { on := 26, ground := Ground.guard }], guard := some (26, false) }) (v := ?_) rfl (by kernel_rfl) (by kernel_rfl) (by kernel_rfl) (fun _ _ _ h => h) (Or.inl ⟨by rfl, ?_⟩) (by assumption) ?_
        rotate_left
        · (intro w hSw; (try dsimp only at hSw); go_simp; try with_reducible rfl)
        ((try simp only [Act.put]); (try simp only [List.setIfInBounds_toArray]); (try simp only [List.set_cons_succ]); (try simp only [List.set_cons_zero]))
        refine wpAnyH_take (i := 32) (oi := { dst := some 67, op := Op.pick (Operand.tmp 61) (Operand.const (Value.bool true)) (Operand.tmp 66), type := 4, pos := "law.go:44", after := #[{ on := 26, ground := Ground.data }, { on := 31, ground := Ground.data }], guard := none }) (v := ?_) rfl (by kernel_rfl) (by kernel_rfl) (by kernel_rfl) (fun _ _ _ h => h) (Or.inl ⟨by rfl, ?_⟩) (by assumption) ?_
        rotate_left
        · (intro w hSw; (try dsimp only at hSw); go_simp; try with_reducible rfl)
        ((try simp only [Act.put]); (try simp only [List.setIfInBounds_toArray]); (try simp only [List.set_cons_succ]); (try simp only [List.set_cons_zero]))
        refine wpAnyH_take (i := 33) (oi := { dst := some 68, op := Op.move (Operand.tmp 67), type := 4, pos := "law.go:44", after := #[{ on := 32, ground := Ground.data }, { on := 26, ground := Ground.chain }], guard := none }) (v := ?_) rfl (by kernel_rfl) (by kernel_rfl) (by kernel_rfl) (fun _ _ _ h => h) (Or.inl ⟨by rfl, ?_⟩) (by assumption) ?_
        rotate_left
        · (intro w hSw; (try dsimp only at hSw); go_simp; try with_reducible rfl)
        ((try simp only [Act.put]); (try simp only [List.setIfInBounds_toArray]); (try simp only [List.set_cons_succ]); (try simp only [List.set_cons_zero]))
        refine wpAnyH_take (i := 34) (oi := { dst := some 69, op := Op.fieldAddr 27 (Operand.tmp 6) 1, type := 0, pos := "law.go:44", after := #[{ on := 33, ground := Ground.guard }], guard := some (33, false) }) (v := ?_) rfl (by kernel_rfl) (by kernel_rfl) (by kernel_rfl) (fun _ _ _ h => h) (Or.inl ⟨by rfl, ?_⟩) (by assumption) ?_
        rotate_left
        · (intro w hSw; (try dsimp only at hSw); go_simp; try with_reducible rfl)
        ((try simp only [Act.put]); (try simp only [List.setIfInBounds_toArray]); (try simp only [List.set_cons_succ]); (try simp only [List.set_cons_zero]))
        refine wpAnyH_take (i := 35) (oi := { dst := some 70, op := Op.load 25 (Operand.tmp 69), type := 25, pos := "law.go:44", after := #[{ on := 34, ground := Ground.data }, { on := 33, ground := Ground.guard }], guard := some (33, false) }) (v := ?_) rfl (by kernel_rfl) (by kernel_rfl) (by kernel_rfl) (fun _ _ _ h => h) (Or.inl ⟨by rfl, ?_⟩) (by assumption) ?_
        rotate_left
        · (intro w hSw; (try dsimp only at hSw); go_simp; try with_reducible rfl)
        ((try simp only [Act.put]); (try simp only [List.setIfInBounds_toArray]); (try simp only [List.set_cons_succ]); (try simp only [List.set_cons_zero]))
        refine wpAnyH_take (i := 36) (oi := { dst := some 71, op := Op.fieldAddr 32 (Operand.tmp 8) 1, type := 0, pos := "law.go:44", after := #[{ on := 33, ground := Ground.guard }], guard := some (33, false) }) (v := ?_) rfl (by kernel_rfl) (by kernel_rfl) (by kernel_rfl) (fun _ _ _ h => h) (Or.inl ⟨by rfl, ?_⟩) (by assumption) ?_
        rotate_left
        · (intro w hSw; (try dsimp only at hSw); go_simp; try with_reducible rfl)
        ((try simp only [Act.put]); (try simp only [List.setIfInBounds_toArray]); (try simp only [List.set_cons_succ]); (try simp only [List.set_cons_zero]))
        refine wpAnyH_take (i := 37) (oi := { dst := some 72, op := Op.load 25 (Operand.tmp 71), type := 25, pos := "law.go:44", after := #[{ on := 36, ground := Ground.data }, { on := 33, ground := Ground.guard }], guard := some (33, false) }) (v := ?_) rfl (by kernel_rfl) (by kernel_rfl) (by kernel_rfl) (fun _ _ _ h => h) (Or.inl ⟨by rfl, ?_⟩) (by assumption) ?_
        rotate_left
        · (intro w hSw; (try dsimp only at hSw); go_simp; try with_reducible rfl)
        ((try simp only [Act.put]); (try simp only [List.setIfInBounds_toArray]); (try simp only [List.set_cons_succ]); (try simp only [List.set_cons_zero]))
        refine wpAnyH_take (i := 38) (oi := { dst := some 73, op := Op.binOp BinOp.neq 25 (Operand.tmp 70) (Operand.tmp 72) 25, type := 4, pos := "law.go:44", after := #[{ on := 35, ground := Ground.data }, { on := 37, ground := Ground.data }, { on := 33, ground := Ground.guard }], guard := some (33, false) }) (v := ?_) rfl (by kernel_rfl) (by kernel_rfl) (by kernel_rfl) (fun _ _ _ h => h) (Or.inl ⟨by rfl, ?_⟩) (by assumption) ?_
        rotate_left
        · (intro w hSw; (try dsimp only at hSw); go_simp; try with_reducible rfl)
        ((try simp only [Act.put]); (try simp only [List.setIfInBounds_toArray]); (try simp only [List.set_cons_succ]); (try simp only [List.set_cons_zero]))
        refine wpAnyH_take (i := 39) (oi := { dst := some 74, op := Op.pick (Operand.tmp 68) (Operand.const (Value.bool true)) (Operand.tmp 73), type := 4, pos := "law.go:44", after := #[{ on := 33, ground := Ground.data }, { on := 38, ground := Ground.data }], guard := none }) (v := ?_) rfl (by kernel_rfl) (by kernel_rfl) (by kernel_rfl) (fun _ _ _ h => h) (Or.inl ⟨by rfl, ?_⟩) (by assumption) ?_
        rotate_left
        · (intro w hSw; (try dsimp only at hSw); go_simp; try with_reducible rfl)
        ((try simp only [Act.put]); (try simp only [List.setIfInBounds_toArray]); (try simp only [List.set_cons_succ]); (try simp only [List.set_cons_zero]))
        refine wpAnyH_take (i := 40) (oi := { dst := some 75, op := Op.move (Operand.tmp 74), type := 4, pos := "law.go:44", after := #[{ on := 39, ground := Ground.data }, { on := 33, ground := Ground.chain }], guard := none }) (v := ?_) rfl (by kernel_rfl) (by kernel_rfl) (by kernel_rfl) (fun _ _ _ h => h) (Or.inl ⟨by rfl, ?_⟩) (by assumption) ?_
        rotate_left
        · (intro w hSw; (try dsimp only at hSw); go_simp; try with_reducible rfl)
        ((try simp only [Act.put]); (try simp only [List.setIfInBounds_toArray]); (try simp only [List.set_cons_succ]); (try simp only [List.set_cons_zero]))
        refine wpAnyH_take (i := 41) (oi := { dst := some 76, op := Op.fieldAddr 27 (Operand.tmp 6) 2, type := 0, pos := "law.go:44", after := #[{ on := 40, ground := Ground.guard }], guard := some (40, false) }) (v := ?_) rfl (by kernel_rfl) (by kernel_rfl) (by kernel_rfl) (fun _ _ _ h => h) (Or.inl ⟨by rfl, ?_⟩) (by assumption) ?_
        rotate_left
        · (intro w hSw; (try dsimp only at hSw); go_simp; try with_reducible rfl)
        ((try simp only [Act.put]); (try simp only [List.setIfInBounds_toArray]); (try simp only [List.set_cons_succ]); (try simp only [List.set_cons_zero]))
        refine wpAnyH_take (i := 42) (oi := { dst := some 77, op := Op.load 23 (Operand.tmp 76), type := 23, pos := "law.go:44", after := #[{ on := 41, ground := Ground.data }, { on := 40, ground := Ground.guard }], guard := some (40, false) }) (v := ?_) rfl (by kernel_rfl) (by kernel_rfl) (by kernel_rfl) (fun _ _ _ h => h) (Or.inl ⟨by rfl, ?_⟩) (by assumption) ?_
        rotate_left
        · (intro w hSw; (try dsimp only at hSw); go_simp; try with_reducible rfl)
        ((try simp only [Act.put]); (try simp only [List.setIfInBounds_toArray]); (try simp only [List.set_cons_succ]); (try simp only [List.set_cons_zero]))
        refine wpAnyH_take (i := 44) (oi := { dst := some 79, op := Op.fieldAddr 32 (Operand.tmp 8) 2, type := 0, pos := "law.go:44", after := #[{ on := 40, ground := Ground.guard }], guard := some (40, false) }) (v := ?_) rfl (by kernel_rfl) (by kernel_rfl) (by kernel_rfl) (fun _ _ _ h => h) (Or.inl ⟨by rfl, ?_⟩) (by assumption) ?_
        rotate_left
        · (intro w hSw; (try dsimp only at hSw); go_simp; try with_reducible rfl)
        ((try simp only [Act.put]); (try simp only [List.setIfInBounds_toArray]); (try simp only [List.set_cons_succ]); (try simp only [List.set_cons_zero]))
        refine wpAnyH_take (i := 45) (oi := { dst := some 80, op := Op.load 23 (Operand.tmp 79), type := 23, pos := "law.go:44", after := #[{ on := 44, ground := Ground.data }, { on := 40, ground := Ground.guard }], guard := some (40, false) }) (v := ?_) rfl (by kernel_rfl) (by kernel_rfl) (by kernel_rfl) (fun _ _ _ h => h) (Or.inl ⟨by rfl, ?_⟩) (by assumption) ?_
        rotate_left
        · (intro w hSw; (try dsimp only at hSw); go_simp; try with_reducible rfl)
        ((try simp only [Act.put]); (try simp only [List.setIfInBounds_toArray]); (try simp only [List.set_cons_succ]); (try simp only [List.set_cons_zero]))
        refine wpAnyH_ready (rs := [43, 46]) (by kernel_rfl) (by simp) ?_
        refine AllReadyH.cons (o := { dst := some 78, op := Op.convert 23 9 (Operand.tmp 77), type := 9, pos := "law.go:44", after := #[{ on := 42, ground := Ground.data }, { on := 40, ground := Ground.guard }], guard := some (40, false) }) rfl (fun K hK => ?_) (AllReadyH.cons (o := { dst := some 81, op := Op.convert 23 9 (Operand.tmp 80), type := 9, pos := "law.go:44", after := #[{ on := 45, ground := Ground.data }, { on := 40, ground := Ground.guard }], guard := some (40, false) }) rfl (fun K hK => ?_) AllReadyH.nil)
        · skip
          have cv := conv_any hHeld.2.2.2.2.2.2.2.2.2.2.1.out.sl rfl
          go_simp
          clear cv
          try go_wp2_with fail
          refine hK.out _ _ ?_ (fun hNew => ?_)
          · first | exact hHeld | exact three3 (Fun.of hb hHeld.2.2.2.2.2.2.2.2.2.1) (Fun.of hb hHeld.2.2.2.2.2.2.2.2.2.2.1) (Fun.of hb hHeld.2.2.2.2.2.2.2.2.2.2.2.1) (Lib.hid (hHeld.2.2.2.2.2.2.2.2.2.2.2.2.out.below hb))
          clear hK K
          replace hHeld := hNew
          clear hNew
          ((try simp only [Act.put]); (try simp only [List.setIfInBounds_toArray]); (try simp only [List.set_cons_succ]); (try simp only [List.set_cons_zero]))
          refine wpAnyH_ready (rs := [46]) (by kernel_rfl) (by simp) ?_
          refine AllReadyH.cons (o := { dst := some 81, op := Op.convert 23 9 (Operand.tmp 80), type := 9, pos := "law.go:44", after := #[{ on := 45, ground := Ground.data }, { on := 40, ground := Ground.guard }], guard := some (40, false) }) rfl (fun K hK => ?_) AllReadyH.nil
          have cv := conv_any hHeld.2.2.2.2.2.2.2.2.2.2.2.1.out.sl rfl
          go_simp
          clear cv
          try go_wp2_with fail
          refine hK.out _ _ ?_ (fun hNew => ?_)
          · first | exact hHeld | exact three3 (Fun.of hb hHeld.2.2.2.2.2.2.2.2.2.1) (Fun.of hb hHeld.2.2.2.2.2.2.2.2.2.2.1) (Fun.of hb hHeld.2.2.2.2.2.2.2.2.2.2.2.1) (Lib.hid (hHeld.2.2.2.2.2.2.2.2.2.2.2.2.out.below hb))
          clear hK K
          replace hHeld := hNew
          clear hNew
          ((try simp only [Act.put]); (try simp only [List.setIfInBounds_toArray]); (try simp only [List.set_cons_succ]); (try simp only [List.set_cons_zero]))
          refine wpAnyH_take (i := 47) (oi := { dst := some 82, op := Op.binOp BinOp.neq 9 (Operand.tmp 78) (Operand.tmp 81) 9, type := 4, pos := "law.go:44", after := #[{ on := 43, ground := Ground.data }, { on := 46, ground := Ground.data }, { on := 40, ground := Ground.guard }], guard := some (40, false) }) (v := ?_) rfl (by kernel_rfl) (by kernel_rfl) (by kernel_rfl) (fun _ _ _ h => h) (Or.inl ⟨by rfl, ?_⟩) (by assumption) ?_
          rotate_left
          · (intro w hSw; (try dsimp only at hSw); go_simp; try with_reducible rfl)
          ((try simp only [Act.put]); (try simp only [List.setIfInBounds_toArray]); (try simp only [List.set_cons_succ]); (try simp only [List.set_cons_zero]))
          refine wpAnyH_take (i := 48) (oi := { dst := some 83, op := Op.pick (Operand.tmp 75) (Operand.const (Value.bool true)) (Operand.tmp 82), type := 4, pos := "law.go:44", after := #[{ on := 40, ground := Ground.data }, { on := 47, ground := Ground.data }], guard := none }) (v := ?_) rfl (by kernel_rfl) (by kernel_rfl) (by kernel_rfl) (fun _ _ _ h => h) (Or.inl ⟨by rfl, ?_⟩) (by assumption) ?_
          rotate_left
          · (intro w hSw; (try dsimp only at hSw); go_simp; try with_reducible rfl)
          ((try simp only [Act.put]); (try simp only [List.setIfInBounds_toArray]); (try simp only [List.set_cons_succ]); (try simp only [List.set_cons_zero]))
          refine wpAnyH_done (by kernel_rfl) ?_ _
          refine NoPanic.normal ?_
          have X7 := hHeld.2.2.2.2.2.2.2.2.2.1
          have SP7 := hHeld.2.2.2.2.2.2.2.2.2.2.2.2
          clear hHeld X6 Y5 Z5 SP5
          obtain ⟨j0, j1, j2⟩ := X7.out.bx
          by_cases l4 : q = []
          · subst l4
            go_wp2_with fail
            go_ret
            exact ⟨rfl, X7.out.be⟩
          have d4 : ((q.length : Int) == 0) = false := by simp [l4]
          have G1 := Lib.hid (show goodF f = true by
            cases hg : goodF f with
            | true => rfl
            | false => exact absurd (by rw [← E.out]; unfold bytesF; rw [hg]; rfl) l4)
          have P1 := Lib.hid (show putF f = q by rw [← E.out]; unfold bytesF; rw [G1.out]; rfl)
          have QL := Lib.hid (show q.length ≤ 1000000 by have := (putF_len O.out G1.out).2; rw [P1.out] at this; omega)
          have GP := Lib.hid (show okF q = true ∧ gotF q = f by rw [← P1.out]; exact gotF_put O.out G1.out)
          clear l4
          go_wp2_with fail
          refine (fget_of SP7.out rfl QL.out GP.out.2 GP.out.1).mono ?_
          rintro e w8 ⟨b8, c8, rfl, hs8, hb, _⟩
          have X8 := Fun.alloc (o := .cells (frmA f b8 c8) 27) (Fun.of hb X7)
          have Z8 := Fun.lay X7.out.be X7.out.le hb hs8 27
          clear hb hs8 X7 j0 j1 j2
          obtain ⟨j0, j1, j2⟩ := X8.out.bx
          obtain ⟨i0, i1, i2⟩ := Z8.out.bx
          have cf := conv_any X8.out.sl rfl
          have cg := conv_any Z8.out.sl rfl
          go_wp2_with fail
          go_ret
          exact ⟨rfl, X8.out.be⟩
        · skip
          have cv := conv_any hHeld.2.2.2.2.2.2.2.2.2.2.2.1.out.sl rfl
          go_simp
          clear cv
          try go_wp2_with fail
          refine hK.out _ _ ?_ (fun hNew => ?_)
          · first | exact hHeld | exact three3 (Fun.of hb hHeld.2.2.2.2.2.2.2.2.2.1) (Fun.of hb hHeld.2.2.2.2.2.2.2.2.2.2.1) (Fun.of hb hHeld.2.2.2.2.2.2.2.2.2.2.2.1) (Lib.hid (hHeld.2.2.2.2.2.2.2.2.2.2.2.2.out.below hb))
          clear hK K
          replace hHeld := hNew
          clear hNew
          ((try simp only [Act.put]); (try simp only [List.setIfInBounds_toArray]); (try simp only [List.set_cons_succ]); (try simp only [List.set_cons_zero]))
          refine wpAnyH_ready (rs := [43]) (by kernel_rfl) (by simp) ?_
          refine AllReadyH.cons (o := { dst := some 78, op := Op.convert 23 9 (Operand.tmp 77), type := 9, pos := "law.go:44", after := #[{ on := 42, ground := Ground.data }, { on := 40, ground := Ground.guard }], guard := some (40, false) }) rfl (fun K hK => ?_) AllReadyH.nil
          have cv := conv_any hHeld.2.2.2.2.2.2.2.2.2.2.1.out.sl rfl
          go_simp
          clear cv
          try go_wp2_with fail
          refine hK.out _ _ ?_ (fun hNew => ?_)
          · first | exact hHeld | exact three3 (Fun.of hb hHeld.2.2.2.2.2.2.2.2.2.1) (Fun.of hb hHeld.2.2.2.2.2.2.2.2.2.2.1) (Fun.of hb hHeld.2.2.2.2.2.2.2.2.2.2.2.1) (Lib.hid (hHeld.2.2.2.2.2.2.2.2.2.2.2.2.out.below hb))
          clear hK K
          replace hHeld := hNew
          clear hNew
          ((try simp only [Act.put]); (try simp only [List.setIfInBounds_toArray]); (try simp only [List.set_cons_succ]); (try simp only [List.set_cons_zero]))
          refine wpAnyH_take (i := 47) (oi := { dst := some 82, op := Op.binOp BinOp.neq 9 (Operand.tmp 78) (Operand.tmp 81) 9, type := 4, pos := "law.go:44", after := #[{ on := 43, ground := Ground.data }, { on := 46, ground := Ground.data }, { on := 40, ground := Ground.guard }], guard := some (40, false) }) (v := ?_) rfl (by kernel_rfl) (by kernel_rfl) (by kernel_rfl) (fun _ _ _ h => h) (Or.inl ⟨by rfl, ?_⟩) (by assumption) ?_
          rotate_left
          · (intro w hSw; (try dsimp only at hSw); go_simp; try with_reducible rfl)
          ((try simp only [Act.put]); (try simp only [List.setIfInBounds_toArray]); (try simp only [List.set_cons_succ]); (try simp only [List.set_cons_zero]))
          refine wpAnyH_take (i := 48) (oi := { dst := some 83, op := Op.pick (Operand.tmp 75) (Operand.const (Value.bool true)) (Operand.tmp 82), type := 4, pos := "law.go:44", after := #[{ on := 40, ground := Ground.data }, { on := 47, ground := Ground.data }], guard := none }) (v := ?_) rfl (by kernel_rfl) (by kernel_rfl) (by kernel_rfl) (fun _ _ _ h => h) (Or.inl ⟨by rfl, ?_⟩) (by assumption) ?_
          rotate_left
          · (intro w hSw; (try dsimp only at hSw); go_simp; try with_reducible rfl)
          ((try simp only [Act.put]); (try simp only [List.setIfInBounds_toArray]); (try simp only [List.set_cons_succ]); (try simp only [List.set_cons_zero]))
          refine wpAnyH_done (by kernel_rfl) ?_ _
          refine NoPanic.normal ?_
          have X7 := hHeld.2.2.2.2.2.2.2.2.2.1
          have SP7 := hHeld.2.2.2.2.2.2.2.2.2.2.2.2
          clear hHeld X6 Y5 Z5 SP5
          obtain ⟨j0, j1, j2⟩ := X7.out.bx
          by_cases l4 : q = []
          · subst l4
            go_wp2_with fail
            go_ret
            exact ⟨rfl, X7.out.be⟩
          have d4 : ((q.length : Int) == 0) = false := by simp [l4]
          have G1 := Lib.hid (show goodF f = true by
            cases hg : goodF f with
            | true => rfl
            | false => exact absurd (by rw [← E.out]; unfold bytesF; rw [hg]; rfl) l4)
          have P1 := Lib.hid (show putF f = q by rw [← E.out]; unfold bytesF; rw [G1.out]; rfl)
          have QL := Lib.hid (show q.length ≤ 1000000 by have := (putF_len O.out G1.out).2; rw [P1.out] at this; omega)
          have GP := Lib.hid (show okF q = true ∧ gotF q = f by rw [← P1.out]; exact gotF_put O.out G1.out)
          clear l4
          go_wp2_with fail
          refine (fget_of SP7.out rfl QL.out GP.out.2 GP.out.1).mono ?_
          rintro e w8 ⟨b8, c8, rfl, hs8, hb, _⟩
          have X8 := Fun.alloc (o := .cells (frmA f b8 c8) 27) (Fun.of hb X7)
          have Z8 := Fun.lay X7.out.be X7.out.le hb hs8 27
          clear hb hs8 X7 j0 j1 j2
          obtain ⟨j0, j1, j2⟩ := X8.out.bx
          obtain ⟨i0, i1, i2⟩ := Z8.out.bx
          have cf := conv_any X8.out.sl rfl
          have cg := conv_any Z8.out.sl rfl
          go_wp2_with fail
          go_ret
          exact ⟨rfl, X8.out.be⟩
  case true =>
    go_wp2_with fail
    generalize w3.alloc (.cells (frmA x b3 c3) 27) = w4 at X4 Y4 S4 SP4 ⊢
    generalize w3.heap.size = D at Y4 ⊢
    refine (rfget_of S4.out rfl BL.out GX.out KX.out).mono ?_
    rintro e w5 ⟨b4, c4, rfl, hs4, hb, _⟩
    have X5 := Fun.alloc (o := .cells (frmA x b4 c4) 32) (Fun.of hb X4)
    have Y5 := Fun.alloc (o := .cells (frmA x b4 c4) 32) (Fun.of hb Y4)
    have Z5 := Fun.lay X4.out.be X4.out.le hb hs4 32
    have SP5 := Lib.hid (SP4.out.below (below_alloc hb (.cells (frmA x b4 c4) 32)))
    clear hb hs4 X4 Y4 S4 SP4
    go_wp2_with fail
    generalize w5.alloc (.cells (frmA x b4 c4) 32) = w6 at X5 Y5 Z5 SP5 ⊢
    generalize w5.heap.size = F at Z5 ⊢
    obtain ⟨A, hA⟩ : ∃ A, A = W.heap.size := ⟨_, rfl⟩
    have X6 : Hid (Fun W W.heap.size A f a c w6) := hA ▸ X5
    rw [← hA]
    clear hA X5
    refine wp_region_noPanic ?_
    refine wp_region_held_drew (S := (fun w' => w'.cell? ⟨A, 0, none⟩ = some (.bool f.ack) ∧ w'.cell? ⟨A, 1, none⟩ = some (.int .u64 (f.num : Nat)) ∧ w'.cell? ⟨A, 2, none⟩ = some (.slice a f.bod.length c) ∧ w'.cell? ⟨D, 0, none⟩ = some (.bool x.ack) ∧ w'.cell? ⟨D, 1, none⟩ = some (.int .u64 (x.num : Nat)) ∧ w'.cell? ⟨D, 2, none⟩ = some (.slice b3 x.bod.length c3) ∧ w'.cell? ⟨F, 0, none⟩ = some (.bool x.ack) ∧ w'.cell? ⟨F, 1, none⟩ = some (.int .u64 (x.num : Nat)) ∧ w'.cell? ⟨F, 2, none⟩ = some (.slice b4 x.bod.length c4) ∧ Hid (Fun W W.heap.size A f a c w') ∧ Hid (Fun W W.heap.size D x b3 c3 w') ∧ Hid (Fun W W.heap.size F x b4 c4 w') ∧ Hid (SlAt bV 256 w' a5 c5 q))) (by kernel_rfl) ?_ (fun hHeld => ?_)
    · exact three3 (Fun.drew X6) (Fun.drew Y5) (Fun.drew Z5) (Lib.hid (SP5.out.below (drew_below _)))
    refine wpAnyH_take (i := 0) (oi := { dst := some 35, op := Op.move (Operand.tmp 5), type := 23, pos := "law.go:44", after := #[], guard := none }) (v := ?_) rfl (by kernel_rfl) (by kernel_rfl) (by kernel_rfl) (fun _ _ _ h => h) (Or.inl ⟨by rfl, ?_⟩) (by assumption) ?_
    rotate_left
    · (intro w hSw; (try dsimp only at hSw); go_simp; try with_reducible rfl)
    ((try simp only [Act.put]); (try simp only [List.setIfInBounds_toArray]); (try simp only [List.set_cons_succ]); (try simp only [List.set_cons_zero]))
    refine wpAnyH_take (i := 2) (oi := { dst := some 37, op := Op.fieldAddr 27 (Operand.tmp 2) 0, type := 0, pos := "law.go:44", after := #[], guard := none }) (v := ?_) rfl (by kernel_rfl) (by kernel_rfl) (by kernel_rfl) (fun _ _ _ h => h) (Or.inl ⟨by rfl, ?_⟩) (by assumption) ?_
    rotate_left
    · (intro w hSw; (try dsimp only at hSw); go_simp; try with_reducible rfl)
    ((try simp only [Act.put]); (try simp only [List.setIfInBounds_toArray]); (try simp only [List.set_cons_succ]); (try simp only [List.set_cons_zero]))
    refine wpAnyH_take (i := 3) (oi := { dst := some 38, op := Op.load 4 (Operand.tmp 37), type := 4, pos := "law.go:44", after := #[{ on := 2, ground := Ground.data }], guard := none }) (v := ?_) rfl (by kernel_rfl) (by kernel_rfl) (by kernel_rfl) (fun _ _ _ h => h) (Or.inl ⟨by rfl, ?_⟩) (by assumption) ?_
    rotate_left
    · (intro w hSw; (try dsimp only at hSw); go_simp; try with_reducible rfl)
    ((try simp only [Act.put]); (try simp only [List.setIfInBounds_toArray]); (try simp only [List.set_cons_succ]); (try simp only [List.set_cons_zero]))
    refine wpAnyH_take (i := 4) (oi := { dst := some 39, op := Op.fieldAddr 27 (Operand.tmp 2) 1, type := 0, pos := "law.go:44", after := #[], guard := none }) (v := ?_) rfl (by kernel_rfl) (by kernel_rfl) (by kernel_rfl) (fun _ _ _ h => h) (Or.inl ⟨by rfl, ?_⟩) (by assumption) ?_
    rotate_left
    · (intro w hSw; (try dsimp only at hSw); go_simp; try with_reducible rfl)
    ((try simp only [Act.put]); (try simp only [List.setIfInBounds_toArray]); (try simp only [List.set_cons_succ]); (try simp only [List.set_cons_zero]))
    refine wpAnyH_take (i := 5) (oi := { dst := some 40, op := Op.load 25 (Operand.tmp 39), type := 25, pos := "law.go:44", after := #[{ on := 4, ground := Ground.data }], guard := none }) (v := ?_) rfl (by kernel_rfl) (by kernel_rfl) (by kernel_rfl) (fun _ _ _ h => h) (Or.inl ⟨by rfl, ?_⟩) (by assumption) ?_
    rotate_left
    · (intro w hSw; (try dsimp only at hSw); go_simp; try with_reducible rfl)
    ((try simp only [Act.put]); (try simp only [List.setIfInBounds_toArray]); (try simp only [List.set_cons_succ]); (try simp only [List.set_cons_zero]))
    refine wpAnyH_take (i := 6) (oi := { dst := some 41, op := Op.fieldAddr 27 (Operand.tmp 2) 2, type := 0, pos := "law.go:44", after := #[], guard := none }) (v := ?_) rfl (by kernel_rfl) (by kernel_rfl) (by kernel_rfl) (fun _ _ _ h => h) (Or.inl ⟨by rfl, ?_⟩) (by assumption) ?_
    rotate_left
    · (intro w hSw; (try dsimp only at hSw); go_simp; try with_reducible rfl)
    ((try simp only [Act.put]); (try simp only [List.setIfInBounds_toArray]); (try simp only [List.set_cons_succ]); (try simp only [List.set_cons_zero]))
    refine wpAnyH_take (i := 7) (oi := { dst := some 42, op := Op.load 23 (Operand.tmp 41), type := 23, pos := "law.go:44", after := #[{ on := 6, ground := Ground.data }], guard := none }) (v := ?_) rfl (by kernel_rfl) (by kernel_rfl) (by kernel_rfl) (fun _ _ _ h => h) (Or.inl ⟨by rfl, ?_⟩) (by assumption) ?_
    rotate_left
    · (intro w hSw; (try dsimp only at hSw); go_simp; try with_reducible rfl)
    ((try simp only [Act.put]); (try simp only [List.setIfInBounds_toArray]); (try simp only [List.set_cons_succ]); (try simp only [List.set_cons_zero]))
    refine wpAnyH_take (i := 8) (oi := { dst := some 43, op := Op.build 32 #[(0, Operand.tmp 38), (1, Operand.tmp 40), (2, Operand.tmp 42)], type := 32, pos := "law.go:44", after := #[{ on := 3, ground := Ground.data }, { on := 5, ground := Ground.data }, { on := 7, ground := Ground.data }], guard := none }) (v := ?_) rfl (by kernel_rfl) (by kernel_rfl) (by kernel_rfl) (fun _ _ _ h => h) (Or.inl ⟨by rfl, ?_⟩) (by assumption) ?_
    rotate_left
    · (intro w hSw; (try dsimp only at hSw); go_simp; try with_reducible rfl)
    ((try simp only [Act.put]); (try simp only [List.setIfInBounds_toArray]); (try simp only [List.set_cons_succ]); (try simp only [List.set_cons_zero]))
    refine wpAnyH_ready (rs := [1, 9]) (by kernel_rfl) (by simp) ?_
    refine AllReadyH.cons (o := { dst := some 36, op := Op.convert 23 9 (Operand.tmp 35), type := 9, pos := "law.go:44", after := #[{ on := 0, ground := Ground.data }], guard := none }) rfl (fun K hK => ?_) (AllReadyH.cons (o := { dst := some 44, op := Op.call { callee := Callee.value (Operand.func 11), args := #[Operand.tmp 43], argTypes := #[32] }, type := 23, pos := "law.go:44", after := #[{ on := 8, ground := Ground.data }], guard := none }) rfl (fun K hK => ?_) AllReadyH.nil)
    · skip
      have cv := conv_any hHeld.2.2.2.2.2.2.2.2.2.2.2.2.out rfl
      go_simp
      clear cv
      try go_wp2_with fail
      refine hK.out _ _ ?_ (fun hNew => ?_)
      · first | exact hHeld | exact three3 (Fun.of hb hHeld.2.2.2.2.2.2.2.2.2.1) (Fun.of hb hHeld.2.2.2.2.2.2.2.2.2.2.1) (Fun.of hb hHeld.2.2.2.2.2.2.2.2.2.2.2.1) (Lib.hid (hHeld.2.2.2.2.2.2.2.2.2.2.2.2.out.below hb))
      clear hK K
      replace hHeld := hNew
      clear hNew
      ((try simp only [Act.put]); (try simp only [List.setIfInBounds_toArray]); (try simp only [List.set_cons_succ]); (try simp only [List.set_cons_zero]))
      refine wpAnyH_ready (rs := [9]) (by kernel_rfl) (by simp) ?_
      refine AllReadyH.cons (o := { dst := some 44, op := Op.call { callee := Callee.value (Operand.func 11), args := #[Operand.tmp 43], argTypes := #[32] }, type := 23, pos := "law.go:44", after := #[{ on := 8, ground := Ground.data }], guard := none }) rfl (fun K hK => ?_) AllReadyH.nil
      go_simp
      refine (rfput_is (f := f) hHeld.2.2.2.2.2.2.2.2.2.1.out.sl O.out E.out).mono ?_
      rintro e w' ⟨a6, c6, rfl, hsq, hb⟩
      have cq := conv_any hsq rfl
      have CQ := Lib.hid cq
      clear hsq cq
      try go_wp2_with fail
      refine hK.out _ _ ?_ (fun hNew => ?_)
      · first | exact hHeld | exact three3 (Fun.of hb hHeld.2.2.2.2.2.2.2.2.2.1) (Fun.of hb hHeld.2.2.2.2.2.2.2.2.2.2.1) (Fun.of hb hHeld.2.2.2.2.2.2.2.2.2.2.2.1) (Lib.hid (hHeld.2.2.2.2.2.2.2.2.2.2.2.2.out.below hb))
      clear hK K
      replace hHeld := hNew
      clear hNew
      ((try simp only [Act.put]); (try simp only [List.setIfInBounds_toArray]); (try simp only [List.set_cons_succ]); (try simp only [List.set_cons_zero]))
      refine wpAnyH_ready (rs := [10]) (by kernel_rfl) (by simp) ?_
      refine AllReadyH.cons (o := { dst := some 45, op := Op.convert 23 9 (Operand.tmp 44), type := 9, pos := "law.go:44", after := #[{ on := 9, ground := Ground.data }], guard := none }) rfl (fun K hK => ?_) AllReadyH.nil
      have cv := CQ.out
      go_simp
      clear cv
      try go_wp2_with fail
      refine hK.out _ _ ?_ (fun hNew => ?_)
      · first | exact hHeld | exact three3 (Fun.of hb hHeld.2.2.2.2.2.2.2.2.2.1) (Fun.of hb hHeld.2.2.2.2.2.2.2.2.2.2.1) (Fun.of hb hHeld.2.2.2.2.2.2.2.2.2.2.2.1) (Lib.hid (hHeld.2.2.2.2.2.2.2.2.2.2.2.2.out.below hb))
      clear hK K
      replace hHeld := hNew
      clear hNew
      ((try simp only [Act.put]); (try simp only [List.setIfInBounds_toArray]); (try simp only [List.set_cons_succ]); (try simp only [List.set_cons_zero]))
      refine wpAnyH_take (i := 11) (oi := { dst := some 46, op := Op.binOp BinOp.neq 9 (Operand.tmp 36) (Operand.tmp 45) 9, type := 4, pos := "law.go:44", after := #[{ on := 1, ground := Ground.data }, { on := 10, ground := Ground.data }], guard := none }) (v := ?_) rfl (by kernel_rfl) (by kernel_rfl) (by kernel_rfl) (fun _ _ _ h => h) (Or.inl ⟨by rfl, ?_⟩) (by assumption) ?_
      rotate_left
      · (intro w hSw; (try dsimp only at hSw); go_simp; try with_reducible rfl)
      ((try simp only [Act.put]); (try simp only [List.setIfInBounds_toArray]); (try simp only [List.set_cons_succ]); (try simp only [List.set_cons_zero]))
      refine wpAnyH_take (i := 12) (oi := { dst := some 47, op := Op.move (Operand.tmp 46), type := 4, pos := "law.go:44", after := #[{ on := 11, ground := Ground.data }, { on := 9, ground := Ground.chain }], guard := none }) (v := ?_) rfl (by kernel_rfl) (by kernel_rfl) (by kernel_rfl) (fun _ _ _ h => h) (Or.inl ⟨by rfl, ?_⟩) (by assumption) ?_
      rotate_left
      · (intro w hSw; (try dsimp only at hSw); go_simp; try with_reducible rfl)
      ((try simp only [Act.put]); (try simp only [List.setIfInBounds_toArray]); (try simp only [List.set_cons_succ]); (try simp only [List.set_cons_zero]))
      refine wpAnyH_take (i := 13) (oi := { dst := some 48, op := Op.move (Operand.tmp 7), type := 28, pos := "law.go:44", after := #[{ on := 12, ground := Ground.guard }], guard := some (12, false) }) (v := ?_) rfl (by kernel_rfl) (by kernel_rfl) (by kernel_rfl) (fun _ _ _ h => h) (Or.inl ⟨by rfl, ?_⟩) (by assumption) ?_
      rotate_left
      · (intro w hSw; (try dsimp only at hSw); go_simp; try with_reducible rfl)
      ((try simp only [Act.put]); (try simp only [List.setIfInBounds_toArray]); (try simp only [List.set_cons_succ]); (try simp only [List.set_cons_zero]))
      refine wpAnyH_take (i := 14) (oi := { dst := some 49, op := Op.binOp BinOp.eql 28 (Operand.tmp 48) (Operand.const (Value.int IntKind.i64 0)) 28, type := 4, pos := "law.go:44", after := #[{ on := 13, ground := Ground.data }, { on := 12, ground := Ground.guard }], guard := some (12, false) }) (v := ?_) rfl (by kernel_rfl) (by kernel_rfl) (by kernel_rfl) (fun _ _ _ h => h) (Or.inl ⟨by rfl, ?_⟩) (by assumption) ?_
      rotate_left
      · (intro w hSw; (try dsimp only at hSw); go_simp; try with_reducible rfl)
      ((try simp only [Act.put]); (try simp only [List.setIfInBounds_toArray]); (try simp only [List.set_cons_succ]); (try simp only [List.set_cons_zero]))
      refine wpAnyH_take (i := 15) (oi := { dst := some 50, op := Op.move (Operand.tmp 9), type := 4, pos := "law.go:44", after := #[{ on := 12, ground := Ground.guard }], guard := some (12, false) }) (v := ?_) rfl (by kernel_rfl) (by kernel_rfl) (by kernel_rfl) (fun _ _ _ h => h) (Or.inl ⟨by rfl, ?_⟩) (by assumption) ?_
      rotate_left
      · (intro w hSw; (try dsimp only at hSw); go_simp; try with_reducible rfl)
      ((try simp only [Act.put]); (try simp only [List.setIfInBounds_toArray]); (try simp only [List.set_cons_succ]); (try simp only [List.set_cons_zero]))
      refine wpAnyH_take (i := 16) (oi := { dst := some 51, op := Op.binOp BinOp.neq 4 (Operand.tmp 49) (Operand.tmp 50) 4, type := 4, pos := "law.go:44", after := #[{ on := 14, ground := Ground.data }, { on := 15, ground := Ground.data }, { on := 12, ground := Ground.guard }], guard := some (12, false) }) (v := ?_) rfl (by kernel_rfl) (by kernel_rfl) (by kernel_rfl) (fun _ _ _ h => h) (Or.inl ⟨by rfl, ?_⟩) (by assumption) ?_
      rotate_left
      · (intro w hSw; (try dsimp only at hSw); go_simp; try with_reducible rfl)
      ((try simp only [Act.put]); (try simp only [List.setIfInBounds_toArray]); (try simp only [List.set_cons_succ]); (try simp only [List.set_cons_zero]))
      refine wpAnyH_take (i := 17) (oi := { dst := some 52, op := Op.pick (Operand.tmp 47) (Operand.const (Value.bool true)) (Operand.tmp 51), type := 4, pos := "law.go:44", after := #[{ on := 12, ground := Ground.data }, { on := 16, ground := Ground.data }], guard := none }) (v := ?_) rfl (by kernel_rfl) (by kernel_rfl) (by kernel_rfl) (fun _ _ _ h => h) (Or.inl ⟨by rfl, ?_⟩) (by assumption) ?_
      rotate_left
      · (intro w hSw; (try dsimp only at hSw); go_simp; try with_reducible rfl)
      ((try simp only [Act.put]); (try simp only [List.setIfInBounds_toArray]); (try simp only [List.set_cons_succ]); (try simp only [List.set_cons_zero]))
      refine wpAnyH_take (i := 18) (oi := { dst := some 53, op := Op.move (Operand.tmp 52), type := 4, pos := "law.go:44", after := #[{ on := 17, ground := Ground.data }, { on := 12, ground := Ground.chain }], guard := none }) (v := ?_) rfl (by kernel_rfl) (by kernel_rfl) (by kernel_rfl) (fun _ _ _ h => h) (Or.inl ⟨by rfl, ?_⟩) (by assumption) ?_
      rotate_left
      · (intro w hSw; (try dsimp only at hSw); go_simp; try with_reducible rfl)
      ((try simp only [Act.put]); (try simp only [List.setIfInBounds_toArray]); (try simp only [List.set_cons_succ]); (try simp only [List.set_cons_zero]))
      refine wpAnyH_take (i := 19) (oi := { dst := some 54, op := Op.move (Operand.tmp 9), type := 4, pos := "law.go:44", after := #[{ on := 18, ground := Ground.guard }], guard := some (18, false) }) (v := ?_) rfl (by kernel_rfl) (by kernel_rfl) (by kernel_rfl) (fun _ _ _ h => h) (Or.inl ⟨by rfl, ?_⟩) (by assumption) ?_
      rotate_left
      · (intro w hSw; (try dsimp only at hSw); go_simp; try with_reducible rfl)
      ((try simp only [Act.put]); (try simp only [List.setIfInBounds_toArray]); (try simp only [List.set_cons_succ]); (try simp only [List.set_cons_zero]))
      refine wpAnyH_take (i := 20) (oi := { dst := some 55, op := Op.unOp UnOp.not 4 (Operand.tmp 54), type := 4, pos := "law.go:44", after := #[{ on := 19, ground := Ground.data }, { on := 18, ground := Ground.guard }], guard := some (18, false) }) (v := ?_) rfl (by kernel_rfl) (by kernel_rfl) (by kernel_rfl) (fun _ _ _ h => h) (Or.inl ⟨by rfl, ?_⟩) (by assumption) ?_
      rotate_left
      · (intro w hSw; (try dsimp only at hSw); go_simp; try with_reducible rfl)
      ((try simp only [Act.put]); (try simp only [List.setIfInBounds_toArray]); (try simp only [List.set_cons_succ]); (try simp only [List.set_cons_zero]))
      refine wpAnyH_take (i := 21) (oi := { dst := some 56, op := Op.move (Operand.tmp 55), type := 4, pos := "law.go:44", after := #[{ on := 20, ground := Ground.data }, { on := 18, ground := Ground.chain }, { on := 18, ground := Ground.guard }], guard := some (18, false) }) (v := ?_) rfl (by kernel_rfl) (by kernel_rfl) (by kernel_rfl) (fun _ _ _ h => h) (Or.inl ⟨by rfl, ?_⟩) (by assumption) ?_
      rotate_left
      · (intro w hSw; (try dsimp only at hSw); go_simp; try with_reducible rfl)
      ((try simp only [Act.put]); (try simp only [List.setIfInBounds_toArray]); (try simp only [List.set_cons_succ]); (try simp only [List.set_cons_zero]))
      refine wpAnyH_take (i := 22) (oi := { dst := some 57, op := Op.move (Operand.tmp 7), type := 28, pos := "law.go:44", after := #[{ on := 21, ground := Ground.guard }], guard := some (21, true) }) (v := undef) rfl (by kernel_rfl) (by kernel_rfl) (by kernel_rfl) (fun _ _ _ h => h) (Or.inr ⟨by rfl, rfl⟩) (by assumption) ?_
      ((try simp only [Act.put]); (try simp only [List.setIfInBounds_toArray]); (try simp only [List.set_cons_succ]); (try simp only [List.set_cons_zero]))
      refine wpAnyH_take (i := 23) (oi := { dst := some 58, op := Op.binOp BinOp.neq 28 (Operand.tmp 57) (Operand.const (Value.int IntKind.i64 2)) 28, type := 4, pos := "law.go:44", after := #[{ on := 22, ground := Ground.data }, { on := 21, ground := Ground.guard }], guard := some (21, true) }) (v := undef) rfl (by kernel_rfl) (by kernel_rfl) (by kernel_rfl) (fun _ _ _ h => h) (Or.inr ⟨by rfl, rfl⟩) (by assumption) ?_
      ((try simp only [Act.put]); (try simp only [List.setIfInBounds_toArray]); (try simp only [List.set_cons_succ]); (try simp only [List.set_cons_zero]))
      refine wpAnyH_take (i := 24) (oi := { dst := some 59, op := Op.pick (Operand.tmp 56) (Operand.tmp 58) (Operand.const (Value.bool false)), type := 4, pos := "law.go:44", after := #[{ on := 21, ground := Ground.data }, { on := 23, ground := Ground.data }, { on := 18, ground := Ground.guard }], guard := some (18, false) }) (v := ?_) rfl (by kernel_rfl) (by kernel_rfl) (by kernel_rfl) (fun _ _ _ h => h) (Or.inl ⟨by rfl, ?_⟩) (by assumption) ?_
      rotate_left
      · (intro w hSw; (try dsimp only at hSw); go_simp; try with_reducible rfl)
      ((try simp only [Act.put]); (try simp only [List.setIfInBounds_toArray]); (try simp only [List.set_cons_succ]); (try simp only [List.set_cons_zero]))
      refine wpAnyH_take (i := 25) (oi := { dst := some 60, op := Op.pick (Operand.tmp 53) (Operand.const (Value.bool true)) (Operand.tmp 59), type := 4, pos := "law.go:44", after := #[{ on := 18, ground := Ground.data }, { on := 24, ground := Ground.data }], guard := none }) (v := ?_) rfl (by kernel_rfl) (by kernel_rfl) (by kernel_rfl) (fun _ _ _ h => h) (Or.inl ⟨by rfl, ?_⟩) (by assumption) ?_
      rotate_left
      · (intro w hSw; (try dsimp only at hSw); go_simp; try with_reducible rfl)
      ((try simp only [Act.put]); (try simp only [List.setIfInBounds_toArray]); (try simp only [List.set_cons_succ]); (try simp only [List.set_cons_zero]))
      refine wpAnyH_take (i := 26) (oi := { dst := some 61, op := Op.move (Operand.tmp 60), type := 4, pos := "law.go:44", after := #[{ on := 25, ground := Ground.data }, { on := 21, ground := Ground.chain }], guard := none }) (v := ?_) rfl (by kernel_rfl) (by kernel_rfl) (by kernel_rfl) (fun _ _ _ h => h) (Or.inl ⟨by rfl, ?_⟩) (by assumption) ?_
      rotate_left
      · (intro w hSw; (try dsimp only at hSw); go_simp; try with_reducible rfl)
      ((try simp only [Act.put]); (try simp only [List.setIfInBounds_toArray]); (try simp only [List.set_cons_succ]); (try simp only [List.set_cons_zero]))
      refine wpAnyH_take (i := 27) (oi := { dst := some 62, op := Op.fieldAddr 27 (Operand.tmp 6) 0, type := 0, pos := "law.go:44", after := #[{ on := 26, ground := Ground.guard }], guard := some (26, false) }) (v := ?_) rfl (by kernel_rfl) (by kernel_rfl) (by kernel_rfl) (fun _ _ _ h => h) (Or.inl ⟨by rfl, ?_⟩) (by assumption) ?_
      rotate_left
      · (intro w hSw; (try dsimp only at hSw); go_simp; try with_reducible rfl)
      ((try simp only [Act.put]); (try simp only [List.setIfInBounds_toArray]); (try simp only [List.set_cons_succ]); (try simp only [List.set_cons_zero]))
      refine wpAnyH_take (i := 28) (oi := { dst := some 63, op := Op.load 4 (Operand.tmp 62), type := 4, pos := "law.go:44", after := #[{ on := 27, ground := Ground.data }, { on := 26, ground := Ground.guard }], guard := some (26, false) }) (v := ?_) rfl (by kernel_rfl) (by kernel_rfl) (by kernel_rfl) (fun _ _ _ h => h) (Or.inl ⟨by rfl, ?_⟩) (by assumption) ?_
      rotate_left
      · (intro w hSw; (try dsimp only at hSw); go_simp; try with_reducible rfl)
      ((try simp only [Act.put]); (try simp only [List.setIfInBounds_toArray]); (try simp only [List.set_cons_succ]); (try simp only [List.set_cons_zero]))
      refine wpAnyH_take (i := 29) (oi := { dst := some 64, op := Op.fieldAddr 32 (Operand.tmp 8) 0, type := 0, pos := "law.go:44", after := #[{ on := 26, ground := Ground.guard }], guard := some (26, false) }) (v := ?_) rfl (by kernel_rfl) (by kernel_rfl) (by kernel_rfl) (fun _ _ _ h => h) (Or.inl ⟨by rfl, ?_⟩) (by assumption) ?_
      rotate_left
      · (intro w hSw; (try dsimp only at hSw); go_simp; try with_reducible rfl)
      ((try simp only [Act.put]); (try simp only [List.setIfInBounds_toArray]); (try simp only [List.set_cons_succ]); (try simp only [List.set_cons_zero]))
      refine wpAnyH_take (i := 30) (oi := { dst := some 65, op := Op.load 4 (Operand.tmp 64), type := 4, pos := "law.go:44", after := #[{ on := 29, ground := Ground.data }, { on := 26, ground := Ground.guard }], guard := some (26, false) }) (v := ?_) rfl (by kernel_rfl) (by kernel_rfl) (by kernel_rfl) (fun _ _ _ h => h) (Or.inl ⟨by rfl, ?_⟩) (by assumption) ?_
      rotate_left
      · (intro w hSw; (try dsimp only at hSw); go_simp; try with_reducible rfl)
      ((try simp only [Act.put]); (try simp only [List.setIfInBounds_toArray]); (try simp only [List.set_cons_succ]); (try simp only [List.set_cons_zero]))
      refine wpAnyH_take (i := 31) (oi := { dst := some 66, op := Op.binOp BinOp.neq 4 (Operand.tmp 63) (Operand.tmp 65) 4, type := 4, pos := "law.go:44", after := #[{ on := 28, ground := Ground.data }, { on := 30, ground := Ground.data }, { on := 26, ground := Ground.guard }], guard := some (26, false) }) (v := ?_) rfl (by kernel_rfl) (by kernel_rfl) (by kernel_rfl) (fun _ _ _ h => h) (Or.inl ⟨by rfl, ?_⟩) (by assumption) ?_
      rotate_left
      · (intro w hSw; (try dsimp only at hSw); go_simp; try with_reducible rfl)
      ((try simp only [Act.put]); (try simp only [List.setIfInBounds_toArray]); (try simp only [List.set_cons_succ]); (try simp only [List.set_cons_zero]))
      refine wpAnyH_take (i := 32) (oi := { dst := some 67, op := Op.pick (Operand.tmp 61) (Operand.const (Value.bool true)) (Operand.tmp 66), type := 4, pos := "law.go:44", after := #[{ on := 26, ground := Ground.data }, { on := 31, ground := Ground.data }], guard := none }) (v := ?_) rfl (by kernel_rfl) (by kernel_rfl) (by kernel_rfl) (fun _ _ _ h => h) (Or.inl ⟨by rfl, ?_⟩) (by assumption) ?_
      rotate_left
      · (intro w hSw; (try dsimp only at hSw); go_simp; try with_reducible rfl)
      ((try simp only [Act.put]); (try simp only [List.setIfInBounds_toArray]); (try simp only [List.set_cons_succ]); (try simp only [List.set_cons_zero]))
      refine wpAnyH_take (i := 33) (oi := { dst := some 68, op := Op.move (Operand.tmp 67), type := 4, pos := "law.go:44", after := #[{ on := 32, ground := Ground.data }, { on := 26, ground := Ground.chain }], guard := none }) (v := ?_) rfl (by kernel_rfl) (by kernel_rfl) (by kernel_rfl) (fun _ _ _ h => h) (Or.inl ⟨by rfl, ?_⟩) (by assumption) ?_
      rotate_left
      · (intro w hSw; (try dsimp only at hSw); go_simp; try with_reducible rfl)
      ((try simp only [Act.put]); (try simp only [List.setIfInBounds_toArray]); (try simp only [List.set_cons_succ]); (try simp only [List.set_cons_zero]))
      refine wpAnyH_take (i := 34) (oi := { dst := some 69, op := Op.fieldAddr 27 (Operand.tmp 6) 1, type := 0, pos := "law.go:44", after := #[{ on := 33, ground := Ground.guard }], guard := some (33, false) }) (v := ?_) rfl (by kernel_rfl) (by kernel_rfl) (by kernel_rfl) (fun _ _ _ h => h) (Or.inl ⟨by rfl, ?_⟩) (by assumption) ?_
      rotate_left
      · (intro w hSw; (try dsimp only at hSw); go_simp; try with_reducible rfl)
      ((try simp only [Act.put]); (try simp only [List.setIfInBounds_toArray]); (try simp only [List.set_cons_succ]); (try simp only [List.set_cons_zero]))
      refine wpAnyH_take (i := 35) (oi := { dst := some 70, op := Op.load 25 (Operand.tmp 69), type := 25, pos := "law.go:44", after := #[{ on := 34, ground := Ground.data }, { on := 33, ground := Ground.guard }], guard := some (33, false) }) (v := ?_) rfl (by kernel_rfl) (by kernel_rfl) (by kernel_rfl) (fun _ _ _ h => h) (Or.inl ⟨by rfl, ?_⟩) (by assumption) ?_
      rotate_left
      · (intro w hSw; (try dsimp only at hSw); go_simp; try with_reducible rfl)
      ((try simp only [Act.put]); (try simp only [List.setIfInBounds_toArray]); (try simp only [List.set_cons_succ]); (try simp only [List.set_cons_zero]))
      refine wpAnyH_take (i := 36) (oi := { dst := some 71, op := Op.fieldAddr 32 (Operand.tmp 8) 1, type := 0, pos := "law.go:44", after := #[{ on := 33, ground := Ground.guard }], guard := some (33, false) }) (v := ?_) rfl (by kernel_rfl) (by kernel_rfl) (by kernel_rfl) (fun _ _ _ h => h) (Or.inl ⟨by rfl, ?_⟩) (by assumption) ?_
      rotate_left
      · (intro w hSw; (try dsimp only at hSw); go_simp; try with_reducible rfl)
      ((try simp only [Act.put]); (try simp only [List.setIfInBounds_toArray]); (try simp only [List.set_cons_succ]); (try simp only [List.set_cons_zero]))
      refine wpAnyH_take (i := 37) (oi := { dst := some 72, op := Op.load 25 (Operand.tmp 71), type := 25, pos := "law.go:44", after := #[{ on := 36, ground := Ground.data }, { on := 33, ground := Ground.guard }], guard := some (33, false) }) (v := ?_) rfl (by kernel_rfl) (by kernel_rfl) (by kernel_rfl) (fun _ _ _ h => h) (Or.inl ⟨by rfl, ?_⟩) (by assumption) ?_
      rotate_left
      · (intro w hSw; (try dsimp only at hSw); go_simp; try with_reducible rfl)
      ((try simp only [Act.put]); (try simp only [List.setIfInBounds_toArray]); (try simp only [List.set_cons_succ]); (try simp only [List.set_cons_zero]))
      refine wpAnyH_take (i := 38) (oi := { dst := some 73, op := Op.binOp BinOp.neq 25 (Operand.tmp 70) (Operand.tmp 72) 25, type := 4, pos := "law.go:44", after := #[{ on := 35, ground := Ground.data }, { on := 37, ground := Ground.data }, { on := 33, ground := Ground.guard }], guard := some (33, false) }) (v := ?_) rfl (by kernel_rfl) (by kernel_rfl) (by kernel_rfl) (fun _ _ _ h => h) (Or.inl ⟨by rfl, ?_⟩) (by assumption) ?_
      rotate_left
      · (intro w hSw; (try dsimp only at hSw); go_simp; try with_reducible rfl)
      ((try simp only [Act.put]); (try simp only [List.setIfInBounds_toArray]); (try simp only [List.set_cons_succ]); (try simp only [List.set_cons_zero]))
      refine wpAnyH_take (i := 39) (oi := { dst := some 74, op := Op.pick (Operand.tmp 68) (Operand.const (Value.bool true)) (Operand.tmp 73), type := 4, pos := "law.go:44", after := #[{ on := 33, ground := Ground.data }, { on := 38, ground := Ground.data }], guard := none }) (v := ?_) rfl (by kernel_rfl) (by kernel_rfl) (by kernel_rfl) (fun _ _ _ h => h) (Or.inl ⟨by rfl, ?_⟩) (by assumption) ?_
      rotate_left
      · (intro w hSw; (try dsimp only at hSw); go_simp; try with_reducible rfl)
      ((try simp only [Act.put]); (try simp only [List.setIfInBounds_toArray]); (try simp only [List.set_cons_succ]); (try simp only [List.set_cons_zero]))
      refine wpAnyH_take (i := 40) (oi := { dst := some 75, op := Op.move (Operand.tmp 74), type := 4, pos := "law.go:44", after := #[{ on := 39, ground := Ground.data }, { on := 33, ground := Ground.chain }], guard := none }) (v := ?_) rfl (by kernel_rfl) (by kernel_rfl) (by kernel_rfl) (fun _ _ _ h => h) (Or.inl ⟨by rfl, ?_⟩) (by assumption) ?_
      rotate_left
      · (intro w hSw; (try dsimp only at hSw); go_simp; try with_reducible rfl)
      ((try simp only [Act.put]); (try simp only [List.setIfInBounds_toArray]); (try simp only [List.set_cons_succ]); (try simp only [List.set_cons_zero]))
      refine wpAnyH_take (i := 41) (oi := { dst := some 76, op := Op.fieldAddr 27 (Operand.tmp 6) 2, type := 0, pos := "law.go:44", after := #[{ on := 40, ground := Ground.guard }], guard := some (40, false) }) (v := ?_) rfl (by kernel_rfl) (by kernel_rfl) (by kernel_rfl) (fun _ _ _ h => h) (Or.inl ⟨by rfl, ?_⟩) (by assumption) ?_
      rotate_left
      · (intro w hSw; (try dsimp only at hSw); go_simp; try with_reducible rfl)
      ((try simp only [Act.put]); (try simp only [List.setIfInBounds_toArray]); (try simp only [List.set_cons_succ]); (try simp only [List.set_cons_zero]))
      refine wpAnyH_take (i := 42) (oi := { dst := some 77, op := Op.load 23 (Operand.tmp 76), type := 23, pos := "law.go:44", after := #[{ on := 41, ground := Ground.data }, { on := 40, ground := Ground.guard }], guard := some (40, false) }) (v := ?_) rfl (by kernel_rfl) (by kernel_rfl) (by kernel_rfl) (fun _ _ _ h => h) (Or.inl ⟨by rfl, ?_⟩) (by assumption) ?_
      rotate_left
      · (intro w hSw; (try dsimp only at hSw); go_simp; try with_reducible rfl)
      ((try simp only [Act.put]); (try simp only [List.setIfInBounds_toArray]); (try simp only [List.set_cons_succ]); (try simp only [List.set_cons_zero]))
      refine wpAnyH_take (i := 44) (oi := { dst := some 79, op := Op.fieldAddr 32 (Operand.tmp 8) 2, type := 0, pos := "law.go:44", after := #[{ on := 40, ground := Ground.guard }], guard := some (40, false) }) (v := ?_) rfl (by kernel_rfl) (by kernel_rfl) (by kernel_rfl) (fun _ _ _ h => h) (Or.inl ⟨by rfl, ?_⟩) (by assumption) ?_
      rotate_left
      · (intro w hSw; (try dsimp only at hSw); go_simp; try with_reducible rfl)
      ((try simp only [Act.put]); (try simp only [List.setIfInBounds_toArray]); (try simp only [List.set_cons_succ]); (try simp only [List.set_cons_zero]))
      refine wpAnyH_take (i := 45) (oi := { dst := some 80, op := Op.load 23 (Operand.tmp 79), type := 23, pos := "law.go:44", after := #[{ on := 44, ground := Ground.data }, { on := 40, ground := Ground.guard }], guard := some (40, false) }) (v := ?_) rfl (by kernel_rfl) (by kernel_rfl) (by kernel_rfl) (fun _ _ _ h => h) (Or.inl ⟨by rfl, ?_⟩) (by assumption) ?_
      rotate_left
      · (intro w hSw; (try dsimp only at hSw); go_simp; try with_reducible rfl)
      ((try simp only [Act.put]); (try simp only [List.setIfInBounds_toArray]); (try simp only [List.set_cons_succ]); (try simp only [List.set_cons_zero]))
      refine wpAnyH_ready (rs := [43, 46]) (by kernel_rfl) (by simp) ?_
      refine AllReadyH.cons (o := { dst := some 78, op := Op.convert 23 9 (Operand.tmp 77), type := 9, pos := "law.go:44", after := #[{ on := 42, ground := Ground.data }, { on := 40, ground := Ground.guard }], guard := some (40, false) }) rfl (fun K hK => ?_) (AllReadyH.cons (o := { dst := some 81, op := Op.convert 23 9 (Operand.tmp 80), type := 9, pos := "law.go:44", after := #[{ on := 45, ground := Ground.data }, { on := 40, ground := Ground.guard }], guard := some (40, false) }) rfl (fun K hK => ?_) AllReadyH.nil)
      · skip
        have cv := conv_any hHeld.2.2.2.2.2.2.2.2.2.2.1.out.sl rfl
        go_simp
        clear cv
        try go_wp2_with fail
        refine hK.out _ _ ?_ (fun hNew => ?_)
        · first | exact hHeld | exact three3 (Fun.of hb hHeld.2.2.2.2.2.2.2.2.2.1) (Fun.of hb hHeld.2.2.2.2.2.2.2.2.2.2.1) (Fun.of hb hHeld.2.2.2.2.2.2.2.2.2.2.2.1) (Lib.hid (hHeld.2.2.2.2.2.2.2.2.2.2.2.2.out.below hb))
        clear hK K
        replace hHeld := hNew
        clear hNew
        ((try simp only [Act.put]); (try simp only [List.setIfInBounds_toArray]); (try simp only [List.set_cons_succ]); (try simp only [List.set_cons_zero]))
        refine wpAnyH_ready (rs := [46]) (by kernel_rfl) (by simp) ?_
        refine AllReadyH.cons (o := { dst := some 81, op := Op.convert 23 9 (Operand.tmp 80), type := 9, pos := "law.go:44", after := #[{ on := 45, ground := Ground.data }, { on := 40, ground := Ground.guard }], guard := some (40, false) }) rfl (fun K hK => ?_) AllReadyH.nil
        have cv := conv_any hHeld.2.2.2.2.2.2.2.2.2.2.2.1.out.sl rfl
        go_simp
        clear cv
        try go_wp2_with fail
        refine hK.out _ _ ?_ (fun hNew => ?_)
        · first | exact hHeld | exact three3 (Fun.of hb hHeld.2.2.2.2.2.2.2.2.2.1) (Fun.of hb hHeld.2.2.2.2.2.2.2.2.2.2.1) (Fun.of hb hHeld.2.2.2.2.2.2.2.2.2.2.2.1) (Lib.hid (hHeld.2.2.2.2.2.2.2.2.2.2.2.2.out.below hb))
        clear hK K
        replace hHeld := hNew
        clear hNew
        ((try simp only [Act.put]); (try simp only [List.setIfInBounds_toArray]); (try simp only [List.set_cons_succ]); (try simp only [List.set_cons_zero]))
        refine wpAnyH_take (i := 47) (oi := { dst := some 82, op := Op.binOp BinOp.neq 9 (Operand.tmp 78) (Operand.tmp 81) 9, type := 4, pos := "law.go:44", after := #[{ on := 43, ground := Ground.data }, { on := 46, ground := Ground.data }, { on := 40, ground := Ground.guard }], guard := some (40, false) }) (v := ?_) rfl (by kernel_rfl) (by kernel_rfl) (by kernel_rfl) (fun _ _ _ h => h) (Or.inl ⟨by rfl, ?_⟩) (by assumption) ?_
        rotate_left
        · (intro w hSw; (try dsimp only at hSw); go_simp; try with_reducible rfl)
        ((try simp only [Act.put]); (try simp only [List.setIfInBounds_toArray]); (try simp only [List.set_cons_succ]); (try simp only [List.set_cons_zero]))
        refine wpAnyH_take (i := 48) (oi := { dst := some 83, op := Op.pick (Operand.tmp 75) (Operand.const (Value.bool true)) (Operand.tmp 82), type := 4, pos := "law.go:44", after := #[{ on := 40, ground := Ground.data }, { on := 47, ground := Ground.data }], guard := none }) (v := ?_) rfl (by kernel_rfl) (by kernel_rfl) (by kernel_rfl) (fun _ _ _ h => h) (Or.inl ⟨by rfl, ?_⟩) (by assumption) ?_
        rotate_left
        · (intro w hSw; (try dsimp only at hSw); go_simp; try with_reducible rfl)
        ((try simp only [Act.put]); (try simp only [List.setIfInBounds_toArray]); (try simp only [List.set_cons_succ]); (try simp only [List.set_cons_zero]))
        refine wpAnyH_done (by kernel_rfl) ?_ _
        refine NoPanic.normal ?_
        have X7 := hHeld.2.2.2.2.2.2.2.2.2.1
        have SP7 := hHeld.2.2.2.2.2.2.2.2.2.2.2.2
        clear hHeld X6 Y5 Z5 SP5
        obtain ⟨j0, j1, j2⟩ := X7.out.bx
        by_cases l4 : q = []
        · subst l4
          go_wp2_with fail
          go_ret
          exact ⟨rfl, X7.out.be⟩
        have d4 : ((q.length : Int) == 0) = false := by simp [l4]
        have G1 := Lib.hid (show goodF f = true by
          cases hg : goodF f with
          | true => rfl
          | false => exact absurd (by rw [← E.out]; unfold bytesF; rw [hg]; rfl) l4)
        have P1 := Lib.hid (show putF f = q by rw [← E.out]; unfold bytesF; rw [G1.out]; rfl)
        have QL := Lib.hid (show q.length ≤ 1000000 by have := (putF_len O.out G1.out).2; rw [P1.out] at this; omega)
        have GP := Lib.hid (show okF q = true ∧ gotF q = f by rw [← P1.out]; exact gotF_put O.out G1.out)
        clear l4
        go_wp2_with fail
        refine (fget_of SP7.out rfl QL.out GP.out.2 GP.out.1).mono ?_
        rintro e w8 ⟨b8, c8, rfl, hs8, hb, _⟩
        have X8 := Fun.alloc (o := .cells (frmA f b8 c8) 27) (Fun.of hb X7)
        have Z8 := Fun.lay X7.out.be X7.out.le hb hs8 27
        clear hb hs8 X7 j0 j1 j2
        obtain ⟨j0, j1, j2⟩ := X8.out.bx
        obtain ⟨i0, i1, i2⟩ := Z8.out.bx
        have cf := conv_any X8.out.sl rfl
        have cg := conv_any Z8.out.sl rfl
        go_wp2_with fail
        go_ret
        exact ⟨rfl, X8.out.be⟩
      · skip
        have cv := conv_any hHeld.2.2.2.2.2.2.2.2.2.2.2.1.out.sl rfl
        go_simp
        clear cv
        try go_wp2_with fail
        refine hK.out _ _ ?_ (fun hNew => ?_)
        · first | exact hHeld | exact three3 (Fun.of hb hHeld.2.2.2.2.2.2.2.2.2.1) (Fun.of hb hHeld.2.2.2.2.2.2.2.2.2.2.1) (Fun.of hb hHeld.2.2.2.2.2.2.2.2.2.2.2.1) (Lib.hid (hHeld.2.2.2.2.2.2.2.2.2.2.2.2.out.below hb))
        clear hK K
        replace hHeld := hNew
        clear hNew
        ((try simp only [Act.put]); (try simp only [List.setIfInBounds_toArray]); (try simp only [List.set_cons_succ]); (try simp only [List.set_cons_zero]))
        refine wpAnyH_ready (rs := [43]) (by kernel_rfl) (by simp) ?_
        refine AllReadyH.cons (o := { dst := some 78, op := Op.convert 23 9 (Operand.tmp 77), type := 9, pos := "law.go:44", after := #[{ on := 42, ground := Ground.data }, { on := 40, ground := Ground.guard }], guard := some (40, false) }) rfl (fun K hK => ?_) AllReadyH.nil
        have cv := conv_any hHeld.2.2.2.2.2.2.2.2.2.2.1.out.sl rfl
        go_simp
        clear cv
        try go_wp2_with fail
        refine hK.out _ _ ?_ (fun hNew => ?_)
        · first | exact hHeld | exact three3 (Fun.of hb hHeld.2.2.2.2.2.2.2.2.2.1) (Fun.of hb hHeld.2.2.2.2.2.2.2.2.2.2.1) (Fun.of hb hHeld.2.2.2.2.2.2.2.2.2.2.2.1) (Lib.hid (hHeld.2.2.2.2.2.2.2.2.2.2.2.2.out.below hb))
        clear hK K
        replace hHeld := hNew
        clear hNew
        ((try simp only [Act.put]); (try simp only [List.setIfInBounds_toArray]); (try simp only [List.set_cons_succ]); (try simp only [List.set_cons_zero]))
        refine wpAnyH_take (i := 47) (oi := { dst := some 82, op := Op.binOp BinOp.neq 9 (Operand.tmp 78) (Operand.tmp 81) 9, type := 4, pos := "law.go:44", after := #[{ on := 43, ground := Ground.data }, { on := 46, ground := Ground.data }, { on := 40, ground := Ground.guard }], guard := some (40, false) }) (v := ?_) rfl (by kernel_rfl) (by kernel_rfl) (by kernel_rfl) (fun _ _ _ h => h) (Or.inl ⟨by rfl, ?_⟩) (by assumption) ?_
        rotate_left
        · (intro w hSw; (try dsimp only at hSw); go_simp; try with_reducible rfl)
        ((try simp only [Act.put]); (try simp only [List.setIfInBounds_toArray]); (try simp only [List.set_cons_succ]); (try simp only [List.set_cons_zero]))
        refine wpAnyH_take (i := 48) (oi := { dst := some 83, op := Op.pick (Operand.tmp 75) (Operand.const (Value.bool true)) (Operand.tmp 82), type := 4, pos := "law.go:44", after := #[{ on := 40, ground := Ground.data }, { on := 47, ground := Ground.data }], guard := none }) (v := ?_) rfl (by kernel_rfl) (by kernel_rfl) (by kernel_rfl) (fun _ _ _ h => h) (Or.inl ⟨by rfl, ?_⟩) (by assumption) ?_
        rotate_left
        · (intro w hSw; (try dsimp only at hSw); go_simp; try with_reducible rfl)
        ((try simp only [Act.put]); (try simp only [List.setIfInBounds_toArray]); (try simp only [List.set_cons_succ]); (try simp only [List.set_cons_zero]))
        refine wpAnyH_done (by kernel_rfl) ?_ _
        refine NoPanic.normal ?_
        have X7 := hHeld.2.2.2.2.2.2.2.2.2.1
        have SP7 := hHeld.2.2.2.2.2.2.2.2.2.2.2.2
        clear hHeld X6 Y5 Z5 SP5
        obtain ⟨j0, j1, j2⟩ := X7.out.bx
        by_cases l4 : q = []
        · subst l4
          go_wp2_with fail
          go_ret
          exact ⟨rfl, X7.out.be⟩
        have d4 : ((q.length : Int) == 0) = false := by simp [l4]
        have G1 := Lib.hid (show goodF f = true by
          cases hg : goodF f with
          | true => rfl
          | false => exact absurd (by rw [← E.out]; unfold bytesF; rw [hg]; rfl) l4)
        have P1 := Lib.hid (show putF f = q by rw [← E.out]; unfold bytesF; rw [G1.out]; rfl)
        have QL := Lib.hid (show q.length ≤ 1000000 by have := (putF_len O.out G1.out).2; rw [P1.out] at this; omega)
        have GP := Lib.hid (show okF q = true ∧ gotF q = f by rw [← P1.out]; exact gotF_put O.out G1.out)
        clear l4
        go_wp2_with fail
        refine (fget_of SP7.out rfl QL.out GP.out.2 GP.out.1).mono ?_
        rintro e w8 ⟨b8, c8, rfl, hs8, hb, _⟩
        have X8 := Fun.alloc (o := .cells (frmA f b8 c8) 27) (Fun.of hb X7)
        have Z8 := Fun.lay X7.out.be X7.out.le hb hs8 27
        clear hb hs8 X7 j0 j1 j2
        obtain ⟨j0, j1, j2⟩ := X8.out.bx
        obtain ⟨i0, i1, i2⟩ := Z8.out.bx
        have cf := conv_any X8.out.sl rfl
        have cg := conv_any Z8.out.sl rfl
        go_wp2_with fail
        go_ret
        exact ⟨rfl, X8.out.be⟩
    · skip
      go_simp
      refine (rfput_is (f := f) hHeld.2.2.2.2.2.2.2.2.2.1.out.sl O.out E.out).mono ?_
      rintro e w' ⟨a6, c6, rfl, hsq, hb⟩
      have cq := conv_any hsq rfl
      have CQ := Lib.hid cq
      clear hsq cq
      try go_wp2_with fail
      refine hK.out _ _ ?_ (fun hNew => ?_)
      · first | exact hHeld | exact three3 (Fun.of hb hHeld.2.2.2.2.2.2.2.2.2.1) (Fun.of hb hHeld.2.2.2.2.2.2.2.2.2.2.1) (Fun.of hb hHeld.2.2.2.2.2.2.2.2.2.2.2.1) (Lib.hid (hHeld.2.2.2.2.2.2.2.2.2.2.2.2.out.below hb))
      clear hK K
      replace hHeld := hNew
      clear hNew
      ((try simp only [Act.put]); (try simp only [List.setIfInBounds_toArray]); (try simp only [List.set_cons_succ]); (try simp only [List.set_cons_zero]))
      refine wpAnyH_ready (rs := [1, 10]) (by kernel_rfl) (by simp) ?_
      refine AllReadyH.cons (o := { dst := some 36, op := Op.convert 23 9 (Operand.tmp 35), type := 9, pos := "law.go:44", after := #[{ on := 0, ground := Ground.data }], guard := none }) rfl (fun K hK => ?_) (AllReadyH.cons (o := { dst := some 45, op := Op.convert 23 9 (Operand.tmp 44), type := 9, pos := "law.go:44", after := #[{ on := 9, ground := Ground.data }], guard := none }) rfl (fun K hK => ?_) AllReadyH.nil)
      · skip
        have cv := conv_any hHeld.2.2.2.2.2.2.2.2.2.2.2.2.out rfl
        go_simp
        clear cv
        try go_wp2_with fail
        refine hK.out _ _ ?_ (fun hNew => ?_)
        · first | exact hHeld | exact three3 (Fun.of hb hHeld.2.2.2.2.2.2.2.2.2.1) (Fun.of hb hHeld.2.2.2.2.2.2.2.2.2.2.1) (Fun.of hb hHeld.2.2.2.2.2.2.2.2.2.2.2.1) (Lib.hid (hHeld.2.2.2.2.2.2.2.2.2.2.2.2.out.below hb))
        clear hK K
        replace hHeld := hNew
        clear hNew
        ((try simp only [Act.put]); (try simp only [List.setIfInBounds_toArray]); (try simp only [List.set_cons_succ]); (try simp only [List.set_cons_zero]))
        refine wpAnyH_ready (rs := [10]) (by kernel_rfl) (by simp) ?_
        refine AllReadyH.cons (o := { dst := some 45, op := Op.convert 23 9 (Operand.tmp 44), type := 9, pos := "law.go:44", after := #[{ on := 9, ground := Ground.data }], guard := none }) rfl (fun K hK => ?_) AllReadyH.nil
        have cv := CQ.out
        go_simp
        clear cv
        try go_wp2_with fail
        refine hK.out _ _ ?_ (fun hNew => ?_)
        · first | exact hHeld | exact three3 (Fun.of hb hHeld.2.2.2.2.2.2.2.2.2.1) (Fun.of hb hHeld.2.2.2.2.2.2.2.2.2.2.1) (Fun.of hb hHeld.2.2.2.2.2.2.2.2.2.2.2.1) (Lib.hid (hHeld.2.2.2.2.2.2.2.2.2.2.2.2.out.below hb))
        clear hK K
        replace hHeld := hNew
        clear hNew
        ((try simp only [Act.put]); (try simp only [List.setIfInBounds_toArray]); (try simp only [List.set_cons_succ]); (try simp only [List.set_cons_zero]))
        refine wpAnyH_take (i := 11) (oi := { dst := some 46, op := Op.binOp BinOp.neq 9 (Operand.tmp 36) (Operand.tmp 45) 9, type := 4, pos := "law.go:44", after := #[{ on := 1, ground := Ground.data }, { on := 10, ground := Ground.data }], guard := none }) (v := ?_) rfl (by kernel_rfl) (by kernel_rfl) (by kernel_rfl) (fun _ _ _ h => h) (Or.inl ⟨by rfl, ?_⟩) (by assumption) ?_
        rotate_left
        · (intro w hSw; (try dsimp only at hSw); go_simp; try with_reducible rfl)
        ((try simp only [Act.put]); (try simp only [List.setIfInBounds_toArray]); (try simp only [List.set_cons_succ]); (try simp only [List.set_cons_zero]))
        refine wpAnyH_take (i := 12) (oi := { dst := some 47, op := Op.move (Operand.tmp 46), type := 4, pos := "law.go:44", after := #[{ on := 11, ground := Ground.data }, { on := 9, ground := Ground.chain }], guard := none }) (v := ?_) rfl (by kernel_rfl) (by kernel_rfl) (by kernel_rfl) (fun _ _ _ h => h) (Or.inl ⟨by rfl, ?_⟩) (by assumption) ?_
        rotate_left
        · (intro w hSw; (try dsimp only at hSw); go_simp; try with_reducible rfl)
        ((try simp only [Act.put]); (try simp only [List.setIfInBounds_toArray]); (try simp only [List.set_cons_succ]); (try simp only [List.set_cons_zero]))
        refine wpAnyH_take (i := 13) (oi := { dst := some 48, op := Op.move (Operand.tmp 7), type := 28, pos := "law.go:44", after := #[{ on := 12, ground := Ground.guard }], guard := some (12, false) }) (v := ?_) rfl (by kernel_rfl) (by kernel_rfl) (by kernel_rfl) (fun _ _ _ h => h) (Or.inl ⟨by rfl, ?_⟩) (by assumption) ?_
        rotate_left
        · (intro w hSw; (try dsimp only at hSw); go_simp; try with_reducible rfl)
        ((try simp only [Act.put]); (try simp only [List.setIfInBounds_toArray]); (try simp only [List.set_cons_succ]); (try simp only [List.set_cons_zero]))
        refine wpAnyH_take (i := 14) (oi := { dst := some 49, op := Op.binOp BinOp.eql 28 (Operand.tmp 48) (Operand.const (Value.int IntKind.i64 0)) 28, type := 4, pos := "law.go:44", after := #[{ on := 13, ground := Ground.data }, { on := 12, ground := Ground.guard }], guard := some (12, false) }) (v := ?_) rfl (by kernel_rfl) (by kernel_rfl) (by kernel_rfl) (fun _ _ _ h => h) (Or.inl ⟨by rfl, ?_⟩) (by assumption) ?_
        rotate_left
        · (intro w hSw; (try dsimp only at hSw); go_simp; try with_reducible rfl)
        ((try simp only [Act.put]); (try simp only [List.setIfInBounds_toArray]); (try simp only [List.set_cons_succ]); (try simp only [List.set_cons_zero]))
        refine wpAnyH_take (i := 15) (oi := { dst := some 50, op := Op.move (Operand.tmp 9), type := 4, pos := "law.go:44", after := #[{ on := 12, ground := Ground.guard }], guard := some (12, false) }) (v := ?_) rfl (by kernel_rfl) (by kernel_rfl) (by kernel_rfl) (fun _ _ _ h => h) (Or.inl ⟨by rfl, ?_⟩) (by assumption) ?_
        rotate_left
        · (intro w hSw; (try dsimp only at hSw); go_simp; try with_reducible rfl)
        ((try simp only [Act.put]); (try simp only [List.setIfInBounds_toArray]); (try simp only [List.set_cons_succ]); (try simp only [List.set_cons_zero]))
        refine wpAnyH_take (i := 16) (oi := { dst := some 51, op := Op.binOp BinOp.neq 4 (Operand.tmp 49) (Operand.tmp 50) 4, type := 4, pos := "law.go:44", after := #[{ on := 14, ground := Ground.data }, { on := 15, ground := Ground.data }, { on := 12, ground := Ground.guard }], guard := some (12, false) }) (v := ?_) rfl (by kernel_rfl) (by kernel_rfl) (by kernel_rfl) (fun _ _ _ h => h) (Or.inl ⟨by rfl, ?_⟩) (by assumption) ?_
        rotate_left
        · (intro w hSw; (try dsimp only at hSw); go_simp; try with_reducible rfl)
        ((try simp only [Act.put]); (try simp only [List.setIfInBounds_toArray]); (try simp only [List.set_cons_succ]); (try simp only [List.set_cons_zero]))
        refine wpAnyH_take (i := 17) (oi := { dst := some 52, op := Op.pick (Operand.tmp 47) (Operand.const (Value.bool true)) (Operand.tmp 51), type := 4, pos := "law.go:44", after := #[{ on := 12, ground := Ground.data }, { on := 16, ground := Ground.data }], guard := none }) (v := ?_) rfl (by kernel_rfl) (by kernel_rfl) (by kernel_rfl) (fun _ _ _ h => h) (Or.inl ⟨by rfl, ?_⟩) (by assumption) ?_
        rotate_left
        · (intro w hSw; (try dsimp only at hSw); go_simp; try with_reducible rfl)
        ((try simp only [Act.put]); (try simp only [List.setIfInBounds_toArray]); (try simp only [List.set_cons_succ]); (try simp only [List.set_cons_zero]))
        refine wpAnyH_take (i := 18) (oi := { dst := some 53, op := Op.move (Operand.tmp 52), type := 4, pos := "law.go:44", after := #[{ on := 17, ground := Ground.data }, { on := 12, ground := Ground.chain }], guard := none }) (v := ?_) rfl (by kernel_rfl) (by kernel_rfl) (by kernel_rfl) (fun _ _ _ h => h) (Or.inl ⟨by rfl, ?_⟩) (by assumption) ?_
        rotate_left
        · (intro w hSw; (try dsimp only at hSw); go_simp; try with_reducible rfl)
        ((try simp only [Act.put]); (try simp only [List.setIfInBounds_toArray]); (try simp only [List.set_cons_succ]); (try simp only [List.set_cons_zero]))
        refine wpAnyH_take (i := 19) (oi := { dst := some 54, op := Op.move (Operand.tmp 9), type := 4, pos := "law.go:44", after := #[{ on := 18, ground := Ground.guard }], guard := some (18, false) }) (v := ?_) rfl (by kernel_rfl) (by kernel_rfl) (by kernel_rfl) (fun _ _ _ h => h) (Or.inl ⟨by rfl, ?_⟩) (by assumption) ?_
        rotate_left
        · (intro w hSw; (try dsimp only at hSw); go_simp; try with_reducible rfl)
        ((try simp only [Act.put]); (try simp only [List.setIfInBounds_toArray]); (try simp only [List.set_cons_succ]); (try simp only [List.set_cons_zero]))
        refine wpAnyH_take (i := 20) (oi := { dst := some 55, op := Op.unOp UnOp.not 4 (Operand.tmp 54), type := 4, pos := "law.go:44", after := #[{ on := 19, ground := Ground.data }, { on := 18, ground := Ground.guard }], guard := some (18, false) }) (v := ?_) rfl (by kernel_rfl) (by kernel_rfl) (by kernel_rfl) (fun _ _ _ h => h) (Or.inl ⟨by rfl, ?_⟩) (by assumption) ?_
        rotate_left
        · (intro w hSw; (try dsimp only at hSw); go_simp; try with_reducible rfl)
        ((try simp only [Act.put]); (try simp only [List.setIfInBounds_toArray]); (try simp only [List.set_cons_succ]); (try simp only [List.set_cons_zero]))
        refine wpAnyH_take (i := 21) (oi := { dst := some 56, op := Op.move (Operand.tmp 55), type := 4, pos := "law.go:44", after := #[{ on := 20, ground := Ground.data }, { on := 18, ground := Ground.chain }, { on := 18, ground := Ground.guard }], guard := some (18, false) }) (v := ?_) rfl (by kernel_rfl) (by kernel_rfl) (by kernel_rfl) (fun _ _ _ h => h) (Or.inl ⟨by rfl, ?_⟩) (by assumption) ?_
        rotate_left
        · (intro w hSw; (try dsimp only at hSw); go_simp; try with_reducible rfl)
        ((try simp only [Act.put]); (try simp only [List.setIfInBounds_toArray]); (try simp only [List.set_cons_succ]); (try simp only [List.set_cons_zero]))
        refine wpAnyH_take (i := 22) (oi := { dst := some 57, op := Op.move (Operand.tmp 7), type := 28, pos := "law.go:44", after := #[{ on := 21, ground := Ground.guard }], guard := some (21, true) }) (v := undef) rfl (by kernel_rfl) (by kernel_rfl) (by kernel_rfl) (fun _ _ _ h => h) (Or.inr ⟨by rfl, rfl⟩) (by assumption) ?_
        ((try simp only [Act.put]); (try simp only [List.setIfInBounds_toArray]); (try simp only [List.set_cons_succ]); (try simp only [List.set_cons_zero]))
        refine wpAnyH_take (i := 23) (oi := { dst := some 58, op := Op.binOp BinOp.neq 28 (Operand.tmp 57) (Operand.const (Value.int IntKind.i64 2)) 28, type := 4, pos := "law.go:44", after := #[{ on := 22, ground := Ground.data }, { on := 21, ground := Ground.guard }], guard := some (21, true) }) (v := undef) rfl (by kernel_rfl) (by kernel_rfl) (by kernel_rfl) (fun _ _ _ h => h) (Or.inr ⟨by rfl, rfl⟩) (by assumption) ?_
        ((try simp only [Act.put]); (try simp only [List.setIfInBounds_toArray]); (try simp only [List.set_cons_succ]); (try simp only [List.set_cons_zero]))
        refine wpAnyH_take (i := 24) (oi := { dst := some 59, op := Op.pick (Operand.tmp 56) (Operand.tmp 58) (Operand.const (Value.bool false)), type := 4, pos := "law.go:44", after := #[{ on := 21, ground := Ground.data }, { on := 23, ground := Ground.data }, { on := 18, ground := Ground.guard }], guard := some (18, false) }) (v := ?_) rfl (by kernel_rfl) (by kernel_rfl) (by kernel_rfl) (fun _ _ _ h => h) (Or.inl ⟨by rfl, ?_⟩) (by assumption) ?_
        rotate_left
        · (intro w hSw; (try dsimp only at hSw); go_simp; try with_reducible rfl)
        ((try simp only [Act.put]); (try simp only [List.setIfInBounds_toArray]); (try simp only [List.set_cons_succ]); (try simp only [List.set_cons_zero]))
        refine wpAnyH_take (i := 25) (oi := { dst := some 60, op := Op.pick (Operand.tmp 53) (Operand.const (Value.bool true)) (Operand.tmp 59), type := 4, pos := "law.go:44", after := #[{ on := 18, ground := Ground.data }, { on := 24, ground := Ground.data }], guard := none }) (v := ?_) rfl (by kernel_rfl) (by kernel_rfl) (by kernel_rfl) (fun _ _ _ h => h) (Or.inl ⟨by rfl, ?_⟩) (by assumption) ?_
        rotate_left
        · (intro w hSw; (try dsimp only at hSw); go_simp; try with_reducible rfl)
        ((try simp only [Act.put]); (try simp only [List.setIfInBounds_toArray]); (try simp only [List.set_cons_succ]); (try simp only [List.set_cons_zero]))
        refine wpAnyH_take (i := 26) (oi := { dst := some 61, op := Op.move (Operand.tmp 60), type := 4, pos := "law.go:44", after := #[{ on := 25, ground := Ground.data }, { on := 21, ground := Ground.chain }], guard := none }) (v := ?_) rfl (by kernel_rfl) (by kernel_rfl) (by kernel_rfl) (fun _ _ _ h => h) (Or.inl ⟨by rfl, ?_⟩) (by assumption) ?_
        rotate_left
        · (intro w hSw; (try dsimp only at hSw); go_simp; try with_reducible rfl)
        ((try simp only [Act.put]); (try simp only [List.setIfInBounds_toArray]); (try simp only [List.set_cons_succ]); (try simp only [List.set_cons_zero]))
        refine wpAnyH_take (i := 27) (oi := { dst := some 62, op := Op.fieldAddr 27 (Operand.tmp 6) 0, type := 0, pos := "law.go:44", after := #[{ on := 26, ground := Ground.guard }], guard := some (26, false) }) (v := ?_) rfl (by kernel_rfl) (by kernel_rfl) (by kernel_rfl) (fun _ _ _ h => h) (Or.inl ⟨by rfl, ?_⟩) (by assumption) ?_
        rotate_left
        · (intro w hSw; (try dsimp only at hSw); go_simp; try with_reducible rfl)
        ((try simp only [Act.put]); (try simp only [List.setIfInBounds_toArray]); (try simp only [List.set_cons_succ]); (try simp only [List.set_cons_zero]))
        refine wpAnyH_take (i := 28) (oi := { dst := some 63, op := Op.load 4 (Operand.tmp 62), type := 4, pos := "law.go:44", after := #[{ on := 27, ground := Ground.data }, { on := 26, ground := Ground.guard }], guard := some (26, false) }) (v := ?_) rfl (by kernel_rfl) (by kernel_rfl) (by kernel_rfl) (fun _ _ _ h => h) (Or.inl ⟨by rfl, ?_⟩) (by assumption) ?_
        rotate_left
        · (intro w hSw; (try dsimp only at hSw); go_simp; try with_reducible rfl)
        ((try simp only [Act.put]); (try simp only [List.setIfInBounds_toArray]); (try simp only [List.set_cons_succ]); (try simp only [List.set_cons_zero]))
        refine wpAnyH_take (i := 29) (oi := { dst := some 64, op := Op.fieldAddr 32 (Operand.tmp 8) 0, type := 0, pos := "law.go:44", after := #[{ on := 26, ground := Ground.guard }], guard := some (26, false) }) (v := ?_) rfl (by kernel_rfl) (by kernel_rfl) (by kernel_rfl) (fun _ _ _ h => h) (Or.inl ⟨by rfl, ?_⟩) (by assumption) ?_
        rotate_left
        · (intro w hSw; (try dsimp only at hSw); go_simp; try with_reducible rfl)
        ((try simp only [Act.put]); (try simp only [List.setIfInBounds_toArray]); (try simp only [List.set_cons_succ]); (try simp only [List.set_cons_zero]))
        refine wpAnyH_take (i := 30) (oi := { dst := some 65, op := Op.load 4 (Operand.tmp 64), type := 4, pos := "law.go:44", after := #[{ on := 29, ground := Ground.data }, { on := 26, ground := Ground.guard }], guard := some (26, false) }) (v := ?_) rfl (by kernel_rfl) (by kernel_rfl) (by kernel_rfl) (fun _ _ _ h => h) (Or.inl ⟨by rfl, ?_⟩) (by assumption) ?_
        rotate_left
        · (intro w hSw; (try dsimp only at hSw); go_simp; try with_reducible rfl)
        ((try simp only [Act.put]); (try simp only [List.setIfInBounds_toArray]); (try simp only [List.set_cons_succ]); (try simp only [List.set_cons_zero]))
        refine wpAnyH_take (i := 31) (oi := { dst := some 66, op := Op.binOp BinOp.neq 4 (Operand.tmp 63) (Operand.tmp 65) 4, type := 4, pos := "law.go:44", after := #[{ on := 28, ground := Ground.data }, { on := 30, ground := Ground.data }, { on := 26, ground := Ground.guard }], guard := some (26, false) }) (v := ?_) rfl (by kernel_rfl) (by kernel_rfl) (by kernel_rfl) (fun _ _ _ h => h) (Or.inl ⟨by rfl, ?_⟩) (by assumption) ?_
        rotate_left
        · (intro w hSw; (try dsimp only at hSw); go_simp; try with_reducible rfl)
        ((try simp only [Act.put]); (try simp only [List.setIfInBounds_toArray]); (try simp only [List.set_cons_succ]); (try simp only [List.set_cons_zero]))
        refine wpAnyH_take (i := 32) (oi := { dst := some 67, op := Op.pick (Operand.tmp 61) (Operand.const (Value.bool true)) (Operand.tmp 66), type := 4, pos := "law.go:44", after := #[{ on := 26, ground := Ground.data }, { on := 31, ground := Ground.data }], guard := none }) (v := ?_) rfl (by kernel_rfl) (by kernel_rfl) (by kernel_rfl) (fun _ _ _ h => h) (Or.inl ⟨by rfl, ?_⟩) (by assumption) ?_
        rotate_left
        · (intro w hSw; (try dsimp only at hSw); go_simp; try with_reducible rfl)
        ((try simp only [Act.put]); (try simp only [List.setIfInBounds_toArray]); (try simp only [List.set_cons_succ]); (try simp only [List.set_cons_zero]))
        refine wpAnyH_take (i := 33) (oi := { dst := some 68, op := Op.move (Operand.tmp 67), type := 4, pos := "law.go:44", after := #[{ on := 32, ground := Ground.data }, { on := 26, ground := Ground.chain }], guard := none }) (v := ?_) rfl (by kernel_rfl) (by kernel_rfl) (by kernel_rfl) (fun _ _ _ h => h) (Or.inl ⟨by rfl, ?_⟩) (by assumption) ?_
        rotate_left
        · (intro w hSw; (try dsimp only at hSw); go_simp; try with_reducible rfl)
        ((try simp only [Act.put]); (try simp only [List.setIfInBounds_toArray]); (try simp only [List.set_cons_succ]); (try simp only [List.set_cons_zero]))
        refine wpAnyH_take (i := 34) (oi := { dst := some 69, op := Op.fieldAddr 27 (Operand.tmp 6) 1, type := 0, pos := "law.go:44", after := #[{ on := 33, ground := Ground.guard }], guard := some (33, false) }) (v := ?_) rfl (by kernel_rfl) (by kernel_rfl) (by kernel_rfl) (fun _ _ _ h => h) (Or.inl ⟨by rfl, ?_⟩) (by assumption) ?_
        rotate_left
        · (intro w hSw; (try dsimp only at hSw); go_simp; try with_reducible rfl)
        ((try simp only [Act.put]); (try simp only [List.setIfInBounds_toArray]); (try simp only [List.set_cons_succ]); (try simp only [List.set_cons_zero]))
        refine wpAnyH_take (i := 35) (oi := { dst := some 70, op := Op.load 25 (Operand.tmp 69), type := 25, pos := "law.go:44", after := #[{ on := 34, ground := Ground.data }, { on := 33, ground := Ground.guard }], guard := some (33, false) }) (v := ?_) rfl (by kernel_rfl) (by kernel_rfl) (by kernel_rfl) (fun _ _ _ h => h) (Or.inl ⟨by rfl, ?_⟩) (by assumption) ?_
        rotate_left
        · (intro w hSw; (try dsimp only at hSw); go_simp; try with_reducible rfl)
        ((try simp only [Act.put]); (try simp only [List.setIfInBounds_toArray]); (try simp only [List.set_cons_succ]); (try simp only [List.set_cons_zero]))
        refine wpAnyH_take (i := 36) (oi := { dst := some 71, op := Op.fieldAddr 32 (Operand.tmp 8) 1, type := 0, pos := "law.go:44", after := #[{ on := 33, ground := Ground.guard }], guard := some (33, false) }) (v := ?_) rfl (by kernel_rfl) (by kernel_rfl) (by kernel_rfl) (fun _ _ _ h => h) (Or.inl ⟨by rfl, ?_⟩) (by assumption) ?_
        rotate_left
        · (intro w hSw; (try dsimp only at hSw); go_simp; try with_reducible rfl)
        ((try simp only [Act.put]); (try simp only [List.setIfInBounds_toArray]); (try simp only [List.set_cons_succ]); (try simp only [List.set_cons_zero]))
        refine wpAnyH_take (i := 37) (oi := { dst := some 72, op := Op.load 25 (Operand.tmp 71), type := 25, pos := "law.go:44", after := #[{ on := 36, ground := Ground.data }, { on := 33, ground := Ground.guard }], guard := some (33, false) }) (v := ?_) rfl (by kernel_rfl) (by kernel_rfl) (by kernel_rfl) (fun _ _ _ h => h) (Or.inl ⟨by rfl, ?_⟩) (by assumption) ?_
        rotate_left
        · (intro w hSw; (try dsimp only at hSw); go_simp; try with_reducible rfl)
        ((try simp only [Act.put]); (try simp only [List.setIfInBounds_toArray]); (try simp only [List.set_cons_succ]); (try simp only [List.set_cons_zero]))
        refine wpAnyH_take (i := 38) (oi := { dst := some 73, op := Op.binOp BinOp.neq 25 (Operand.tmp 70) (Operand.tmp 72) 25, type := 4, pos := "law.go:44", after := #[{ on := 35, ground := Ground.data }, { on := 37, ground := Ground.data }, { on := 33, ground := Ground.guard }], guard := some (33, false) }) (v := ?_) rfl (by kernel_rfl) (by kernel_rfl) (by kernel_rfl) (fun _ _ _ h => h) (Or.inl ⟨by rfl, ?_⟩) (by assumption) ?_
        rotate_left
        · (intro w hSw; (try dsimp only at hSw); go_simp; try with_reducible rfl)
        ((try simp only [Act.put]); (try simp only [List.setIfInBounds_toArray]); (try simp only [List.set_cons_succ]); (try simp only [List.set_cons_zero]))
        refine wpAnyH_take (i := 39) (oi := { dst := some 74, op := Op.pick (Operand.tmp 68) (Operand.const (Value.bool true)) (Operand.tmp 73), type := 4, pos := "law.go:44", after := #[{ on := 33, ground := Ground.data }, { on := 38, ground := Ground.data }], guard := none }) (v := ?_) rfl (by kernel_rfl) (by kernel_rfl) (by kernel_rfl) (fun _ _ _ h => h) (Or.inl ⟨by rfl, ?_⟩) (by assumption) ?_
        rotate_left
        · (intro w hSw; (try dsimp only at hSw); go_simp; try with_reducible rfl)
        ((try simp only [Act.put]); (try simp only [List.setIfInBounds_toArray]); (try simp only [List.set_cons_succ]); (try simp only [List.set_cons_zero]))
        refine wpAnyH_take (i := 40) (oi := { dst := some 75, op := Op.move (Operand.tmp 74), type := 4, pos := "law.go:44", after := #[{ on := 39, ground := Ground.data }, { on := 33, ground := Ground.chain }], guard := none }) (v := ?_) rfl (by kernel_rfl) (by kernel_rfl) (by kernel_rfl) (fun _ _ _ h => h) (Or.inl ⟨by rfl, ?_⟩) (by assumption) ?_
        rotate_left
        · (intro w hSw; (try dsimp only at hSw); go_simp; try with_reducible rfl)
        ((try simp only [Act.put]); (try simp only [List.setIfInBounds_toArray]); (try simp only [List.set_cons_succ]); (try simp only [List.set_cons_zero]))
        refine wpAnyH_take (i := 41) (oi := { dst := some 76, op := Op.fieldAddr 27 (Operand.tmp 6) 2, type := 0, pos := "law.go:44", after := #[{ on := 40, ground := Ground.guard }], guard := some (40, false) }) (v := ?_) rfl (by kernel_rfl) (by kernel_rfl) (by kernel_rfl) (fun _ _ _ h => h) (Or.inl ⟨by rfl, ?_⟩) (by assumption) ?_
        rotate_left
        · (intro w hSw; (try dsimp only at hSw); go_simp; try with_reducible rfl)
        ((try simp only [Act.put]); (try simp only [List.setIfInBounds_toArray]); (try simp only [List.set_cons_succ]); (try simp only [List.set_cons_zero]))
        refine wpAnyH_take (i := 42) (oi := { dst := some 77, op := Op.load 23 (Operand.tmp 76), type := 23, pos := "law.go:44", after := #[{ on := 41, ground := Ground.data }, { on := 40, ground := Ground.guard }], guard := some (40, false) }) (v := ?_) rfl (by kernel_rfl) (by kernel_rfl) (by kernel_rfl) (fun _ _ _ h => h) (Or.inl ⟨by rfl, ?_⟩) (by assumption) ?_
        rotate_left
        · (intro w hSw; (try dsimp only at hSw); go_simp; try with_reducible rfl)
        ((try simp only [Act.put]); (try simp only [List.setIfInBounds_toArray]); (try simp only [List.set_cons_succ]); (try simp only [List.set_cons_zero]))
        refine wpAnyH_take (i := 44) (oi := { dst := some 79, op := Op.fieldAddr 32 (Operand.tmp 8) 2, type := 0, pos := "law.go:44", after := #[{ on := 40, ground := Ground.guard }], guard := some (40, false) }) (v := ?_) rfl (by kernel_rfl) (by kernel_rfl) (by kernel_rfl) (fun _ _ _ h => h) (Or.inl ⟨by rfl, ?_⟩) (by assumption) ?_
        rotate_left
        · (intro w hSw; (try dsimp only at hSw); go_simp; try with_reducible rfl)
        ((try simp only [Act.put]); (try simp only [List.setIfInBounds_toArray]); (try simp only [List.set_cons_succ]); (try simp only [List.set_cons_zero]))
        refine wpAnyH_take (i := 45) (oi := { dst := some 80, op := Op.load 23 (Operand.tmp 79), type := 23, pos := "law.go:44", after := #[{ on := 44, ground := Ground.data }, { on := 40, ground := Ground.guard }], guard := some (40, false) }) (v := ?_) rfl (by kernel_rfl) (by kernel_rfl) (by kernel_rfl) (fun _ _ _ h => h) (Or.inl ⟨by rfl, ?_⟩) (by assumption) ?_
        rotate_left
        · (intro w hSw; (try dsimp only at hSw); go_simp; try with_reducible rfl)
        ((try simp only [Act.put]); (try simp only [List.setIfInBounds_toArray]); (try simp only [List.set_cons_succ]); (try simp only [List.set_cons_zero]))
        refine wpAnyH_ready (rs := [43, 46]) (by kernel_rfl) (by simp) ?_
        refine AllReadyH.cons (o := { dst := some 78, op := Op.convert 23 9 (Operand.tmp 77), type := 9, pos := "law.go:44", after := #[{ on := 42, ground := Ground.data }, { on := 40, ground := Ground.guard }], guard := some (40, false) }) rfl (fun K hK => ?_) (AllReadyH.cons (o := { dst := some 81, op := Op.convert 23 9 (Operand.tmp 80), type := 9, pos := "law.go:44", after := #[{ on := 45, ground := Ground.data }, { on := 40, ground := Ground.guard }], guard := some (40, false) }) rfl (fun K hK => ?_) AllReadyH.nil)
        · skip
          have cv := conv_any hHeld.2.2.2.2.2.2.2.2.2.2.1.out.sl rfl
          go_simp
          clear cv
          try go_wp2_with fail
          refine hK.out _ _ ?_ (fun hNew => ?_)
          · first | exact hHeld | exact three3 (Fun.of hb hHeld.2.2.2.2.2.2.2.2.2.1) (Fun.of hb hHeld.2.2.2.2.2.2.2.2.2.2.1) (Fun.of hb hHeld.2.2.2.2.2.2.2.2.2.2.2.1) (Lib.hid (hHeld.2.2.2.2.2.2.2.2.2.2.2.2.out.below hb))
          clear hK K
          replace hHeld := hNew
          clear hNew
          ((try simp only [Act.put]); (try simp only [List.setIfInBounds_toArray]); (try simp only [List.set_cons_succ]); (try simp only [List.set_cons_zero]))
          refine wpAnyH_ready (rs := [46]) (by kernel_rfl) (by simp) ?_
          refine AllReadyH.cons (o := { dst := some 81, op := Op.convert 23 9 (Operand.tmp 80), type := 9, pos := "law.go:44", after := #[{ on := 45, ground := Ground.data }, { on := 40, ground := Ground.guard }], guard := some (40, false) }) rfl (fun K hK => ?_) AllReadyH.nil
          have cv := conv_any hHeld.2.2.2.2.2.2.2.2.2.2.2.1.out.sl rfl
          go_simp
          clear cv
          try go_wp2_with fail
          refine hK.out _ _ ?_ (fun hNew => ?_)
          · first | exact hHeld | exact three3 (Fun.of hb hHeld.2.2.2.2.2.2.2.2.2.1) (Fun.of hb hHeld.2.2.2.2.2.2.2.2.2.2.1) (Fun.of hb hHeld.2.2.2.2.2.2.2.2.2.2.2.1) (Lib.hid (hHeld.2.2.2.2.2.2.2.2.2.2.2.2.out.below hb))
          clear hK K
          replace hHeld := hNew
          clear hNew
          ((try simp only [Act.put]); (try simp only [List.setIfInBounds_toArray]); (try simp only [List.set_cons_succ]); (try simp only [List.set_cons_zero]))
          refine wpAnyH_take (i := 47) (oi := { dst := some 82, op := Op.binOp BinOp.neq 9 (Operand.tmp 78) (Operand.tmp 81) 9, type := 4, pos := "law.go:44", after := #[{ on := 43, ground := Ground.data }, { on := 46, ground := Ground.data }, { on := 40, ground := Ground.guard }], guard := some (40, false) }) (v := ?_) rfl (by kernel_rfl) (by kernel_rfl) (by kernel_rfl) (fun _ _ _ h => h) (Or.inl ⟨by rfl, ?_⟩) (by assumption) ?_
          rotate_left
          · (intro w hSw; (try dsimp only at hSw); go_simp; try with_reducible rfl)
          ((try simp only [Act.put]); (try simp only [List.setIfInBounds_toArray]); (try simp only [List.set_cons_succ]); (try simp only [List.set_cons_zero]))
          refine wpAnyH_take (i := 48) (oi := { dst := some 83, op := Op.pick (Operand.tmp 75) (Operand.const (Value.bool true)) (Operand.tmp 82), type := 4, pos := "law.go:44", after := #[{ on := 40, ground := Ground.data }, { on := 47, ground := Ground.data }], guard := none }) (v := ?_) rfl (by kernel_rfl) (by kernel_rfl) (by kernel_rfl) (fun _ _ _ h => h) (Or.inl ⟨by rfl, ?_⟩) (by assumption) ?_
          rotate_left
          · (intro w hSw; (try dsimp only at hSw); go_simp; try with_reducible rfl)
          ((try simp only [Act.put]); (try simp only [List.setIfInBounds_toArray]); (try simp only [List.set_cons_succ]); (try simp only [List.set_cons_zero]))
          refine wpAnyH_done (by kernel_rfl) ?_ _
          refine NoPanic.normal ?_
          have X7 := hHeld.2.2.2.2.2.2.2.2.2.1
          have SP7 := hHeld.2.2.2.2.2.2.2.2.2.2.2.2
          clear hHeld X6 Y5 Z5 SP5
          obtain ⟨j0, j1, j2⟩ := X7.out.bx
          by_cases l4 : q = []
          · subst l4
            go_wp2_with fail
            go_ret
            exact ⟨rfl, X7.out.be⟩
          have d4 : ((q.length : Int) == 0) = false := by simp [l4]
          have G1 := Lib.hid (show goodF f = true by
            cases hg : goodF f with
            | true => rfl
            | false => exact absurd (by rw [← E.out]; unfold bytesF; rw [hg]; rfl) l4)
          have P1 := Lib.hid (show putF f = q by rw [← E.out]; unfold bytesF; rw [G1.out]; rfl)
          have QL := Lib.hid (show q.length ≤ 1000000 by have := (putF_len O.out G1.out).2; rw [P1.out] at this; omega)
          have GP := Lib.hid (show okF q = true ∧ gotF q = f by rw [← P1.out]; exact gotF_put O.out G1.out)
          clear l4
          go_wp2_with fail
          refine (fget_of SP7.out rfl QL.out GP.out.2 GP.out.1).mono ?_
          rintro e w8 ⟨b8, c8, rfl, hs8, hb, _⟩
          have X8 := Fun.alloc (o := .cells (frmA f b8 c8) 27) (Fun.of hb X7)
          have Z8 := Fun.lay X7.out.be X7.out.le hb hs8 27
          clear hb hs8 X7 j0 j1 j2
          obtain ⟨j0, j1, j2⟩ := X8.out.bx
          obtain ⟨i0, i1, i2⟩ := Z8.out.bx
          have cf := conv_any X8.out.sl rfl
          have cg := conv_any Z8.out.sl rfl
          go_wp2_with fail
          go_ret
          exact ⟨rfl, X8.out.be⟩
        · skip
          have cv := conv_any hHeld.2.2.2.2.2.2.2.2.2.2.2.1.out.sl rfl
          go_simp
          clear cv
          try go_wp2_with fail
          refine hK.out _ _ ?_ (fun hNew => ?_)
          · first | exact hHeld | exact three3 (Fun.of hb hHeld.2.2.2.2.2.2.2.2.2.1) (Fun.of hb hHeld.2.2.2.2.2.2.2.2.2.2.1) (Fun.of hb hHeld.2.2.2.2.2.2.2.2.2.2.2.1) (Lib.hid (hHeld.2.2.2.2.2.2.2.2.2.2.2.2.out.below hb))
          clear hK K
          replace hHeld := hNew
          clear hNew
          ((try simp only [Act.put]); (try simp only [List.setIfInBounds_toArray]); (try simp only [List.set_cons_succ]); (try simp only [List.set_cons_zero]))
          refine wpAnyH_ready (rs := [43]) (by kernel_rfl) (by simp) ?_
          refine AllReadyH.cons (o := { dst := some 78, op := Op.convert 23 9 (Operand.tmp 77), type := 9, pos := "law.go:44", after := #[{ on := 42, ground := Ground.data }, { on := 40, ground := Ground.guard }], guard := some (40, false) }) rfl (fun K hK => ?_) AllReadyH.nil
          have cv := conv_any hHeld.2.2.2.2.2.2.2.2.2.2.1.out.sl rfl
          go_simp
          clear cv
          try go_wp2_with fail
          refine hK.out _ _ ?_ (fun hNew => ?_)
          · first | exact hHeld | exact three3 (Fun.of hb hHeld.2.2.2.2.2.2.2.2.2.1) (Fun.of hb hHeld.2.2.2.2.2.2.2.2.2.2.1) (Fun.of hb hHeld.2.2.2.2.2.2.2.2.2.2.2.1) (Lib.hid (hHeld.2.2.2.2.2.2.2.2.2.2.2.2.out.below hb))
          clear hK K
          replace hHeld := hNew
          clear hNew
          ((try simp only [Act.put]); (try simp only [List.setIfInBounds_toArray]); (try simp only [List.set_cons_succ]); (try simp only [List.set_cons_zero]))
          refine wpAnyH_take (i := 47) (oi := { dst := some 82, op := Op.binOp BinOp.neq 9 (Operand.tmp 78) (Operand.tmp 81) 9, type := 4, pos := "law.go:44", after := #[{ on := 43, ground := Ground.data }, { on := 46, ground := Ground.data }, { on := 40, ground := Ground.guard }], guard := some (40, false) }) (v := ?_) rfl (by kernel_rfl) (by kernel_rfl) (by kernel_rfl) (fun _ _ _ h => h) (Or.inl ⟨by rfl, ?_⟩) (by assumption) ?_
          rotate_left
          · (intro w hSw; (try dsimp only at hSw); go_simp; try with_reducible rfl)
          ((try simp only [Act.put]); (try simp only [List.setIfInBounds_toArray]); (try simp only [List.set_cons_succ]); (try simp only [List.set_cons_zero]))
          refine wpAnyH_take (i := 48) (oi := { dst := some 83, op := Op.pick (Operand.tmp 75) (Operand.const (Value.bool true)) (Operand.tmp 82), type := 4, pos := "law.go:44", after := #[{ on := 40, ground := Ground.data }, { on := 47, ground := Ground.data }], guard := none }) (v := ?_) rfl (by kernel_rfl) (by kernel_rfl) (by kernel_rfl) (fun _ _ _ h => h) (Or.inl ⟨by rfl, ?_⟩) (by assumption) ?_
          rotate_left
          · (intro w hSw; (try dsimp only at hSw); go_simp; try with_reducible rfl)
          ((try simp only [Act.put]); (try simp only [List.setIfInBounds_toArray]); (try simp only [List.set_cons_succ]); (try simp only [List.set_cons_zero]))
          refine wpAnyH_done (by kernel_rfl) ?_ _
          refine NoPanic.normal ?_
          have X7 := hHeld.2.2.2.2.2.2.2.2.2.1
          have SP7 := hHeld.2.2.2.2.2.2.2.2.2.2.2.2
          clear hHeld X6 Y5 Z5 SP5
          obtain ⟨j0, j1, j2⟩ := X7.out.bx
          by_cases l4 : q = []
          · subst l4
            go_wp2_with fail
            go_ret
            exact ⟨rfl, X7.out.be⟩
          have d4 : ((q.length : Int) == 0) = false := by simp [l4]
          have G1 := Lib.hid (show goodF f = true by
            cases hg : goodF f with
            | true => rfl
            | false => exact absurd (by rw [← E.out]; unfold bytesF; rw [hg]; rfl) l4)
          have P1 := Lib.hid (show putF f = q by rw [← E.out]; unfold bytesF; rw [G1.out]; rfl)
          have QL := Lib.hid (show q.length ≤ 1000000 by have := (putF_len O.out G1.out).2; rw [P1.out] at this; omega)
          have GP := Lib.hid (show okF q = true ∧ gotF q = f by rw [← P1.out]; exact gotF_put O.out G1.out)
          clear l4
          go_wp2_with fail
          refine (fget_of SP7.out rfl QL.out GP.out.2 GP.out.1).mono ?_
          rintro e w8 ⟨b8, c8, rfl, hs8, hb, _⟩
          have X8 := Fun.alloc (o := .cells (frmA f b8 c8) 27) (Fun.of hb X7)
          have Z8 := Fun.lay X7.out.be X7.out.le hb hs8 27
          clear hb hs8 X7 j0 j1 j2
          obtain ⟨j0, j1, j2⟩ := X8.out.bx
          obtain ⟨i0, i1, i2⟩ := Z8.out.bx
          have cf := conv_any X8.out.sl rfl
          have cg := conv_any Z8.out.sl rfl
          go_wp2_with fail
          go_ret
          exact ⟨rfl, X8.out.be⟩
      · skip
        have cv := CQ.out
        go_simp
        clear cv
        try go_wp2_with fail
        refine hK.out _ _ ?_ (fun hNew => ?_)
        · first | exact hHeld | exact three3 (Fun.of hb hHeld.2.2.2.2.2.2.2.2.2.1) (Fun.of hb hHeld.2.2.2.2.2.2.2.2.2.2.1) (Fun.of hb hHeld.2.2.2.2.2.2.2.2.2.2.2.1) (Lib.hid (hHeld.2.2.2.2.2.2.2.2.2.2.2.2.out.below hb))
        clear hK K
        replace hHeld := hNew
        clear hNew
        ((try simp only [Act.put]); (try simp only [List.setIfInBounds_toArray]); (try simp only [List.set_cons_succ]); (try simp only [List.set_cons_zero]))
        refine wpAnyH_ready (rs := [1]) (by kernel_rfl) (by simp) ?_
        refine AllReadyH.cons (o := { dst := some 36, op := Op.convert 23 9 (Operand.tmp 35), type := 9, pos := "law.go:44", after := #[{ on := 0, ground := Ground.data }], guard := none }) rfl (fun K hK => ?_) AllReadyH.nil
        have cv := conv_any hHeld.2.2.2.2.2.2.2.2.2.2.2.2.out rfl
        go_simp
        clear cv
        try go_wp2_with fail
        refine hK.out _ _ ?_ (fun hNew => ?_)
        · first | exact hHeld | exact three3 (Fun.of hb hHeld.2.2.2.2.2.2.2.2.2.1) (Fun.of hb hHeld.2.2.2.2.2.2.2.2.2.2.1) (Fun.of hb hHeld.2.2.2.2.2.2.2.2.2.2.2.1) (Lib.hid (hHeld.2.2.2.2.2.2.2.2.2.2.2.2.out.below hb))
        clear hK K
        replace hHeld := hNew
        clear hNew
        ((try simp only [Act.put]); (try simp only [List.setIfInBounds_toArray]); (try simp only [List.set_cons_succ]); (try simp only [List.set_cons_zero]))
        refine wpAnyH_take (i := 11) (oi := { dst := some 46, op := Op.binOp BinOp.neq 9 (Operand.tmp 36) (Operand.tmp 45) 9, type := 4, pos := "law.go:44", after := #[{ on := 1, ground := Ground.data }, { on := 10, ground := Ground.data }], guard := none }) (v := ?_) rfl (by kernel_rfl) (by kernel_rfl) (by kernel_rfl) (fun _ _ _ h => h) (Or.inl ⟨by rfl, ?_⟩) (by assumption) ?_
        rotate_left
        · (intro w hSw; (try dsimp only at hSw); go_simp; try with_reducible rfl)
        ((try simp only [Act.put]); (try simp only [List.setIfInBounds_toArray]); (try simp only [List.set_cons_succ]); (try simp only [List.set_cons_zero]))
        refine wpAnyH_take (i := 12) (oi := { dst := some 47, op := Op.move (Operand.tmp 46), type := 4, pos := "law.go:44", after := #[{ on := 11, ground := Ground.data }, { on := 9, ground := Ground.chain }], guard := none }) (v := ?_) rfl (by kernel_rfl) (by kernel_rfl) (by kernel_rfl) (fun _ _ _ h => h) (Or.inl ⟨by rfl, ?_⟩) (by assumption) ?_
        rotate_left
        · (intro w hSw; (try dsimp only at hSw); go_simp; try with_reducible rfl)
        ((try simp only [Act.put]); (try simp only [List.setIfInBounds_toArray]); (try simp only [List.set_cons_succ]); (try simp only [List.set_cons_zero]))
        refine wpAnyH_take (i := 13) (oi := { dst := some 48, op := Op.move (Operand.tmp 7), type := 28, pos := "law.go:44", after := #[{ on := 12, ground := Ground.guard }], guard := some (12, false) }) (v := ?_) rfl (by kernel_rfl) (by kernel_rfl) (by kernel_rfl) (fun _ _ _ h => h) (Or.inl ⟨by rfl, ?_⟩) (by assumption) ?_
        rotate_left
        · (intro w hSw; (try dsimp only at hSw); go_simp; try with_reducible rfl)
        ((try simp only [Act.put]); (try simp only [List.setIfInBounds_toArray]); (try simp only [List.set_cons_succ]); (try simp only [List.set_cons_zero]))
        refine wpAnyH_take (i := 14) (oi := { dst := some 49, op := Op.binOp BinOp.eql 28 (Operand.tmp 48) (Operand.const (Value.int IntKind.i64 0)) 28, type := 4, pos := "law.go:44", after := #[{ on := 13, ground := Ground.data }, { on := 12, ground := Ground.guard }], guard := some (12, false) }) (v := ?_) rfl (by kernel_rfl) (by kernel_rfl) (by kernel_rfl) (fun _ _ _ h => h) (Or.inl ⟨by rfl, ?_⟩) (by assumption) ?_
        rotate_left
        · (intro w hSw; (try dsimp only at hSw); go_simp; try with_reducible rfl)
        ((try simp only [Act.put]); (try simp only [List.setIfInBounds_toArray]); (try simp only [List.set_cons_succ]); (try simp only [List.set_cons_zero]))
        refine wpAnyH_take (i := 15) (oi := { dst := some 50, op := Op.move (Operand.tmp 9), type := 4, pos := "law.go:44", after := #[{ on := 12, ground := Ground.guard }], guard := some (12, false) }) (v := ?_) rfl (by kernel_rfl) (by kernel_rfl) (by kernel_rfl) (fun _ _ _ h => h) (Or.inl ⟨by rfl, ?_⟩) (by assumption) ?_
        rotate_left
        · (intro w hSw; (try dsimp only at hSw); go_simp; try with_reducible rfl)
        ((try simp only [Act.put]); (try simp only [List.setIfInBounds_toArray]); (try simp only [List.set_cons_succ]); (try simp only [List.set_cons_zero]))
        refine wpAnyH_take (i := 16) (oi := { dst := some 51, op := Op.binOp BinOp.neq 4 (Operand.tmp 49) (Operand.tmp 50) 4, type := 4, pos := "law.go:44", after := #[{ on := 14, ground := Ground.data }, { on := 15, ground := Ground.data }, { on := 12, ground := Ground.guard }], guard := some (12, false) }) (v := ?_) rfl (by kernel_rfl) (by kernel_rfl) (by kernel_rfl) (fun _ _ _ h => h) (Or.inl ⟨by rfl, ?_⟩) (by assumption) ?_
        rotate_left
        · (intro w hSw; (try dsimp only at hSw); go_simp; try with_reducible rfl)
        ((try simp only [Act.put]); (try simp only [List.setIfInBounds_toArray]); (try simp only [List.set_cons_succ]); (try simp only [List.set_cons_zero]))
        refine wpAnyH_take (i := 17) (oi := { dst := some 52, op := Op.pick (Operand.tmp 47) (Operand.const (Value.bool true)) (Operand.tmp 51), type := 4, pos := "law.go:44", after := #[{ on := 12, ground := Ground.data }, { on := 16, ground := Ground.data }], guard := none }) (v := ?_) rfl (by kernel_rfl) (by kernel_rfl) (by kernel_rfl) (fun _ _ _ h => h) (Or.inl ⟨by rfl, ?_⟩) (by assumption) ?_
        rotate_left
        · (intro w hSw; (try dsimp only at hSw); go_simp; try with_reducible rfl)
        ((try simp only [Act.put]); (try simp only [List.setIfInBounds_toArray]); (try simp only [List.set_cons_succ]); (try simp only [List.set_cons_zero]))
        refine wpAnyH_take (i := 18) (oi := { dst := some 53, op := Op.move (Operand.tmp 52), type := 4, pos := "law.go:44", after := #[{ on := 17, ground := Ground.data }, { on := 12, ground := Ground.chain }], guard := none }) (v := ?_) rfl (by kernel_rfl) (by kernel_rfl) (by kernel_rfl) (fun _ _ _ h => h) (Or.inl ⟨by rfl, ?_⟩) (by assumption) ?_
        rotate_left
        · (intro w hSw; (try dsimp only at hSw); go_simp; try with_reducible rfl)
        ((try simp only [Act.put]); (try simp only [List.setIfInBounds_toArray]); (try simp only [List.set_cons_succ]); (try simp only [List.set_cons_zero]))
        refine wpAnyH_take (i := 19) (oi := { dst := some 54, op := Op.move (Operand.tmp 9), type := 4, pos := "law.go:44", after := #[{ on := 18, ground := Ground.guard }], guard := some (18, false) }) (v := ?_) rfl (by kernel_rfl) (by kernel_rfl) (by kernel_rfl) (fun _ _ _ h => h) (Or.inl ⟨by rfl, ?_⟩) (by assumption) ?_
        rotate_left
        · (intro w hSw; (try dsimp only at hSw); go_simp; try with_reducible rfl)
        ((try simp only [Act.put]); (try simp only [List.setIfInBounds_toArray]); (try simp only [List.set_cons_succ]); (try simp only [List.set_cons_zero]))
        refine wpAnyH_take (i := 20) (oi := { dst := some 55, op := Op.unOp UnOp.not 4 (Operand.tmp 54), type := 4, pos := "law.go:44", after := #[{ on := 19, ground := Ground.data }, { on := 18, ground := Ground.guard }], guard := some (18, false) }) (v := ?_) rfl (by kernel_rfl) (by kernel_rfl) (by kernel_rfl) (fun _ _ _ h => h) (Or.inl ⟨by rfl, ?_⟩) (by assumption) ?_
        rotate_left
        · (intro w hSw; (try dsimp only at hSw); go_simp; try with_reducible rfl)
        ((try simp only [Act.put]); (try simp only [List.setIfInBounds_toArray]); (try simp only [List.set_cons_succ]); (try simp only [List.set_cons_zero]))
        refine wpAnyH_take (i := 21) (oi := { dst := some 56, op := Op.move (Operand.tmp 55), type := 4, pos := "law.go:44", after := #[{ on := 20, ground := Ground.data }, { on := 18, ground := Ground.chain }, { on := 18, ground := Ground.guard }], guard := some (18, false) }) (v := ?_) rfl (by kernel_rfl) (by kernel_rfl) (by kernel_rfl) (fun _ _ _ h => h) (Or.inl ⟨by rfl, ?_⟩) (by assumption) ?_
        rotate_left
        · (intro w hSw; (try dsimp only at hSw); go_simp; try with_reducible rfl)
        ((try simp only [Act.put]); (try simp only [List.setIfInBounds_toArray]); (try simp only [List.set_cons_succ]); (try simp only [List.set_cons_zero]))
        refine wpAnyH_take (i := 22) (oi := { dst := some 57, op := Op.move (Operand.tmp 7), type := 28, pos := "law.go:44", after := #[{ on := 21, ground := Ground.guard }], guard := some (21, true) }) (v := undef) rfl (by kernel_rfl) (by kernel_rfl) (by kernel_rfl) (fun _ _ _ h => h) (Or.inr ⟨by rfl, rfl⟩) (by assumption) ?_
        ((try simp only [Act.put]); (try simp only [List.setIfInBounds_toArray]); (try simp only [List.set_cons_succ]); (try simp only [List.set_cons_zero]))
        refine wpAnyH_take (i := 23) (oi := { dst := some 58, op := Op.binOp BinOp.neq 28 (Operand.tmp 57) (Operand.const (Value.int IntKind.i64 2)) 28, type := 4, pos := "law.go:44", after := #[{ on := 22, ground := Ground.data }, { on := 21, ground := Ground.guard }], guard := some (21, true) }) (v := undef) rfl (by kernel_rfl) (by kernel_rfl) (by kernel_rfl) (fun _ _ _ h => h) (Or.inr ⟨by rfl, rfl⟩) (by assumption) ?_
        ((try simp only [Act.put]); (try simp only [List.setIfInBounds_toArray]); (try simp only [List.set_cons_succ]); (try simp only [List.set_cons_zero]))
        refine wpAnyH_take (i := 24) (oi := { dst := some 59, op := Op.pick (Operand.tmp 56) (Operand.tmp 58) (Operand.const (Value.bool false)), type := 4, pos := "law.go:44", after := #[{ on := 21, ground := Ground.data }, { on := 23, ground := Ground.data }, { on := 18, ground := Ground.guard }], guard := some (18, false) }) (v := ?_) rfl (by kernel_rfl) (by kernel_rfl) (by kernel_rfl) (fun _ _ _ h => h) (Or.inl ⟨by rfl, ?_⟩) (by assumption) ?_
        rotate_left
        · (intro w hSw; (try dsimp only at hSw); go_simp; try with_reducible rfl)
        ((try simp only [Act.put]); (try simp only [List.setIfInBounds_toArray]); (try simp only [List.set_cons_succ]); (try simp only [List.set_cons_zero]))
        refine wpAnyH_take (i := 25) (oi := { dst := some 60, op := Op.pick (Operand.tmp 53) (Operand.const (Value.bool true)) (Operand.tmp 59), type := 4, pos := "law.go:44", after := #[{ on := 18, ground := Ground.data }, { on := 24, ground := Ground.data }], guard := none }) (v := ?_) rfl (by kernel_rfl) (by kernel_rfl) (by kernel_rfl) (fun _ _ _ h => h) (Or.inl ⟨by rfl, ?_⟩) (by assumption) ?_
        rotate_left
        · (intro w hSw; (try dsimp only at hSw); go_simp; try with_reducible rfl)
        ((try simp only [Act.put]); (try simp only [List.setIfInBounds_toArray]); (try simp only [List.set_cons_succ]); (try simp only [List.set_cons_zero]))
        refine wpAnyH_take (i := 26) (oi := { dst := some 61, op := Op.move (Operand.tmp 60), type := 4, pos := "law.go:44", after := #[{ on := 25, ground := Ground.data }, { on := 21, ground := Ground.chain }], guard := none }) (v := ?_) rfl (by kernel_rfl) (by kernel_rfl) (by kernel_rfl) (fun _ _ _ h => h) (Or.inl ⟨by rfl, ?_⟩) (by assumption) ?_
        rotate_left
        · (intro w hSw; (try dsimp only at hSw); go_simp; try with_reducible rfl)
        ((try simp only [Act.put]); (try simp only [List.setIfInBounds_toArray]); (try simp only [List.set_cons_succ]); (try simp only [List.set_cons_zero]))
        refine wpAnyH_take (i := 27) (oi := { dst := some 62, op := Op.fieldAddr 27 (Operand.tmp 6) 0, type := 0, pos := "law.go:44", after := #[{ on := 26, ground := Ground.guard }], guard := some (26, false) }) (v := ?_) rfl (by kernel_rfl) (by kernel_rfl) (by kernel_rfl) (fun _ _ _ h => h) (Or.inl ⟨by rfl, ?_⟩) (by assumption) ?_
        rotate_left
        · (intro w hSw; (try dsimp only at hSw); go_simp; try with_reducible rfl)
        ((try simp only [Act.put]); (try simp only [List.setIfInBounds_toArray]); (try simp only [List.set_cons_succ]); (try simp only [List.set_cons_zero]))
        refine wpAnyH_take (i := 28) (oi := { dst := some 63, op := Op.load 4 (Operand.tmp 62), type := 4, pos := "law.go:44", after := #[{ on := 27, ground := Ground.data }, { on := 26, ground := Ground.guard }], guard := some (26, false) }) (v := ?_) rfl (by kernel_rfl) (by kernel_rfl) (by kernel_rfl) (fun _ _ _ h => h) (Or.inl ⟨by rfl, ?_⟩) (by assumption) ?_
        rotate_left
        · (intro w hSw; (try dsimp only at hSw); go_simp; try with_reducible rfl)
        ((try simp only [Act.put]); (try simp only [List.setIfInBounds_toArray]); (try simp only [List.set_cons_succ]); (try simp only [List.set_cons_zero]))
        refine wpAnyH_take (i := 29) (oi := { dst := some 64, op := Op.fieldAddr 32 (Operand.tmp 8) 0, type := 0, pos := "law.go:44", after := #[{ on := 26, ground := Ground.guard }], guard := some (26, false) }) (v := ?_) rfl (by kernel_rfl) (by kernel_rfl) (by kernel_rfl) (fun _ _ _ h => h) (Or.inl ⟨by rfl, ?_⟩) (by assumption) ?_
        rotate_left
        · (intro w hSw; (try dsimp only at hSw); go_simp; try with_reducible rfl)
        ((try simp only [Act.put]); (try simp only [List.setIfInBounds_toArray]); (try simp only [List.set_cons_succ]); (try simp only [List.set_cons_zero]))
        refine wpAnyH_take (i := 30) (oi := { dst := some 65, op := Op.load 4 (Operand.tmp 64), type := 4, pos := "law.go:44", after := #[{ on := 29, ground := Ground.data }, { on := 26, ground := Ground.guard }], guard := some (26, false) }) (v := ?_) rfl (by kernel_rfl) (by kernel_rfl) (by kernel_rfl) (fun _ _ _ h => h) (Or.inl ⟨by rfl, ?_⟩) (by assumption) ?_
        rotate_left
        · (intro w hSw; (try dsimp only at hSw); go_simp; try with_reducible rfl)
        ((try simp only [Act.put]); (try simp only [List.setIfInBounds_toArray]); (try simp only [List.set_cons_succ]); (try simp only [List.set_cons_zero]))
        refine wpAnyH_take (i := 31) (oi := { dst := some 66, op := Op.binOp BinOp.neq 4 (Operand.tmp 63) (Operand.tmp 65) 4, type := 4, pos := "law.go:44", after := #[{ on := 28, ground := Ground.data }, { on := 30, ground := Ground.data }, { on := 26, ground := Ground.guard }], guard := some (26, false) }) (v := ?_) rfl (by kernel_rfl) (by kernel_rfl) (by kernel_rfl) (fun _ _ _ h => h) (Or.inl ⟨by rfl, ?_⟩) (by assumption) ?_
        rotate_left
        · (intro w hSw; (try dsimp only at hSw); go_simp; try with_reducible rfl)
        ((try simp only [Act.put]); (try simp only [List.setIfInBounds_toArray]); (try simp only [List.set_cons_succ]); (try simp only [List.set_cons_zero]))
        refine wpAnyH_take (i := 32) (oi := { dst := some 67, op := Op.pick (Operand.tmp 61) (Operand.const (Value.bool true)) (Operand.tmp 66), type := 4, pos := "law.go:44", after := #[{ on := 26, ground := Ground.data }, { on := 31, ground := Ground.data }], guard := none }) (v := ?_) rfl (by kernel_rfl) (by kernel_rfl) (by kernel_rfl) (fun _ _ _ h => h) (Or.inl ⟨by rfl, ?_⟩) (by assumption) ?_
        rotate_left
        · (intro w hSw; (try dsimp only at hSw); go_simp; try with_reducible rfl)
        ((try simp only [Act.put]); (try simp only [List.setIfInBounds_toArray]); (try simp only [List.set_cons_succ]); (try simp only [List.set_cons_zero]))
        refine wpAnyH_take (i := 33) (oi := { dst := some 68, op := Op.move (Operand.tmp 67), type := 4, pos := "law.go:44", after := #[{ on := 32, ground := Ground.data }, { on := 26, ground := Ground.chain }], guard := none }) (v := ?_) rfl (by kernel_rfl) (by kernel_rfl) (by kernel_rfl) (fun _ _ _ h => h) (Or.inl ⟨by rfl, ?_⟩) (by assumption) ?_
        rotate_left
        · (intro w hSw; (try dsimp only at hSw); go_simp; try with_reducible rfl)
        ((try simp only [Act.put]); (try simp only [List.setIfInBounds_toArray]); (try simp only [List.set_cons_succ]); (try simp only [List.set_cons_zero]))
        refine wpAnyH_take (i := 34) (oi := { dst := some 69, op := Op.fieldAddr 27 (Operand.tmp 6) 1, type := 0, pos := "law.go:44", after := #[{ on := 33, ground := Ground.guard }], guard := some (33, false) }) (v := ?_) rfl (by kernel_rfl) (by kernel_rfl) (by kernel_rfl) (fun _ _ _ h => h) (Or.inl ⟨by rfl, ?_⟩) (by assumption) ?_
        rotate_left
        · (intro w hSw; (try dsimp only at hSw); go_simp; try with_reducible rfl)
        ((try simp only [Act.put]); (try simp only [List.setIfInBounds_toArray]); (try simp only [List.set_cons_succ]); (try simp only [List.set_cons_zero]))
        refine wpAnyH_take (i := 35) (oi := { dst := some 70, op := Op.load 25 (Operand.tmp 69), type := 25, pos := "law.go:44", after := #[{ on := 34, ground := Ground.data }, { on := 33, ground := Ground.guard }], guard := some (33, false) }) (v := ?_) rfl (by kernel_rfl) (by kernel_rfl) (by kernel_rfl) (fun _ _ _ h => h) (Or.inl ⟨by rfl, ?_⟩) (by assumption) ?_
        rotate_left
        · (intro w hSw; (try dsimp only at hSw); go_simp; try with_reducible rfl)
        ((try simp only [Act.put]); (try simp only [List.setIfInBounds_toArray]); (try simp only [List.set_cons_succ]); (try simp only [List.set_cons_zero]))
        refine wpAnyH_take (i := 36) (oi := { dst := some 71, op := Op.fieldAddr 32 (Operand.tmp 8) 1, type := 0, pos := "law.go:44", after := #[{ on := 33, ground := Ground.guard }], guard := some (33, false) }) (v := ?_) rfl (by kernel_rfl) (by kernel_rfl) (by kernel_rfl) (fun _ _ _ h => h) (Or.inl ⟨by rfl, ?_⟩) (by assumption) ?_
        rotate_left
        · (intro w hSw; (try dsimp only at hSw); go_simp; try with_reducible rfl)
        ((try simp only [Act.put]); (try simp only [List.setIfInBounds_toArray]); (try simp only [List.set_cons_succ]); (try simp only [List.set_cons_zero]))
        refine wpAnyH_take (i := 37) (oi := { dst := some 72, op := Op.load 25 (Operand.tmp 71), type := 25, pos := "law.go:44", after := #[{ on := 36, ground := Ground.data }, { on := 33, ground := Ground.guard }], guard := some (33, false) }) (v := ?_) rfl (by kernel_rfl) (by kernel_rfl) (by kernel_rfl) (fun _ _ _ h => h) (Or.inl ⟨by rfl, ?_⟩) (by assumption) ?_
        rotate_left
        · (intro w hSw; (try dsimp only at hSw); go_simp; try with_reducible rfl)
        ((try simp only [Act.put]); (try simp only [List.setIfInBounds_toArray]); (try simp only [List.set_cons_succ]); (try simp only [List.set_cons_zero]))
        refine wpAnyH_take (i := 38) (oi := { dst := some 73, op := Op.binOp BinOp.neq 25 (Operand.tmp 70) (Operand.tmp 72) 25, type := 4, pos := "law.go:44", after := #[{ on := 35, ground := Ground.data }, { on := 37, ground := Ground.data }, { on := 33, ground := Ground.guard }], guard := some (33, false) }) (v := ?_) rfl (by kernel_rfl) (by kernel_rfl) (by kernel_rfl) (fun _ _ _ h => h) (Or.inl ⟨by rfl, ?_⟩) (by assumption) ?_
        rotate_left
        · (intro w hSw; (try dsimp only at hSw); go_simp; try with_reducible rfl)
        ((try simp only [Act.put]); (try simp only [List.setIfInBounds_toArray]); (try simp only [List.set_cons_succ]); (try simp only [List.set_cons_zero]))
        refine wpAnyH_take (i := 39) (oi := { dst := some 74, op := Op.pick (Operand.tmp 68) (Operand.const (Value.bool true)) (Operand.tmp 73), type := 4, pos := "law.go:44", after := #[{ on := 33, ground := Ground.data }, { on := 38, ground := Ground.data }], guard := none }) (v := ?_) rfl (by kernel_rfl) (by kernel_rfl) (by kernel_rfl) (fun _ _ _ h => h) (Or.inl ⟨by rfl, ?_⟩) (by assumption) ?_
        rotate_left
        · (intro w hSw; (try dsimp only at hSw); go_simp; try with_reducible rfl)
        ((try simp only [Act.put]); (try simp only [List.setIfInBounds_toArray]); (try simp only [List.set_cons_succ]); (try simp only [List.set_cons_zero]))
        refine wpAnyH_take (i := 40) (oi := { dst := some 75, op := Op.move (Operand.tmp 74), type := 4, pos := "law.go:44", after := #[{ on := 39, ground := Ground.data }, { on := 33, ground := Ground.chain }], guard := none }) (v := ?_) rfl (by kernel_rfl) (by kernel_rfl) (by kernel_rfl) (fun _ _ _ h => h) (Or.inl ⟨by rfl, ?_⟩) (by assumption) ?_
        rotate_left
        · (intro w hSw; (try dsimp only at hSw); go_simp; try with_reducible rfl)
        ((try simp only [Act.put]); (try simp only [List.setIfInBounds_toArray]); (try simp only [List.set_cons_succ]); (try simp only [List.set_cons_zero]))
        refine wpAnyH_take (i := 41) (oi := { dst := some 76, op := Op.fieldAddr 27 (Operand.tmp 6) 2, type := 0, pos := "law.go:44", after := #[{ on := 40, ground := Ground.guard }], guard := some (40, false) }) (v := ?_) rfl (by kernel_rfl) (by kernel_rfl) (by kernel_rfl) (fun _ _ _ h => h) (Or.inl ⟨by rfl, ?_⟩) (by assumption) ?_
        rotate_left
        · (intro w hSw; (try dsimp only at hSw); go_simp; try with_reducible rfl)
        ((try simp only [Act.put]); (try simp only [List.setIfInBounds_toArray]); (try simp only [List.set_cons_succ]); (try simp only [List.set_cons_zero]))
        refine wpAnyH_take (i := 42) (oi := { dst := some 77, op := Op.load 23 (Operand.tmp 76), type := 23, pos := "law.go:44", after := #[{ on := 41, ground := Ground.data }, { on := 40, ground := Ground.guard }], guard := some (40, false) }) (v := ?_) rfl (by kernel_rfl) (by kernel_rfl) (by kernel_rfl) (fun _ _ _ h => h) (Or.inl ⟨by rfl, ?_⟩) (by assumption) ?_
        rotate_left
        · (intro w hSw; (try dsimp only at hSw); go_simp; try with_reducible rfl)
        ((try simp only [Act.put]); (try simp only [List.setIfInBounds_toArray]); (try simp only [List.set_cons_succ]); (try simp only [List.set_cons_zero]))
        refine wpAnyH_take (i := 44) (oi := { dst := some 79, op := Op.fieldAddr 32 (Operand.tmp 8) 2, type := 0, pos := "law.go:44", after := #[{ on := 40, ground := Ground.guard }], guard := some (40, false) }) (v := ?_) rfl (by kernel_rfl) (by kernel_rfl) (by kernel_rfl) (fun _ _ _ h => h) (Or.inl ⟨by rfl, ?_⟩) (by assumption) ?_
        rotate_left
        · (intro w hSw; (try dsimp only at hSw); go_simp; try with_reducible rfl)
        ((try simp only [Act.put]); (try simp only [List.setIfInBounds_toArray]); (try simp only [List.set_cons_succ]); (try simp only [List.set_cons_zero]))
        refine wpAnyH_take (i := 45) (oi := { dst := some 80, op := Op.load 23 (Operand.tmp 79), type := 23, pos := "law.go:44", after := #[{ on := 44, ground := Ground.data }, { on := 40, ground := Ground.guard }], guard := some (40, false) }) (v := ?_) rfl (by kernel_rfl) (by kernel_rfl) (by kernel_rfl) (fun _ _ _ h => h) (Or.inl ⟨by rfl, ?_⟩) (by assumption) ?_
        rotate_left
        · (intro w hSw; (try dsimp only at hSw); go_simp; try with_reducible rfl)
        ((try simp only [Act.put]); (try simp only [List.setIfInBounds_toArray]); (try simp only [List.set_cons_succ]); (try simp only [List.set_cons_zero]))
        refine wpAnyH_ready (rs := [43, 46]) (by kernel_rfl) (by simp) ?_
        refine AllReadyH.cons (o := { dst := some 78, op := Op.convert 23 9 (Operand.tmp 77), type := 9, pos := "law.go:44", after := #[{ on := 42, ground := Ground.data }, { on := 40, ground := Ground.guard }], guard := some (40, false) }) rfl (fun K hK => ?_) (AllReadyH.cons (o := { dst := some 81, op := Op.convert 23 9 (Operand.tmp 80), type := 9, pos := "law.go:44", after := #[{ on := 45, ground := Ground.data }, { on := 40, ground := Ground.guard }], guard := some (40, false) }) rfl (fun K hK => ?_) AllReadyH.nil)
        · skip
          have cv := conv_any hHeld.2.2.2.2.2.2.2.2.2.2.1.out.sl rfl
          go_simp
          clear cv
          try go_wp2_with fail
          refine hK.out _ _ ?_ (fun hNew => ?_)
          · first | exact hHeld | exact three3 (Fun.of hb hHeld.2.2.2.2.2.2.2.2.2.1) (Fun.of hb hHeld.2.2.2.2.2.2.2.2.2.2.1) (Fun.of hb hHeld.2.2.2.2.2.2.2.2.2.2.2.1) (Lib.hid (hHeld.2.2.2.2.2.2.2.2.2.2.2.2.out.below hb))
          clear hK K
          replace hHeld := hNew
          clear hNew
          ((try simp only [Act.put]); (try simp only [List.setIfInBounds_toArray]); (try simp only [List.set_cons_succ]); (try simp only [List.set_cons_zero]))
          refine wpAnyH_ready (rs := [46]) (by kernel_rfl) (by simp) ?_
          refine AllReadyH.cons (o := { dst := some 81, op := Op.convert 23 9 (Operand.tmp 80), type := 9, pos := "law.go:44", after := #[{ on := 45, ground := Ground.data }, { on := 40, ground := Ground.guard }], guard := some (40, false) }) rfl (fun K hK => ?_) AllReadyH.nil
          have cv := conv_any hHeld.2.2.2.2.2.2.2.2.2.2.2.1.out.sl rfl
          go_simp
          clear cv
          try go_wp2_with fail
          refine hK.out _ _ ?_ (fun hNew => ?_)
          · first | exact hHeld | exact three3 (Fun.of hb hHeld.2.2.2.2.2.2.2.2.2.1) (Fun.of hb hHeld.2.2.2.2.2.2.2.2.2.2.1) (Fun.of hb hHeld.2.2.2.2.2.2.2.2.2.2.2.1) (Lib.hid (hHeld.2.2.2.2.2.2.2.2.2.2.2.2.out.below hb))
          clear hK K
          replace hHeld := hNew
          clear hNew
          ((try simp only [Act.put]); (try simp only [List.setIfInBounds_toArray]); (try simp only [List.set_cons_succ]); (try simp only [List.set_cons_zero]))
          refine wpAnyH_take (i := 47) (oi := { dst := some 82, op := Op.binOp BinOp.neq 9 (Operand.tmp 78) (Operand.tmp 81) 9, type := 4, pos := "law.go:44", after := #[{ on := 43, ground := Ground.data }, { on := 46, ground := Ground.data }, { on := 40, ground := Ground.guard }], guard := some (40, false) }) (v := ?_) rfl (by kernel_rfl) (by kernel_rfl) (by kernel_rfl) (fun _ _ _ h => h) (Or.inl ⟨by rfl, ?_⟩) (by assumption) ?_
          rotate_left
          · (intro w hSw; (try dsimp only at hSw); go_simp; try with_reducible rfl)
          ((try simp only [Act.put]); (try simp only [List.setIfInBounds_toArray]); (try simp only [List.set_cons_succ]); (try simp only [List.set_cons_zero]))
          refine wpAnyH_take (i := 48) (oi := { dst := some 83, op := Op.pick (Operand.tmp 75) (Operand.const (Value.bool true)) (Operand.tmp 82), type := 4, pos := "law.go:44", after := #[{ on := 40, ground := Ground.data }, { on := 47, ground := Ground.data }], guard := none }) (v := ?_) rfl (by kernel_rfl) (by kernel_rfl) (by kernel_rfl) (fun _ _ _ h => h) (Or.inl ⟨by rfl, ?_⟩) (by assumption) ?_
          rotate_left
          · (intro w hSw; (try dsimp only at hSw); go_simp; try with_reducible rfl)
          ((try simp only [Act.put]); (try simp only [List.setIfInBounds_toArray]); (try simp only [List.set_cons_succ]); (try simp only [List.set_cons_zero]))
          refine wpAnyH_done (by kernel_rfl) ?_ _
          refine NoPanic.normal ?_
          have X7 := hHeld.2.2.2.2.2.2.2.2.2.1
          have SP7 := hHeld.2.2.2.2.2.2.2.2.2.2.2.2
          clear hHeld X6 Y5 Z5 SP5
          obtain ⟨j0, j1, j2⟩ := X7.out.bx
          by_cases l4 : q = []
          · subst l4
            go_wp2_with fail
            go_ret
            exact ⟨rfl, X7.out.be⟩
          have d4 : ((q.length : Int) == 0) = false := by simp [l4]
          have G1 := Lib.hid (show goodF f = true by
            cases hg : goodF f with
            | true => rfl
            | false => exact absurd (by rw [← E.out]; unfold bytesF; rw [hg]; rfl) l4)
          have P1 := Lib.hid (show putF f = q by rw [← E.out]; unfold bytesF; rw [G1.out]; rfl)
          have QL := Lib.hid (show q.length ≤ 1000000 by have := (putF_len O.out G1.out).2; rw [P1.out] at this; omega)
          have GP := Lib.hid (show okF q = true ∧ gotF q = f by rw [← P1.out]; exact gotF_put O.out G1.out)
          clear l4
          go_wp2_with fail
          refine (fget_of SP7.out rfl QL.out GP.out.2 GP.out.1).mono ?_
          rintro e w8 ⟨b8, c8, rfl, hs8, hb, _⟩
          have X8 := Fun.alloc (o := .cells (frmA f b8 c8) 27) (Fun.of hb X7)
          have Z8 := Fun.lay X7.out.be X7.out.le hb hs8 27
          clear hb hs8 X7 j0 j1 j2
          obtain ⟨j0, j1, j2⟩ := X8.out.bx
          obtain ⟨i0, i1, i2⟩ := Z8.out.bx
          have cf := conv_any X8.out.sl rfl
          have cg := conv_any Z8.out.sl rfl
          go_wp2_with fail
          go_ret
          exact ⟨rfl, X8.out.be⟩
        · skip
          have cv := conv_any hHeld.2.2.2.2.2.2.2.2.2.2.2.1.out.sl rfl
          go_simp
          clear cv
          try go_wp2_with fail
          refine hK.out _ _ ?_ (fun hNew => ?_)
          · first | exact hHeld | exact three3 (Fun.of hb hHeld.2.2.2.2.2.2.2.2.2.1) (Fun.of hb hHeld.2.2.2.2.2.2.2.2.2.2.1) (Fun.of hb hHeld.2.2.2.2.2.2.2.2.2.2.2.1) (Lib.hid (hHeld.2.2.2.2.2.2.2.2.2.2.2.2.out.below hb))
          clear hK K
          replace hHeld := hNew
          clear hNew
          ((try simp only [Act.put]); (try simp only [List.setIfInBounds_toArray]); (try simp only [List.set_cons_succ]); (try simp only [List.set_cons_zero]))
          refine wpAnyH_ready (rs := [43]) (by kernel_rfl) (by simp) ?_
          refine AllReadyH.cons (o := { dst := some 78, op := Op.convert 23 9 (Operand.tmp 77), type := 9, pos := "law.go:44", after := #[{ on := 42, ground := Ground.data }, { on := 40, ground := Ground.guard }], guard := some (40, false) }) rfl (fun K hK => ?_) AllReadyH.nil
          have cv := conv_any hHeld.2.2.2.2.2.2.2.2.2.2.1.out.sl rfl
          go_simp
          clear cv
          try go_wp2_with fail
          refine hK.out _ _ ?_ (fun hNew => ?_)
          · first | exact hHeld | exact three3 (Fun.of hb hHeld.2.2.2.2.2.2.2.2.2.1) (Fun.of hb hHeld.2.2.2.2.2.2.2.2.2.2.1) (Fun.of hb hHeld.2.2.2.2.2.2.2.2.2.2.2.1) (Lib.hid (hHeld.2.2.2.2.2.2.2.2.2.2.2.2.out.below hb))
          clear hK K
          replace hHeld := hNew
          clear hNew
          ((try simp only [Act.put]); (try simp only [List.setIfInBounds_toArray]); (try simp only [List.set_cons_succ]); (try simp only [List.set_cons_zero]))
          refine wpAnyH_take (i := 47) (oi := { dst := some 82, op := Op.binOp BinOp.neq 9 (Operand.tmp 78) (Operand.tmp 81) 9, type := 4, pos := "law.go:44", after := #[{ on := 43, ground := Ground.data }, { on := 46, ground := Ground.data }, { on := 40, ground := Ground.guard }], guard := some (40, false) }) (v := ?_) rfl (by kernel_rfl) (by kernel_rfl) (by kernel_rfl) (fun _ _ _ h => h) (Or.inl ⟨by rfl, ?_⟩) (by assumption) ?_
          rotate_left
          · (intro w hSw; (try dsimp only at hSw); go_simp; try with_reducible rfl)
          ((try simp only [Act.put]); (try simp only [List.setIfInBounds_toArray]); (try simp only [List.set_cons_succ]); (try simp only [List.set_cons_zero]))
          refine wpAnyH_take (i := 48) (oi := { dst := some 83, op := Op.pick (Operand.tmp 75) (Operand.const (Value.bool true)) (Operand.tmp 82), type := 4, pos := "law.go:44", after := #[{ on := 40, ground := Ground.data }, { on := 47, ground := Ground.data }], guard := none }) (v := ?_) rfl (by kernel_rfl) (by kernel_rfl) (by kernel_rfl) (fun _ _ _ h => h) (Or.inl ⟨by rfl, ?_⟩) (by assumption) ?_
          rotate_left
          · (intro w hSw; (try dsimp only at hSw); go_simp; try with_reducible rfl)
          ((try simp only [Act.put]); (try simp only [List.setIfInBounds_toArray]); (try simp only [List.set_cons_succ]); (try simp only [List.set_cons_zero]))
          refine wpAnyH_done (by kernel_rfl) ?_ _
          refine NoPanic.normal ?_
          have X7 := hHeld.2.2.2.2.2.2.2.2.2.1
          have SP7 := hHeld.2.2.2.2.2.2.2.2.2.2.2.2
          clear hHeld X6 Y5 Z5 SP5
          obtain ⟨j0, j1, j2⟩ := X7.out.bx
          by_cases l4 : q = []
          · subst l4
            go_wp2_with fail
            go_ret
            exact ⟨rfl, X7.out.be⟩
          have d4 : ((q.length : Int) == 0) = false := by simp [l4]
          have G1 := Lib.hid (show goodF f = true by
            cases hg : goodF f with
            | true => rfl
            | false => exact absurd (by rw [← E.out]; unfold bytesF; rw [hg]; rfl) l4)
          have P1 := Lib.hid (show putF f = q by rw [← E.out]; unfold bytesF; rw [G1.out]; rfl)
          have QL := Lib.hid (show q.length ≤ 1000000 by have := (putF_len O.out G1.out).2; rw [P1.out] at this; omega)
          have GP := Lib.hid (show okF q = true ∧ gotF q = f by rw [← P1.out]; exact gotF_put O.out G1.out)
          clear l4
          go_wp2_with fail
          refine (fget_of SP7.out rfl QL.out GP.out.2 GP.out.1).mono ?_
          rintro e w8 ⟨b8, c8, rfl, hs8, hb, _⟩
          have X8 := Fun.alloc (o := .cells (frmA f b8 c8) 27) (Fun.of hb X7)
          have Z8 := Fun.lay X7.out.be X7.out.le hb hs8 27
          clear hb hs8 X7 j0 j1 j2
          obtain ⟨j0, j1, j2⟩ := X8.out.bx
          obtain ⟨i0, i1, i2⟩ := Z8.out.bx
          have cf := conv_any X8.out.sl rfl
          have cg := conv_any Z8.out.sl rfl
          go_wp2_with fail
          go_ret
          exact ⟨rfl, X8.out.be⟩

end Go.Proofs.Ythnglifjijfplaa
