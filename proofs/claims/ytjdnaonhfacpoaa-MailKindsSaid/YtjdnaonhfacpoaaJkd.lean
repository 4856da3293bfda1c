/-
  What is of one kind is not of another: the walk of the statement MailKinds.
-/
import Derived.Test.YtjdnaonhfacpoaaJwd
import Derived.Deep.RegionHeld3
namespace Go.Proofs.Ytjdnaonhfacpoaa
open Go.RowKit

theorem bothN {W w' : World} {N B D : Nat} {m n : Msg} {ba b3 : Option Addr} {bc c3 : Nat} {sa s3 : Option Addr} {sc d3 : Nat} (hx : Hid (Mun W N B m ba bc sa sc w')) (hy : Hid (Mun W N D n b3 c3 s3 d3 w')) :
    w'.cell? ⟨B, 0, none⟩ = some (.int .i64 m.frm) ∧ w'.cell? ⟨B, 1, none⟩ = some (.int .u64 (m.num : Nat)) ∧ w'.cell? ⟨B, 2, none⟩ = some (.int .u64 (m.to : Nat)) ∧ w'.cell? ⟨B, 3, none⟩ = some (.int .i64 m.kind) ∧ w'.cell? ⟨B, 4, none⟩ = some (.int .i64 m.vr) ∧ w'.cell? ⟨B, 5, none⟩ = some (.float .f64 m.val) ∧ w'.cell? ⟨B, 6, none⟩ = some (.int .i64 m.wri) ∧ w'.cell? ⟨B, 7, none⟩ = some (.int .u64 (m.tag : Nat)) ∧ w'.cell? ⟨B, 8, none⟩ = some (.slice ba m.bod.length bc) ∧ w'.cell? ⟨B, 9, none⟩ = some (.slice sa m.stp.length sc) ∧ w'.cell? ⟨D, 0, none⟩ = some (.int .i64 n.frm) ∧ w'.cell? ⟨D, 1, none⟩ = some (.int .u64 (n.num : Nat)) ∧ w'.cell? ⟨D, 2, none⟩ = some (.int .u64 (n.to : Nat)) ∧ w'.cell? ⟨D, 3, none⟩ = some (.int .i64 n.kind) ∧ w'.cell? ⟨D, 4, none⟩ = some (.int .i64 n.vr) ∧ w'.cell? ⟨D, 5, none⟩ = some (.float .f64 n.val) ∧ w'.cell? ⟨D, 6, none⟩ = some (.int .i64 n.wri) ∧ w'.cell? ⟨D, 7, none⟩ = some (.int .u64 (n.tag : Nat)) ∧ w'.cell? ⟨D, 8, none⟩ = some (.slice b3 n.bod.length c3) ∧ w'.cell? ⟨D, 9, none⟩ = some (.slice s3 n.stp.length d3) ∧ Hid (Mun W N B m ba bc sa sc w') ∧ Hid (Mun W N D n b3 c3 s3 d3 w') :=
  ⟨hx.out.bx.c0, hx.out.bx.c1, hx.out.bx.c2, hx.out.bx.c3, hx.out.bx.c4, hx.out.bx.c5, hx.out.bx.c6, hx.out.bx.c7, hx.out.bx.c8, hx.out.bx.c9, hy.out.bx.c0, hy.out.bx.c1, hy.out.bx.c2, hy.out.bx.c3, hy.out.bx.c4, hy.out.bx.c5, hy.out.bx.c6, hy.out.bx.c7, hy.out.bx.c8, hy.out.bx.c9, hx, hy⟩

theorem kind0 {m : Msg} (h : GoodP m) (k : m.kind = 0) : goodM ⟨m.frm, m.num, m.to, 1, m.vr, m.val, m.wri, m.tag, m.bod, m.stp⟩ = false := by
  refine decide_eq_false fun g => ?_
  obtain ⟨_, _, hp, _⟩ := h
  obtain ⟨_, _, gp, _⟩ := g
  rcases hp with x | x | x | x
  · obtain ⟨_, _, _, hn⟩ := x
    have := hn.2.2
    rcases gp with y | y | y | y
    · exact absurd y.1 (by simp)
    · have := y.2.2.2
      simp only at this
      omega
    · exact absurd y.1 (by simp)
    · exact absurd y.1 (by simp)
  · omega
  · omega
  · omega
theorem kind1 {m : Msg} (k : m.kind = 1) : goodM ⟨m.frm, m.num, m.to, m.kind, m.vr, m.val, m.frm + 1, m.tag, m.bod, m.stp⟩ = false := by
  refine decide_eq_false fun g => ?_
  obtain ⟨_, _, gp, _⟩ := g
  rcases gp with y | y | y | y
  · have := y.1; simp only at this; omega
  · have := y.2.2.1; simp only at this; omega
  · have := y.1; simp only at this; omega
  · have := y.1; simp only at this; omega
theorem kind2 {m : Msg} (k : m.kind = 2) : goodM ⟨m.frm, m.num, m.to, m.kind, m.vr, m.val, m.wri, 1, m.bod, m.stp⟩ = false := by
  refine decide_eq_false fun g => ?_
  obtain ⟨_, _, gp, _⟩ := g
  rcases gp with y | y | y | y
  · have := y.1; simp only at this; omega
  · have := y.1; simp only at this; omega
  · exact absurd y.2.2.2.2 (by simp)
  · have := y.1; simp only at this; omega
theorem kind3 {m : Msg} (k : m.kind = 3) : goodM ⟨m.frm, m.num, m.to, m.kind, m.vr, m.val, m.wri, m.tag, [120], m.stp⟩ = false := by
  refine decide_eq_false fun g => ?_
  obtain ⟨_, _, gp, _⟩ := g
  rcases gp with y | y | y | y
  · have := y.1; simp only at this; omega
  · have := y.1; simp only at this; omega
  · have := y.1; simp only at this; omega
  · exact absurd y.2.1.2 (by simp)
theorem put_least {m : Msg} : 5 < (putL m).length := by
  have a1 := szN_pos m.frm.toNat
  have a2 := szN_pos m.num
  have a3 := szN_pos m.to
  have a4 := szN_pos m.kind.toNat
  have a5 := szN_pos m.vr.toNat
  have a8 := szN_pos m.bod.length
  have a9 := szN_pos m.stp.length
  unfold szN at *
  unfold putL
  split <;> simp only [List.length_append] <;> omega

set_option maxRecDepth 20000 in
set_option maxHeartbeats 64000000 in
theorem law_MailKinds (m : Msg) (ba : Option Addr) (bc : Nat) (sa : Option Addr) (sc : Nat) (W : World) (hs : MsgS W m ba bc sa sc) (hk : MsgOk m) :
    Calls Try.prog 6 #[.agg (msgA m ba bc sa sc)] W (Ok W) := by
  have hst := store_float
  have hf := hs.fits
  have X1 := Mun.new hs 29
  have O := Lib.hid hk
  clear hk hs
  go_enter Try.func6, Try.ntmps6
  go_wp2_with fail
  generalize W.alloc (.cells (msgA m ba bc sa sc) 29) = w0 at X1 ⊢
  refine (awake_any _).mono ?_
  rintro e w1 ⟨rfl, hb⟩
  have X2 := Mun.of hb X1
  clear hb X1
  obtain ⟨k0, k1, k2, k3, k4, k5, k6, k7, k8, k9⟩ := X2.out.bx
  by_cases l1 : 300 < m.bod.length
  · have d1 : decide ((300 : Int) < (m.bod.length : Int)) = true := decide_eq_true (by omega)
    have d1' : decide (300 < m.bod.length) = true := decide_eq_true l1
    go_wp2_with fail
    go_ret
    exact ⟨rfl, X2.out.be⟩
  have d1 : decide ((300 : Int) < (m.bod.length : Int)) = false := decide_eq_false (by omega)
  have d1' : decide (300 < m.bod.length) = false := decide_eq_false l1
  by_cases l2 : 300 < m.stp.length
  · have d2 : decide ((300 : Int) < (m.stp.length : Int)) = true := decide_eq_true (by omega)
    have d2' : decide (300 < m.stp.length) = true := decide_eq_true l2
    go_wp2_with fail
    go_ret
    exact ⟨rfl, X2.out.be⟩
  have d2 : decide ((300 : Int) < (m.stp.length : Int)) = false := decide_eq_false (by omega)
  have d2' : decide (300 < m.stp.length) = false := decide_eq_false l2
  obtain ⟨r, hr⟩ : ∃ r, goodM m = r := ⟨_, rfl⟩
  have R := Lib.hid hr
  clear hr l1 l2
  go_wp2_with fail
  refine (good_is X2.out.sl O.out R.out).mono ?_
  rintro e w2 ⟨rfl, hb⟩
  have X3 := Mun.of hb X2
  clear hb X2 k0 k1 k2 k3 k4 k5 k6 k7 k8 k9
  cases r
  · go_wp2_with fail
    go_ret
    exact ⟨rfl, X3.out.be⟩
  have G := Lib.hid (of_decide_eq_true R.out)
  obtain ⟨q, hq⟩ : ∃ q, putL m = q := ⟨_, rfl⟩
  have E := Lib.hid (show bytesM m = q by unfold bytesM; rw [R.out, hq]; rfl)
  have q5 : decide ((5 : Int) < (q.length : Int)) = true := decide_eq_true (by have := put_least (m := m); rw [hq] at this; omega)
  have q5' : decide (5 < q.length) = true := decide_eq_true (by have := put_least (m := m); rw [hq] at this; exact this)
  clear hq
  obtain ⟨⟨f1, f2⟩, ⟨x1, x2⟩, ⟨v1, v2⟩, ⟨z1, z2⟩, _, _, _⟩ := good_nums G.out
  obtain ⟨k0, k1, k2, k3, k4, k5, k6, k7, k8, k9⟩ := X3.out.bx
  obtain ⟨D, hD⟩ : ∃ D, w2.heap.size = D := ⟨_, rfl⟩
  have HD := Lib.hid hD
  rcases (show m.kind = 0 ∨ m.kind = 1 ∨ m.kind = 2 ∨ m.kind = 3 by omega) with hk | hk | hk | hk
  · have e0 : (m.kind == 0) = true := by rw [hk]; rfl
    have e1 : (m.kind == 1) = false := by rw [hk]; rfl
    have e2 : (m.kind == 2) = false := by rw [hk]; rfl
    have RN0 : goodM ⟨m.frm, m.num, m.to, 1, m.vr, m.val, m.wri, m.tag, m.bod, m.stp⟩ = false := kind0 G.out hk
    have RN := Lib.hid RN0
    have ON : Hid (MsgOk ⟨m.frm, m.num, m.to, 1, m.vr, m.val, m.wri, m.tag, m.bod, m.stp⟩) := Lib.hid ⟨O.out.num, O.out.to, O.out.val, O.out.tag⟩
    have EN : Hid (bytesM ⟨m.frm, m.num, m.to, 1, m.vr, m.val, m.wri, m.tag, m.bod, m.stp⟩ = []) := Lib.hid (by unfold bytesM; rw [RN.out]; rfl)
    clear hk RN0 hD
    have XA : Hid (Mun W W.heap.size W.heap.size m ba bc sa sc (w2.alloc (.cells (msgA m ba bc sa sc) 29))) := Mun.alloc X3
    have ka0 := XA.out.bx.c0
    have ka3 := XA.out.bx.c3
    clear XA
    have X4 : Hid (Mun W W.heap.size W.heap.size m ba bc sa sc (w2.alloc (.cells (msgA ⟨m.frm, m.num, m.to, 1, m.vr, m.val, m.wri, m.tag, m.bod, m.stp⟩ ba bc sa sc) 29))) := Mun.alloc X3
    have Y0 : Mun W W.heap.size w2.heap.size ⟨m.frm, m.num, m.to, 1, m.vr, m.val, m.wri, m.tag, m.bod, m.stp⟩ ba bc sa sc (w2.alloc (.cells (msgA ⟨m.frm, m.num, m.to, 1, m.vr, m.val, m.wri, m.tag, m.bod, m.stp⟩ ba bc sa sc) 29)) := ⟨X4.out.be, X4.out.le, msgB_new w2 _ ba bc sa sc _, ⟨X4.out.sl.b, X4.out.sl.s⟩⟩
    rw [HD.out] at Y0
    have Y4 := Lib.hid Y0
    clear Y0 X3
    skip
    go_wp2_with fail
    generalize w2.alloc (.cells (msgA ⟨m.frm, m.num, m.to, 1, m.vr, m.val, m.wri, m.tag, m.bod, m.stp⟩ ba bc sa sc) 29) = w3 at X4 Y4 ⊢
    generalize (⟨m.frm, m.num, m.to, 1, m.vr, m.val, m.wri, m.tag, m.bod, m.stp⟩ : Msg) = n at RN ON EN Y4
    have Y5 : Hid (Mun W W.heap.size D n ba bc sa sc w3) := Y4
    clear Y4 ka0 ka3 k0 k1 k2 k3 k4 k5 k6 k7 k8 k9
    rw [HD.out]
    refine wp_region_noPanic ?_
    refine wp_region_held_drew (S := (fun w' => w'.cell? ⟨W.heap.size, 0, none⟩ = some (.int .i64 m.frm) ∧ w'.cell? ⟨W.heap.size, 1, none⟩ = some (.int .u64 (m.num : Nat)) ∧ w'.cell? ⟨W.heap.size, 2, none⟩ = some (.int .u64 (m.to : Nat)) ∧ w'.cell? ⟨W.heap.size, 3, none⟩ = some (.int .i64 m.kind) ∧ w'.cell? ⟨W.heap.size, 4, none⟩ = some (.int .i64 m.vr) ∧ w'.cell? ⟨W.heap.size, 5, none⟩ = some (.float .f64 m.val) ∧ w'.cell? ⟨W.heap.size, 6, none⟩ = some (.int .i64 m.wri) ∧ w'.cell? ⟨W.heap.size, 7, none⟩ = some (.int .u64 (m.tag : Nat)) ∧ w'.cell? ⟨W.heap.size, 8, none⟩ = some (.slice ba m.bod.length bc) ∧ w'.cell? ⟨W.heap.size, 9, none⟩ = some (.slice sa m.stp.length sc) ∧ w'.cell? ⟨D, 0, none⟩ = some (.int .i64 n.frm) ∧ w'.cell? ⟨D, 1, none⟩ = some (.int .u64 (n.num : Nat)) ∧ w'.cell? ⟨D, 2, none⟩ = some (.int .u64 (n.to : Nat)) ∧ w'.cell? ⟨D, 3, none⟩ = some (.int .i64 n.kind) ∧ w'.cell? ⟨D, 4, none⟩ = some (.int .i64 n.vr) ∧ w'.cell? ⟨D, 5, none⟩ = some (.float .f64 n.val) ∧ w'.cell? ⟨D, 6, none⟩ = some (.int .i64 n.wri) ∧ w'.cell? ⟨D, 7, none⟩ = some (.int .u64 (n.tag : Nat)) ∧ w'.cell? ⟨D, 8, none⟩ = some (.slice ba n.bod.length bc) ∧ w'.cell? ⟨D, 9, none⟩ = some (.slice sa n.stp.length sc) ∧ Hid (Mun W W.heap.size W.heap.size m ba bc sa sc w') ∧ Hid (Mun W W.heap.size D n ba bc sa sc w'))) (by kernel_rfl) ?_ (fun hHeld => ?_)
    · exact bothN (Mun.drew X4) (Mun.drew Y5)
    refine wpAnyH_take (i := 0) (oi := { dst := some 39, op := Op.load 29 (Operand.tmp 3), type := 29, pos := "more.go:26", after := #[], guard := none }) (v := ?_) rfl (by kernel_rfl) (by kernel_rfl) (by kernel_rfl) (fun _ _ _ h => h) (Or.inl ⟨by rfl, ?_⟩) (by assumption) ?_
    rotate_left
    · (intro w hSw; (try dsimp only at hSw); go_simp; try with_reducible rfl)
    ((try simp only [Act.put]); (try simp only [List.setIfInBounds_toArray]); (try simp only [List.set_cons_succ]); (try simp only [List.set_cons_zero]))
    refine wpAnyH_ready (rs := [1]) (by kernel_rfl) (by simp) ?_
    refine AllReadyH.cons (o := { dst := some 40, op := Op.call { callee := Callee.value (Operand.func 10), args := #[Operand.tmp 39], argTypes := #[29] }, type := 4, pos := "more.go:26", after := #[{ on := 0, ground := Ground.data }], guard := none }) rfl (fun K hK => ?_) AllReadyH.nil
    go_simp
    refine (good_is (m := n) hHeld.2.2.2.2.2.2.2.2.2.2.2.2.2.2.2.2.2.2.2.2.2.out.sl ON.out RN.out).mono ?_
    rintro e w' ⟨rfl, hb⟩
    try go_wp2_with fail
    refine hK.out _ _ ?_ (fun hNew => ?_)
    · first | exact hHeld | exact bothN (Mun.of hb hHeld.2.2.2.2.2.2.2.2.2.2.2.2.2.2.2.2.2.2.2.2.1) (Mun.of hb hHeld.2.2.2.2.2.2.2.2.2.2.2.2.2.2.2.2.2.2.2.2.2)
    clear hK K
    replace hHeld := hNew
    clear hNew
    ((try simp only [Act.put]); (try simp only [List.setIfInBounds_toArray]); (try simp only [List.set_cons_succ]); (try simp only [List.set_cons_zero]))
    refine wpAnyH_take (i := 2) (oi := { dst := some 41, op := Op.unOp UnOp.not 4 (Operand.tmp 40), type := 4, pos := "more.go:26", after := #[{ on := 1, ground := Ground.data }], guard := none }) (v := ?_) rfl (by kernel_rfl) (by kernel_rfl) (by kernel_rfl) (fun _ _ _ h => h) (Or.inl ⟨by rfl, ?_⟩) (by assumption) ?_
    rotate_left
    · (intro w hSw; (try dsimp only at hSw); go_simp; try with_reducible rfl)
    ((try simp only [Act.put]); (try simp only [List.setIfInBounds_toArray]); (try simp only [List.set_cons_succ]); (try simp only [List.set_cons_zero]))
    refine wpAnyH_take (i := 3) (oi := { dst := some 42, op := Op.move (Operand.tmp 41), type := 4, pos := "more.go:26", after := #[{ on := 2, ground := Ground.data }, { on := 1, ground := Ground.chain }], guard := none }) (v := ?_) rfl (by kernel_rfl) (by kernel_rfl) (by kernel_rfl) (fun _ _ _ h => h) (Or.inl ⟨by rfl, ?_⟩) (by assumption) ?_
    rotate_left
    · (intro w hSw; (try dsimp only at hSw); go_simp; try with_reducible rfl)
    ((try simp only [Act.put]); (try simp only [List.setIfInBounds_toArray]); (try simp only [List.set_cons_succ]); (try simp only [List.set_cons_zero]))
    refine wpAnyH_take (i := 4) (oi := { dst := some 43, op := Op.load 29 (Operand.tmp 3), type := 29, pos := "more.go:26", after := #[{ on := 3, ground := Ground.guard }], guard := some (3, true) }) (v := ?_) rfl (by kernel_rfl) (by kernel_rfl) (by kernel_rfl) (fun _ _ _ h => h) (Or.inl ⟨by rfl, ?_⟩) (by assumption) ?_
    rotate_left
    · (intro w hSw; (try dsimp only at hSw); go_simp; try with_reducible rfl)
    ((try simp only [Act.put]); (try simp only [List.setIfInBounds_toArray]); (try simp only [List.set_cons_succ]); (try simp only [List.set_cons_zero]))
    refine wpAnyH_ready (rs := [5]) (by kernel_rfl) (by simp) ?_
    refine AllReadyH.cons (o := { dst := some 44, op := Op.call { callee := Callee.value (Operand.func 12), args := #[Operand.tmp 43], argTypes := #[29] }, type := 3, pos := "more.go:26", after := #[{ on := 4, ground := Ground.data }, { on := 3, ground := Ground.chain }, { on := 3, ground := Ground.guard }], guard := some (3, true) }) rfl (fun K hK => ?_) AllReadyH.nil
    go_simp
    refine (msize_is (m := n) (z := 0) hHeld.2.2.2.2.2.2.2.2.2.2.2.2.2.2.2.2.2.2.2.2.2.out.sl ON.out (by rw [EN.out]; rfl)).mono ?_
    rintro e w' ⟨rfl, hb⟩
    try go_wp2_with fail
    refine hK.out _ _ ?_ (fun hNew => ?_)
    · first | exact hHeld | exact bothN (Mun.of hb hHeld.2.2.2.2.2.2.2.2.2.2.2.2.2.2.2.2.2.2.2.2.1) (Mun.of hb hHeld.2.2.2.2.2.2.2.2.2.2.2.2.2.2.2.2.2.2.2.2.2)
    clear hK K
    replace hHeld := hNew
    clear hNew
    ((try simp only [Act.put]); (try simp only [List.setIfInBounds_toArray]); (try simp only [List.set_cons_succ]); (try simp only [List.set_cons_zero]))
    refine wpAnyH_take (i := 6) (oi := { dst := some 45, op := Op.binOp BinOp.eql 3 (Operand.tmp 44) (Operand.const (Value.int IntKind.i64 0)) 3, type := 4, pos := "more.go:26", after := #[{ on := 5, ground := Ground.data }, { on := 3, ground := Ground.guard }], guard := some (3, true) }) (v := ?_) rfl (by kernel_rfl) (by kernel_rfl) (by kernel_rfl) (fun _ _ _ h => h) (Or.inl ⟨by rfl, ?_⟩) (by assumption) ?_
    rotate_left
    · (intro w hSw; (try dsimp only at hSw); go_simp; try with_reducible rfl)
    ((try simp only [Act.put]); (try simp only [List.setIfInBounds_toArray]); (try simp only [List.set_cons_succ]); (try simp only [List.set_cons_zero]))
    refine wpAnyH_take (i := 7) (oi := { dst := some 46, op := Op.pick (Operand.tmp 42) (Operand.tmp 45) (Operand.const (Value.bool false)), type := 4, pos := "more.go:26", after := #[{ on := 3, ground := Ground.data }, { on := 6, ground := Ground.data }], guard := none }) (v := ?_) rfl (by kernel_rfl) (by kernel_rfl) (by kernel_rfl) (fun _ _ _ h => h) (Or.inl ⟨by rfl, ?_⟩) (by assumption) ?_
    rotate_left
    · (intro w hSw; (try dsimp only at hSw); go_simp; try with_reducible rfl)
    ((try simp only [Act.put]); (try simp only [List.setIfInBounds_toArray]); (try simp only [List.set_cons_succ]); (try simp only [List.set_cons_zero]))
    refine wpAnyH_take (i := 8) (oi := { dst := some 47, op := Op.move (Operand.tmp 46), type := 4, pos := "more.go:26", after := #[{ on := 7, ground := Ground.data }, { on := 5, ground := Ground.chain }], guard := none }) (v := ?_) rfl (by kernel_rfl) (by kernel_rfl) (by kernel_rfl) (fun _ _ _ h => h) (Or.inl ⟨by rfl, ?_⟩) (by assumption) ?_
    rotate_left
    · (intro w hSw; (try dsimp only at hSw); go_simp; try with_reducible rfl)
    ((try simp only [Act.put]); (try simp only [List.setIfInBounds_toArray]); (try simp only [List.set_cons_succ]); (try simp only [List.set_cons_zero]))
    refine wpAnyH_take (i := 9) (oi := { dst := some 48, op := Op.load 29 (Operand.tmp 1), type := 29, pos := "more.go:26", after := #[{ on := 8, ground := Ground.guard }], guard := some (8, true) }) (v := ?_) rfl (by kernel_rfl) (by kernel_rfl) (by kernel_rfl) (fun _ _ _ h => h) (Or.inl ⟨by rfl, ?_⟩) (by assumption) ?_
    rotate_left
    · (intro w hSw; (try dsimp only at hSw); go_simp; try with_reducible rfl)
    ((try simp only [Act.put]); (try simp only [List.setIfInBounds_toArray]); (try simp only [List.set_cons_succ]); (try simp only [List.set_cons_zero]))
    refine wpAnyH_take (i := 11) (oi := { dst := some 50, op := Op.load 29 (Operand.tmp 1), type := 29, pos := "more.go:26", after := #[{ on := 8, ground := Ground.guard }], guard := some (8, true) }) (v := ?_) rfl (by kernel_rfl) (by kernel_rfl) (by kernel_rfl) (fun _ _ _ h => h) (Or.inl ⟨by rfl, ?_⟩) (by assumption) ?_
    rotate_left
    · (intro w hSw; (try dsimp only at hSw); go_simp; try with_reducible rfl)
    ((try simp only [Act.put]); (try simp only [List.setIfInBounds_toArray]); (try simp only [List.set_cons_succ]); (try simp only [List.set_cons_zero]))
    refine wpAnyH_ready (rs := [10]) (by kernel_rfl) (by simp) ?_
    refine AllReadyH.cons (o := { dst := some 49, op := Op.call { callee := Callee.value (Operand.func 12), args := #[Operand.tmp 48], argTypes := #[29] }, type := 3, pos := "more.go:26", after := #[{ on := 9, ground := Ground.data }, { on := 8, ground := Ground.chain }, { on := 8, ground := Ground.guard }], guard := some (8, true) }) rfl (fun K hK => ?_) AllReadyH.nil
    go_simp
    refine (msize_is (m := m) (z := (q.length : Int)) hHeld.2.2.2.2.2.2.2.2.2.2.2.2.2.2.2.2.2.2.2.2.1.out.sl O.out (by rw [E.out])).mono ?_
    rintro e w' ⟨rfl, hb⟩
    try go_wp2_with fail
    refine hK.out _ _ ?_ (fun hNew => ?_)
    · first | exact hHeld | exact bothN (Mun.of hb hHeld.2.2.2.2.2.2.2.2.2.2.2.2.2.2.2.2.2.2.2.2.1) (Mun.of hb hHeld.2.2.2.2.2.2.2.2.2.2.2.2.2.2.2.2.2.2.2.2.2)
    clear hK K
    replace hHeld := hNew
    clear hNew
    ((try simp only [Act.put]); (try simp only [List.setIfInBounds_toArray]); (try simp only [List.set_cons_succ]); (try simp only [List.set_cons_zero]))
    refine wpAnyH_ready (rs := [12]) (by kernel_rfl) (by simp) ?_
    refine AllReadyH.cons (o := { dst := some 51, op := Op.call { callee := Callee.value (Operand.func 11), args := #[Operand.tmp 50], argTypes := #[29] }, type := 27, pos := "more.go:26", after := #[{ on := 11, ground := Ground.data }, { on := 10, ground := Ground.chain }, { on := 8, ground := Ground.guard }], guard := some (8, true) }) rfl (fun K hK => ?_) AllReadyH.nil
    go_simp
    refine (mput_is (m := m) hHeld.2.2.2.2.2.2.2.2.2.2.2.2.2.2.2.2.2.2.2.2.1.out.sl O.out E.out).mono ?_
    rintro e w' ⟨a7, c7, rfl, _, hb⟩
    try go_wp2_with fail
    refine hK.out _ _ ?_ (fun hNew => ?_)
    · first | exact hHeld | exact bothN (Mun.of hb hHeld.2.2.2.2.2.2.2.2.2.2.2.2.2.2.2.2.2.2.2.2.1) (Mun.of hb hHeld.2.2.2.2.2.2.2.2.2.2.2.2.2.2.2.2.2.2.2.2.2)
    clear hK K
    replace hHeld := hNew
    clear hNew
    ((try simp only [Act.put]); (try simp only [List.setIfInBounds_toArray]); (try simp only [List.set_cons_succ]); (try simp only [List.set_cons_zero]))
    refine wpAnyH_take (i := 13) (oi := { dst := some 52, op := Op.call { callee := Callee.builtin Builtin.len, args := #[Operand.tmp 51], argTypes := #[27] }, type := 3, pos := "more.go:26", after := #[{ on := 12, ground := Ground.data }, { on := 8, ground := Ground.guard }], guard := some (8, true) }) (v := ?_) rfl (by kernel_rfl) (by kernel_rfl) (by kernel_rfl) (fun _ _ _ h => h) (Or.inl ⟨by rfl, ?_⟩) (by assumption) ?_
    rotate_left
    · (intro w hSw; (try dsimp only at hSw); go_simp; try with_reducible rfl)
    ((try simp only [Act.put]); (try simp only [List.setIfInBounds_toArray]); (try simp only [List.set_cons_succ]); (try simp only [List.set_cons_zero]))
    refine wpAnyH_take (i := 14) (oi := { dst := some 53, op := Op.binOp BinOp.eql 3 (Operand.tmp 49) (Operand.tmp 52) 3, type := 4, pos := "more.go:26", after := #[{ on := 10, ground := Ground.data }, { on := 13, ground := Ground.data }, { on := 8, ground := Ground.guard }], guard := some (8, true) }) (v := ?_) rfl (by kernel_rfl) (by kernel_rfl) (by kernel_rfl) (fun _ _ _ h => h) (Or.inl ⟨by rfl, ?_⟩) (by assumption) ?_
    rotate_left
    · (intro w hSw; (try dsimp only at hSw); go_simp; try with_reducible rfl)
    ((try simp only [Act.put]); (try simp only [List.setIfInBounds_toArray]); (try simp only [List.set_cons_succ]); (try simp only [List.set_cons_zero]))
    refine wpAnyH_take (i := 15) (oi := { dst := some 54, op := Op.pick (Operand.tmp 47) (Operand.tmp 53) (Operand.const (Value.bool false)), type := 4, pos := "more.go:26", after := #[{ on := 8, ground := Ground.data }, { on := 14, ground := Ground.data }], guard := none }) (v := ?_) rfl (by kernel_rfl) (by kernel_rfl) (by kernel_rfl) (fun _ _ _ h => h) (Or.inl ⟨by rfl, ?_⟩) (by assumption) ?_
    rotate_left
    · (intro w hSw; (try dsimp only at hSw); go_simp; try with_reducible rfl)
    ((try simp only [Act.put]); (try simp only [List.setIfInBounds_toArray]); (try simp only [List.set_cons_succ]); (try simp only [List.set_cons_zero]))
    refine wpAnyH_take (i := 16) (oi := { dst := some 55, op := Op.move (Operand.tmp 54), type := 4, pos := "more.go:26", after := #[{ on := 15, ground := Ground.data }, { on := 12, ground := Ground.chain }], guard := none }) (v := ?_) rfl (by kernel_rfl) (by kernel_rfl) (by kernel_rfl) (fun _ _ _ h => h) (Or.inl ⟨by rfl, ?_⟩) (by assumption) ?_
    rotate_left
    · (intro w hSw; (try dsimp only at hSw); go_simp; try with_reducible rfl)
    ((try simp only [Act.put]); (try simp only [List.setIfInBounds_toArray]); (try simp only [List.set_cons_succ]); (try simp only [List.set_cons_zero]))
    refine wpAnyH_take (i := 17) (oi := { dst := some 56, op := Op.load 29 (Operand.tmp 1), type := 29, pos := "more.go:26", after := #[{ on := 16, ground := Ground.guard }], guard := some (16, true) }) (v := ?_) rfl (by kernel_rfl) (by kernel_rfl) (by kernel_rfl) (fun _ _ _ h => h) (Or.inl ⟨by rfl, ?_⟩) (by assumption) ?_
    rotate_left
    · (intro w hSw; (try dsimp only at hSw); go_simp; try with_reducible rfl)
    ((try simp only [Act.put]); (try simp only [List.setIfInBounds_toArray]); (try simp only [List.set_cons_succ]); (try simp only [List.set_cons_zero]))
    refine wpAnyH_ready (rs := [18]) (by kernel_rfl) (by simp) ?_
    refine AllReadyH.cons (o := { dst := some 57, op := Op.call { callee := Callee.value (Operand.func 12), args := #[Operand.tmp 56], argTypes := #[29] }, type := 3, pos := "more.go:26", after := #[{ on := 17, ground := Ground.data }, { on := 16, ground := Ground.chain }, { on := 16, ground := Ground.guard }], guard := some (16, true) }) rfl (fun K hK => ?_) AllReadyH.nil
    go_simp
    refine (msize_is (m := m) (z := (q.length : Int)) hHeld.2.2.2.2.2.2.2.2.2.2.2.2.2.2.2.2.2.2.2.2.1.out.sl O.out (by rw [E.out])).mono ?_
    rintro e w' ⟨rfl, hb⟩
    try go_wp2_with fail
    refine hK.out _ _ ?_ (fun hNew => ?_)
    · first | exact hHeld | exact bothN (Mun.of hb hHeld.2.2.2.2.2.2.2.2.2.2.2.2.2.2.2.2.2.2.2.2.1) (Mun.of hb hHeld.2.2.2.2.2.2.2.2.2.2.2.2.2.2.2.2.2.2.2.2.2)
    clear hK K
    replace hHeld := hNew
    clear hNew
    ((try simp only [Act.put]); (try simp only [List.setIfInBounds_toArray]); (try simp only [List.set_cons_succ]); (try simp only [List.set_cons_zero]))
    refine wpAnyH_take (i := 19) (oi := { dst := some 58, op := Op.binOp BinOp.gtr 3 (Operand.tmp 57) (Operand.const (Value.int IntKind.i64 5)) 3, type := 4, pos := "more.go:26", after := #[{ on := 18, ground := Ground.data }, { on := 16, ground := Ground.guard }], guard := some (16, true) }) (v := ?_) rfl (by kernel_rfl) (by kernel_rfl) (by kernel_rfl) (fun _ _ _ h => h) (Or.inl ⟨by rfl, ?_⟩) (by assumption) ?_
    rotate_left
    · (intro w hSw; (try dsimp only at hSw); go_simp; try with_reducible rfl)
    ((try simp only [Act.put]); (try simp only [List.setIfInBounds_toArray]); (try simp only [List.set_cons_succ]); (try simp only [List.set_cons_zero]))
    refine wpAnyH_take (i := 20) (oi := { dst := some 59, op := Op.pick (Operand.tmp 55) (Operand.tmp 58) (Operand.const (Value.bool false)), type := 4, pos := "more.go:26", after := #[{ on := 16, ground := Ground.data }, { on := 19, ground := Ground.data }], guard := none }) (v := ?_) rfl (by kernel_rfl) (by kernel_rfl) (by kernel_rfl) (fun _ _ _ h => h) (Or.inl ⟨by rfl, ?_⟩) (by assumption) ?_
    rotate_left
    · (intro w hSw; (try dsimp only at hSw); go_simp; try with_reducible rfl)
    ((try simp only [Act.put]); (try simp only [List.setIfInBounds_toArray]); (try simp only [List.set_cons_succ]); (try simp only [List.set_cons_zero]))
    refine wpAnyH_take (i := 21) (oi := { dst := some 2, op := Op.assign (Operand.tmp 59), type := 4, pos := "more.go:26", after := #[{ on := 20, ground := Ground.data }, { on := 18, ground := Ground.chain }, { on := 0, ground := Ground.phase }, { on := 1, ground := Ground.phase }, { on := 2, ground := Ground.phase }, { on := 3, ground := Ground.phase }, { on := 4, ground := Ground.phase }, { on := 5, ground := Ground.phase }, { on := 6, ground := Ground.phase }, { on := 7, ground := Ground.phase }, { on := 8, ground := Ground.phase }, { on := 9, ground := Ground.phase }, { on := 10, ground := Ground.phase }, { on := 11, ground := Ground.phase }, { on := 12, ground := Ground.phase }, { on := 13, ground := Ground.phase }, { on := 14, ground := Ground.phase }, { on := 15, ground := Ground.phase }, { on := 16, ground := Ground.phase }, { on := 17, ground := Ground.phase }, { on := 18, ground := Ground.phase }, { on := 19, ground := Ground.phase }, { on := 20, ground := Ground.phase }], guard := none }) (v := ?_) rfl (by kernel_rfl) (by kernel_rfl) (by kernel_rfl) (fun _ _ _ h => h) (Or.inl ⟨by rfl, ?_⟩) (by assumption) ?_
    rotate_left
    · (intro w hSw; (try dsimp only at hSw); go_simp; try with_reducible rfl)
    ((try simp only [Act.put]); (try simp only [List.setIfInBounds_toArray]); (try simp only [List.set_cons_succ]); (try simp only [List.set_cons_zero]))
    refine wpAnyH_done (by kernel_rfl) ?_ _
    refine NoPanic.normal ?_
    go_wp2_with fail
    go_ret
    exact ⟨rfl, hHeld.2.2.2.2.2.2.2.2.2.2.2.2.2.2.2.2.2.2.2.2.1.out.be⟩
  · have e0 : (m.kind == 0) = false := by rw [hk]; rfl
    have e1 : (m.kind == 1) = true := by rw [hk]; rfl
    have e2 : (m.kind == 2) = false := by rw [hk]; rfl
    have RN0 : goodM ⟨m.frm, m.num, m.to, m.kind, m.vr, m.val, m.frm + 1, m.tag, m.bod, m.stp⟩ = false := kind1 hk
    have RN := Lib.hid RN0
    have ON : Hid (MsgOk ⟨m.frm, m.num, m.to, m.kind, m.vr, m.val, m.frm + 1, m.tag, m.bod, m.stp⟩) := Lib.hid ⟨O.out.num, O.out.to, O.out.val, O.out.tag⟩
    have EN : Hid (bytesM ⟨m.frm, m.num, m.to, m.kind, m.vr, m.val, m.frm + 1, m.tag, m.bod, m.stp⟩ = []) := Lib.hid (by unfold bytesM; rw [RN.out]; rfl)
    clear hk RN0 hD
    have XA : Hid (Mun W W.heap.size W.heap.size m ba bc sa sc (w2.alloc (.cells (msgA m ba bc sa sc) 29))) := Mun.alloc X3
    have ka0 := XA.out.bx.c0
    have ka3 := XA.out.bx.c3
    clear XA
    have X4 : Hid (Mun W W.heap.size W.heap.size m ba bc sa sc (w2.alloc (.cells (msgA ⟨m.frm, m.num, m.to, m.kind, m.vr, m.val, m.frm + 1, m.tag, m.bod, m.stp⟩ ba bc sa sc) 29))) := Mun.alloc X3
    have Y0 : Mun W W.heap.size w2.heap.size ⟨m.frm, m.num, m.to, m.kind, m.vr, m.val, m.frm + 1, m.tag, m.bod, m.stp⟩ ba bc sa sc (w2.alloc (.cells (msgA ⟨m.frm, m.num, m.to, m.kind, m.vr, m.val, m.frm + 1, m.tag, m.bod, m.stp⟩ ba bc sa sc) 29)) := ⟨X4.out.be, X4.out.le, msgB_new w2 _ ba bc sa sc _, ⟨X4.out.sl.b, X4.out.sl.s⟩⟩
    rw [HD.out] at Y0
    have Y4 := Lib.hid Y0
    clear Y0 X3
    skip
    go_wp2_with fail
    generalize w2.alloc (.cells (msgA ⟨m.frm, m.num, m.to, m.kind, m.vr, m.val, m.frm + 1, m.tag, m.bod, m.stp⟩ ba bc sa sc) 29) = w3 at X4 Y4 ⊢
    generalize (⟨m.frm, m.num, m.to, m.kind, m.vr, m.val, m.frm + 1, m.tag, m.bod, m.stp⟩ : Msg) = n at RN ON EN Y4
    have Y5 : Hid (Mun W W.heap.size D n ba bc sa sc w3) := Y4
    clear Y4 ka0 ka3 k0 k1 k2 k3 k4 k5 k6 k7 k8 k9
    rw [HD.out]
    refine wp_region_noPanic ?_
    refine wp_region_held_drew (S := (fun w' => w'.cell? ⟨W.heap.size, 0, none⟩ = some (.int .i64 m.frm) ∧ w'.cell? ⟨W.heap.size, 1, none⟩ = some (.int .u64 (m.num : Nat)) ∧ w'.cell? ⟨W.heap.size, 2, none⟩ = some (.int .u64 (m.to : Nat)) ∧ w'.cell? ⟨W.heap.size, 3, none⟩ = some (.int .i64 m.kind) ∧ w'.cell? ⟨W.heap.size, 4, none⟩ = some (.int .i64 m.vr) ∧ w'.cell? ⟨W.heap.size, 5, none⟩ = some (.float .f64 m.val) ∧ w'.cell? ⟨W.heap.size, 6, none⟩ = some (.int .i64 m.wri) ∧ w'.cell? ⟨W.heap.size, 7, none⟩ = some (.int .u64 (m.tag : Nat)) ∧ w'.cell? ⟨W.heap.size, 8, none⟩ = some (.slice ba m.bod.length bc) ∧ w'.cell? ⟨W.heap.size, 9, none⟩ = some (.slice sa m.stp.length sc) ∧ w'.cell? ⟨D, 0, none⟩ = some (.int .i64 n.frm) ∧ w'.cell? ⟨D, 1, none⟩ = some (.int .u64 (n.num : Nat)) ∧ w'.cell? ⟨D, 2, none⟩ = some (.int .u64 (n.to : Nat)) ∧ w'.cell? ⟨D, 3, none⟩ = some (.int .i64 n.kind) ∧ w'.cell? ⟨D, 4, none⟩ = some (.int .i64 n.vr) ∧ w'.cell? ⟨D, 5, none⟩ = some (.float .f64 n.val) ∧ w'.cell? ⟨D, 6, none⟩ = some (.int .i64 n.wri) ∧ w'.cell? ⟨D, 7, none⟩ = some (.int .u64 (n.tag : Nat)) ∧ w'.cell? ⟨D, 8, none⟩ = some (.slice ba n.bod.length bc) ∧ w'.cell? ⟨D, 9, none⟩ = some (.slice sa n.stp.length sc) ∧ Hid (Mun W W.heap.size W.heap.size m ba bc sa sc w') ∧ Hid (Mun W W.heap.size D n ba bc sa sc w'))) (by kernel_rfl) ?_ (fun hHeld => ?_)
    · exact bothN (Mun.drew X4) (Mun.drew Y5)
    refine wpAnyH_take (i := 0) (oi := { dst := some 39, op := Op.load 29 (Operand.tmp 3), type := 29, pos := "more.go:26", after := #[], guard := none }) (v := ?_) rfl (by kernel_rfl) (by kernel_rfl) (by kernel_rfl) (fun _ _ _ h => h) (Or.inl ⟨by rfl, ?_⟩) (by assumption) ?_
    rotate_left
    · (intro w hSw; (try dsimp only at hSw); go_simp; try with_reducible rfl)
    ((try simp only [Act.put]); (try simp only [List.setIfInBounds_toArray]); (try simp only [List.set_cons_succ]); (try simp only [List.set_cons_zero]))
    refine wpAnyH_ready (rs := [1]) (by kernel_rfl) (by simp) ?_
    refine AllReadyH.cons (o := { dst := some 40, op := Op.call { callee := Callee.value (Operand.func 10), args := #[Operand.tmp 39], argTypes := #[29] }, type := 4, pos := "more.go:26", after := #[{ on := 0, ground := Ground.data }], guard := none }) rfl (fun K hK => ?_) AllReadyH.nil
    go_simp
    refine (good_is (m := n) hHeld.2.2.2.2.2.2.2.2.2.2.2.2.2.2.2.2.2.2.2.2.2.out.sl ON.out RN.out).mono ?_
    rintro e w' ⟨rfl, hb⟩
    try go_wp2_with fail
    refine hK.out _ _ ?_ (fun hNew => ?_)
    · first | exact hHeld | exact bothN (Mun.of hb hHeld.2.2.2.2.2.2.2.2.2.2.2.2.2.2.2.2.2.2.2.2.1) (Mun.of hb hHeld.2.2.2.2.2.2.2.2.2.2.2.2.2.2.2.2.2.2.2.2.2)
    clear hK K
    replace hHeld := hNew
    clear hNew
    ((try simp only [Act.put]); (try simp only [List.setIfInBounds_toArray]); (try simp only [List.set_cons_succ]); (try simp only [List.set_cons_zero]))
    refine wpAnyH_take (i := 2) (oi := { dst := some 41, op := Op.unOp UnOp.not 4 (Operand.tmp 40), type := 4, pos := "more.go:26", after := #[{ on := 1, ground := Ground.data }], guard := none }) (v := ?_) rfl (by kernel_rfl) (by kernel_rfl) (by kernel_rfl) (fun _ _ _ h => h) (Or.inl ⟨by rfl, ?_⟩) (by assumption) ?_
    rotate_left
    · (intro w hSw; (try dsimp only at hSw); go_simp; try with_reducible rfl)
    ((try simp only [Act.put]); (try simp only [List.setIfInBounds_toArray]); (try simp only [List.set_cons_succ]); (try simp only [List.set_cons_zero]))
    refine wpAnyH_take (i := 3) (oi := { dst := some 42, op := Op.move (Operand.tmp 41), type := 4, pos := "more.go:26", after := #[{ on := 2, ground := Ground.data }, { on := 1, ground := Ground.chain }], guard := none }) (v := ?_) rfl (by kernel_rfl) (by kernel_rfl) (by kernel_rfl) (fun _ _ _ h => h) (Or.inl ⟨by rfl, ?_⟩) (by assumption) ?_
    rotate_left
    · (intro w hSw; (try dsimp only at hSw); go_simp; try with_reducible rfl)
    ((try simp only [Act.put]); (try simp only [List.setIfInBounds_toArray]); (try simp only [List.set_cons_succ]); (try simp only [List.set_cons_zero]))
    refine wpAnyH_take (i := 4) (oi := { dst := some 43, op := Op.load 29 (Operand.tmp 3), type := 29, pos := "more.go:26", after := #[{ on := 3, ground := Ground.guard }], guard := some (3, true) }) (v := ?_) rfl (by kernel_rfl) (by kernel_rfl) (by kernel_rfl) (fun _ _ _ h => h) (Or.inl ⟨by rfl, ?_⟩) (by assumption) ?_
    rotate_left
    · (intro w hSw; (try dsimp only at hSw); go_simp; try with_reducible rfl)
    ((try simp only [Act.put]); (try simp only [List.setIfInBounds_toArray]); (try simp only [List.set_cons_succ]); (try simp only [List.set_cons_zero]))
    refine wpAnyH_ready (rs := [5]) (by kernel_rfl) (by simp) ?_
    refine AllReadyH.cons (o := { dst := some 44, op := Op.call { callee := Callee.value (Operand.func 12), args := #[Operand.tmp 43], argTypes := #[29] }, type := 3, pos := "more.go:26", after := #[{ on := 4, ground := Ground.data }, { on := 3, ground := Ground.chain }, { on := 3, ground := Ground.guard }], guard := some (3, true) }) rfl (fun K hK => ?_) AllReadyH.nil
    go_simp
    refine (msize_is (m := n) (z := 0) hHeld.2.2.2.2.2.2.2.2.2.2.2.2.2.2.2.2.2.2.2.2.2.out.sl ON.out (by rw [EN.out]; rfl)).mono ?_
    rintro e w' ⟨rfl, hb⟩
    try go_wp2_with fail
    refine hK.out _ _ ?_ (fun hNew => ?_)
    · first | exact hHeld | exact bothN (Mun.of hb hHeld.2.2.2.2.2.2.2.2.2.2.2.2.2.2.2.2.2.2.2.2.1) (Mun.of hb hHeld.2.2.2.2.2.2.2.2.2.2.2.2.2.2.2.2.2.2.2.2.2)
    clear hK K
    replace hHeld := hNew
    clear hNew
    ((try simp only [Act.put]); (try simp only [List.setIfInBounds_toArray]); (try simp only [List.set_cons_succ]); (try simp only [List.set_cons_zero]))
    refine wpAnyH_take (i := 6) (oi := { dst := some 45, op := Op.binOp BinOp.eql 3 (Operand.tmp 44) (Operand.const (Value.int IntKind.i64 0)) 3, type := 4, pos := "more.go:26", after := #[{ on := 5, ground := Ground.data }, { on := 3, ground := Ground.guard }], guard := some (3, true) }) (v := ?_) rfl (by kernel_rfl) (by kernel_rfl) (by kernel_rfl) (fun _ _ _ h => h) (Or.inl ⟨by rfl, ?_⟩) (by assumption) ?_
    rotate_left
    · (intro w hSw; (try dsimp only at hSw); go_simp; try with_reducible rfl)
    ((try simp only [Act.put]); (try simp only [List.setIfInBounds_toArray]); (try simp only [List.set_cons_succ]); (try simp only [List.set_cons_zero]))
    refine wpAnyH_take (i := 7) (oi := { dst := some 46, op := Op.pick (Operand.tmp 42) (Operand.tmp 45) (Operand.const (Value.bool false)), type := 4, pos := "more.go:26", after := #[{ on := 3, ground := Ground.data }, { on := 6, ground := Ground.data }], guard := none }) (v := ?_) rfl (by kernel_rfl) (by kernel_rfl) (by kernel_rfl) (fun _ _ _ h => h) (Or.inl ⟨by rfl, ?_⟩) (by assumption) ?_
    rotate_left
    · (intro w hSw; (try dsimp only at hSw); go_simp; try with_reducible rfl)
    ((try simp only [Act.put]); (try simp only [List.setIfInBounds_toArray]); (try simp only [List.set_cons_succ]); (try simp only [List.set_cons_zero]))
    refine wpAnyH_take (i := 8) (oi := { dst := some 47, op := Op.move (Operand.tmp 46), type := 4, pos := "more.go:26", after := #[{ on := 7, ground := Ground.data }, { on := 5, ground := Ground.chain }], guard := none }) (v := ?_) rfl (by kernel_rfl) (by kernel_rfl) (by kernel_rfl) (fun _ _ _ h => h) (Or.inl ⟨by rfl, ?_⟩) (by assumption) ?_
    rotate_left
    · (intro w hSw; (try dsimp only at hSw); go_simp; try with_reducible rfl)
    ((try simp only [Act.put]); (try simp only [List.setIfInBounds_toArray]); (try simp only [List.set_cons_succ]); (try simp only [List.set_cons_zero]))
    refine wpAnyH_take (i := 9) (oi := { dst := some 48, op := Op.load 29 (Operand.tmp 1), type := 29, pos := "more.go:26", after := #[{ on := 8, ground := Ground.guard }], guard := some (8, true) }) (v := ?_) rfl (by kernel_rfl) (by kernel_rfl) (by kernel_rfl) (fun _ _ _ h => h) (Or.inl ⟨by rfl, ?_⟩) (by assumption) ?_
    rotate_left
    · (intro w hSw; (try dsimp only at hSw); go_simp; try with_reducible rfl)
    ((try simp only [Act.put]); (try simp only [List.setIfInBounds_toArray]); (try simp only [List.set_cons_succ]); (try simp only [List.set_cons_zero]))
    refine wpAnyH_take (i := 11) (oi := { dst := some 50, op := Op.load 29 (Operand.tmp 1), type := 29, pos := "more.go:26", after := #[{ on := 8, ground := Ground.guard }], guard := some (8, true) }) (v := ?_) rfl (by kernel_rfl) (by kernel_rfl) (by kernel_rfl) (fun _ _ _ h => h) (Or.inl ⟨by rfl, ?_⟩) (by assumption) ?_
    rotate_left
    · (intro w hSw; (try dsimp only at hSw); go_simp; try with_reducible rfl)
    ((try simp only [Act.put]); (try simp only [List.setIfInBounds_toArray]); (try simp only [List.set_cons_succ]); (try simp only [List.set_cons_zero]))
    refine wpAnyH_ready (rs := [10]) (by kernel_rfl) (by simp) ?_
    refine AllReadyH.cons (o := { dst := some 49, op := Op.call { callee := Callee.value (Operand.func 12), args := #[Operand.tmp 48], argTypes := #[29] }, type := 3, pos := "more.go:26", after := #[{ on := 9, ground := Ground.data }, { on := 8, ground := Ground.chain }, { on := 8, ground := Ground.guard }], guard := some (8, true) }) rfl (fun K hK => ?_) AllReadyH.nil
    go_simp
    refine (msize_is (m := m) (z := (q.length : Int)) hHeld.2.2.2.2.2.2.2.2.2.2.2.2.2.2.2.2.2.2.2.2.1.out.sl O.out (by rw [E.out])).mono ?_
    rintro e w' ⟨rfl, hb⟩
    try go_wp2_with fail
    refine hK.out _ _ ?_ (fun hNew => ?_)
    · first | exact hHeld | exact bothN (Mun.of hb hHeld.2.2.2.2.2.2.2.2.2.2.2.2.2.2.2.2.2.2.2.2.1) (Mun.of hb hHeld.2.2.2.2.2.2.2.2.2.2.2.2.2.2.2.2.2.2.2.2.2)
    clear hK K
    replace hHeld := hNew
    clear hNew
    ((try simp only [Act.put]); (try simp only [List.setIfInBounds_toArray]); (try simp only [List.set_cons_succ]); (try simp only [List.set_cons_zero]))
    refine wpAnyH_ready (rs := [12]) (by kernel_rfl) (by simp) ?_
    refine AllReadyH.cons (o := { dst := some 51, op := Op.call { callee := Callee.value (Operand.func 11), args := #[Operand.tmp 50], argTypes := #[29] }, type := 27, pos := "more.go:26", after := #[{ on := 11, ground := Ground.data }, { on := 10, ground := Ground.chain }, { on := 8, ground := Ground.guard }], guard := some (8, true) }) rfl (fun K hK => ?_) AllReadyH.nil
    go_simp
    refine (mput_is (m := m) hHeld.2.2.2.2.2.2.2.2.2.2.2.2.2.2.2.2.2.2.2.2.1.out.sl O.out E.out).mono ?_
    rintro e w' ⟨a7, c7, rfl, _, hb⟩
    try go_wp2_with fail
    refine hK.out _ _ ?_ (fun hNew => ?_)
    · first | exact hHeld | exact bothN (Mun.of hb hHeld.2.2.2.2.2.2.2.2.2.2.2.2.2.2.2.2.2.2.2.2.1) (Mun.of hb hHeld.2.2.2.2.2.2.2.2.2.2.2.2.2.2.2.2.2.2.2.2.2)
    clear hK K
    replace hHeld := hNew
    clear hNew
    ((try simp only [Act.put]); (try simp only [List.setIfInBounds_toArray]); (try simp only [List.set_cons_succ]); (try simp only [List.set_cons_zero]))
    refine wpAnyH_take (i := 13) (oi := { dst := some 52, op := Op.call { callee := Callee.builtin Builtin.len, args := #[Operand.tmp 51], argTypes := #[27] }, type := 3, pos := "more.go:26", after := #[{ on := 12, ground := Ground.data }, { on := 8, ground := Ground.guard }], guard := some (8, true) }) (v := ?_) rfl (by kernel_rfl) (by kernel_rfl) (by kernel_rfl) (fun _ _ _ h => h) (Or.inl ⟨by rfl, ?_⟩) (by assumption) ?_
    rotate_left
    · (intro w hSw; (try dsimp only at hSw); go_simp; try with_reducible rfl)
    ((try simp only [Act.put]); (try simp only [List.setIfInBounds_toArray]); (try simp only [List.set_cons_succ]); (try simp only [List.set_cons_zero]))
    refine wpAnyH_take (i := 14) (oi := { dst := some 53, op := Op.binOp BinOp.eql 3 (Operand.tmp 49) (Operand.tmp 52) 3, type := 4, pos := "more.go:26", after := #[{ on := 10, ground := Ground.data }, { on := 13, ground := Ground.data }, { on := 8, ground := Ground.guard }], guard := some (8, true) }) (v := ?_) rfl (by kernel_rfl) (by kernel_rfl) (by kernel_rfl) (fun _ _ _ h => h) (Or.inl ⟨by rfl, ?_⟩) (by assumption) ?_
    rotate_left
    · (intro w hSw; (try dsimp only at hSw); go_simp; try with_reducible rfl)
    ((try simp only [Act.put]); (try simp only [List.setIfInBounds_toArray]); (try simp only [List.set_cons_succ]); (try simp only [List.set_cons_zero]))
    refine wpAnyH_take (i := 15) (oi := { dst := some 54, op := Op.pick (Operand.tmp 47) (Operand.tmp 53) (Operand.const (Value.bool false)), type := 4, pos := "more.go:26", after := #[{ on := 8, ground := Ground.data }, { on := 14, ground := Ground.data }], guard := none }) (v := ?_) rfl (by kernel_rfl) (by kernel_rfl) (by kernel_rfl) (fun _ _ _ h => h) (Or.inl ⟨by rfl, ?_⟩) (by assumption) ?_
    rotate_left
    · (intro w hSw; (try dsimp only at hSw); go_simp; try with_reducible rfl)
    ((try simp only [Act.put]); (try simp only [List.setIfInBounds_toArray]); (try simp only [List.set_cons_succ]); (try simp only [List.set_cons_zero]))
    refine wpAnyH_take (i := 16) (oi := { dst := some 55, op := Op.move (Operand.tmp 54), type := 4, pos := "more.go:26", after := #[{ on := 15, ground := Ground.data }, { on := 12, ground := Ground.chain }], guard := none }) (v := ?_) rfl (by kernel_rfl) (by kernel_rfl) (by kernel_rfl) (fun _ _ _ h => h) (Or.inl ⟨by rfl, ?_⟩) (by assumption) ?_
    rotate_left
    · (intro w hSw; (try dsimp only at hSw); go_simp; try with_reducible rfl)
    ((try simp only [Act.put]); (try simp only [List.setIfInBounds_toArray]); (try simp only [List.set_cons_succ]); (try simp only [List.set_cons_zero]))
    refine wpAnyH_take (i := 17) (oi := { dst := some 56, op := Op.load 29 (Operand.tmp 1), type := 29, pos := "more.go:26", after := #[{ on := 16, ground := Ground.guard }], guard := some (16, true) }) (v := ?_) rfl (by kernel_rfl) (by kernel_rfl) (by kernel_rfl) (fun _ _ _ h => h) (Or.inl ⟨by rfl, ?_⟩) (by assumption) ?_
    rotate_left
    · (intro w hSw; (try dsimp only at hSw); go_simp; try with_reducible rfl)
    ((try simp only [Act.put]); (try simp only [List.setIfInBounds_toArray]); (try simp only [List.set_cons_succ]); (try simp only [List.set_cons_zero]))
    refine wpAnyH_ready (rs := [18]) (by kernel_rfl) (by simp) ?_
    refine AllReadyH.cons (o := { dst := some 57, op := Op.call { callee := Callee.value (Operand.func 12), args := #[Operand.tmp 56], argTypes := #[29] }, type := 3, pos := "more.go:26", after := #[{ on := 17, ground := Ground.data }, { on := 16, ground := Ground.chain }, { on := 16, ground := Ground.guard }], guard := some (16, true) }) rfl (fun K hK => ?_) AllReadyH.nil
    go_simp
    refine (msize_is (m := m) (z := (q.length : Int)) hHeld.2.2.2.2.2.2.2.2.2.2.2.2.2.2.2.2.2.2.2.2.1.out.sl O.out (by rw [E.out])).mono ?_
    rintro e w' ⟨rfl, hb⟩
    try go_wp2_with fail
    refine hK.out _ _ ?_ (fun hNew => ?_)
    · first | exact hHeld | exact bothN (Mun.of hb hHeld.2.2.2.2.2.2.2.2.2.2.2.2.2.2.2.2.2.2.2.2.1) (Mun.of hb hHeld.2.2.2.2.2.2.2.2.2.2.2.2.2.2.2.2.2.2.2.2.2)
    clear hK K
    replace hHeld := hNew
    clear hNew
    ((try simp only [Act.put]); (try simp only [List.setIfInBounds_toArray]); (try simp only [List.set_cons_succ]); (try simp only [List.set_cons_zero]))
    refine wpAnyH_take (i := 19) (oi := { dst := some 58, op := Op.binOp BinOp.gtr 3 (Operand.tmp 57) (Operand.const (Value.int IntKind.i64 5)) 3, type := 4, pos := "more.go:26", after := #[{ on := 18, ground := Ground.data }, { on := 16, ground := Ground.guard }], guard := some (16, true) }) (v := ?_) rfl (by kernel_rfl) (by kernel_rfl) (by kernel_rfl) (fun _ _ _ h => h) (Or.inl ⟨by rfl, ?_⟩) (by assumption) ?_
    rotate_left
    · (intro w hSw; (try dsimp only at hSw); go_simp; try with_reducible rfl)
    ((try simp only [Act.put]); (try simp only [List.setIfInBounds_toArray]); (try simp only [List.set_cons_succ]); (try simp only [List.set_cons_zero]))
    refine wpAnyH_take (i := 20) (oi := { dst := some 59, op := Op.pick (Operand.tmp 55) (Operand.tmp 58) (Operand.const (Value.bool false)), type := 4, pos := "more.go:26", after := #[{ on := 16, ground := Ground.data }, { on := 19, ground := Ground.data }], guard := none }) (v := ?_) rfl (by kernel_rfl) (by kernel_rfl) (by kernel_rfl) (fun _ _ _ h => h) (Or.inl ⟨by rfl, ?_⟩) (by assumption) ?_
    rotate_left
    · (intro w hSw; (try dsimp only at hSw); go_simp; try with_reducible rfl)
    ((try simp only [Act.put]); (try simp only [List.setIfInBounds_toArray]); (try simp only [List.set_cons_succ]); (try simp only [List.set_cons_zero]))
    refine wpAnyH_take (i := 21) (oi := { dst := some 2, op := Op.assign (Operand.tmp 59), type := 4, pos := "more.go:26", after := #[{ on := 20, ground := Ground.data }, { on := 18, ground := Ground.chain }, { on := 0, ground := Ground.phase }, { on := 1, ground := Ground.phase }, { on := 2, ground := Ground.phase }, { on := 3, ground := Ground.phase }, { on := 4, ground := Ground.phase }, { on := 5, ground := Ground.phase }, { on := 6, ground := Ground.phase }, { on := 7, ground := Ground.phase }, { on := 8, ground := Ground.phase }, { on := 9, ground := Ground.phase }, { on := 10, ground := Ground.phase }, { on := 11, ground := Ground.phase }, { on := 12, ground := Ground.phase }, { on := 13, ground := Ground.phase }, { on := 14, ground := Ground.phase }, { on := 15, ground := Ground.phase }, { on := 16, ground := Ground.phase }, { on := 17, ground := Ground.phase }, { on := 18, ground := Ground.phase }, { on := 19, ground := Ground.phase }, { on := 20, ground := Ground.phase }], guard := none }) (v := ?_) rfl (by kernel_rfl) (by kernel_rfl) (by kernel_rfl) (fun _ _ _ h => h) (Or.inl ⟨by rfl, ?_⟩) (by assumption) ?_
    rotate_left
    · (intro w hSw; (try dsimp only at hSw); go_simp; try with_reducible rfl)
    ((try simp only [Act.put]); (try simp only [List.setIfInBounds_toArray]); (try simp only [List.set_cons_succ]); (try simp only [List.set_cons_zero]))
    refine wpAnyH_done (by kernel_rfl) ?_ _
    refine NoPanic.normal ?_
    go_wp2_with fail
    go_ret
    exact ⟨rfl, hHeld.2.2.2.2.2.2.2.2.2.2.2.2.2.2.2.2.2.2.2.2.1.out.be⟩
  · have e0 : (m.kind == 0) = false := by rw [hk]; rfl
    have e1 : (m.kind == 1) = false := by rw [hk]; rfl
    have e2 : (m.kind == 2) = true := by rw [hk]; rfl
    have RN0 : goodM ⟨m.frm, m.num, m.to, m.kind, m.vr, m.val, m.wri, 1, m.bod, m.stp⟩ = false := kind2 hk
    have RN := Lib.hid RN0
    have ON : Hid (MsgOk ⟨m.frm, m.num, m.to, m.kind, m.vr, m.val, m.wri, 1, m.bod, m.stp⟩) := Lib.hid ⟨O.out.num, O.out.to, O.out.val, (by decide : (1 : Nat) < 18446744073709551616)⟩
    have EN : Hid (bytesM ⟨m.frm, m.num, m.to, m.kind, m.vr, m.val, m.wri, 1, m.bod, m.stp⟩ = []) := Lib.hid (by unfold bytesM; rw [RN.out]; rfl)
    clear hk RN0 hD
    have XA : Hid (Mun W W.heap.size W.heap.size m ba bc sa sc (w2.alloc (.cells (msgA m ba bc sa sc) 29))) := Mun.alloc X3
    have ka0 := XA.out.bx.c0
    have ka3 := XA.out.bx.c3
    clear XA
    have X4 : Hid (Mun W W.heap.size W.heap.size m ba bc sa sc (w2.alloc (.cells (msgA ⟨m.frm, m.num, m.to, m.kind, m.vr, m.val, m.wri, 1, m.bod, m.stp⟩ ba bc sa sc) 29))) := Mun.alloc X3
    have Y0 : Mun W W.heap.size w2.heap.size ⟨m.frm, m.num, m.to, m.kind, m.vr, m.val, m.wri, 1, m.bod, m.stp⟩ ba bc sa sc (w2.alloc (.cells (msgA ⟨m.frm, m.num, m.to, m.kind, m.vr, m.val, m.wri, 1, m.bod, m.stp⟩ ba bc sa sc) 29)) := ⟨X4.out.be, X4.out.le, msgB_new w2 _ ba bc sa sc _, ⟨X4.out.sl.b, X4.out.sl.s⟩⟩
    rw [HD.out] at Y0
    have Y4 := Lib.hid Y0
    clear Y0 X3
    skip
    go_wp2_with fail
    generalize w2.alloc (.cells (msgA ⟨m.frm, m.num, m.to, m.kind, m.vr, m.val, m.wri, 1, m.bod, m.stp⟩ ba bc sa sc) 29) = w3 at X4 Y4 ⊢
    generalize (⟨m.frm, m.num, m.to, m.kind, m.vr, m.val, m.wri, 1, m.bod, m.stp⟩ : Msg) = n at RN ON EN Y4
    have Y5 : Hid (Mun W W.heap.size D n ba bc sa sc w3) := Y4
    clear Y4 ka0 ka3 k0 k1 k2 k3 k4 k5 k6 k7 k8 k9
    rw [HD.out]
    refine wp_region_noPanic ?_
    refine wp_region_held_drew (S := (fun w' => w'.cell? ⟨W.heap.size, 0, none⟩ = some (.int .i64 m.frm) ∧ w'.cell? ⟨W.heap.size, 1, none⟩ = some (.int .u64 (m.num : Nat)) ∧ w'.cell? ⟨W.heap.size, 2, none⟩ = some (.int .u64 (m.to : Nat)) ∧ w'.cell? ⟨W.heap.size, 3, none⟩ = some (.int .i64 m.kind) ∧ w'.cell? ⟨W.heap.size, 4, none⟩ = some (.int .i64 m.vr) ∧ w'.cell? ⟨W.heap.size, 5, none⟩ = some (.float .f64 m.val) ∧ w'.cell? ⟨W.heap.size, 6, none⟩ = some (.int .i64 m.wri) ∧ w'.cell? ⟨W.heap.size, 7, none⟩ = some (.int .u64 (m.tag : Nat)) ∧ w'.cell? ⟨W.heap.size, 8, none⟩ = some (.slice ba m.bod.length bc) ∧ w'.cell? ⟨W.heap.size, 9, none⟩ = some (.slice sa m.stp.length sc) ∧ w'.cell? ⟨D, 0, none⟩ = some (.int .i64 n.frm) ∧ w'.cell? ⟨D, 1, none⟩ = some (.int .u64 (n.num : Nat)) ∧ w'.cell? ⟨D, 2, none⟩ = some (.int .u64 (n.to : Nat)) ∧ w'.cell? ⟨D, 3, none⟩ = some (.int .i64 n.kind) ∧ w'.cell? ⟨D, 4, none⟩ = some (.int .i64 n.vr) ∧ w'.cell? ⟨D, 5, none⟩ = some (.float .f64 n.val) ∧ w'.cell? ⟨D, 6, none⟩ = some (.int .i64 n.wri) ∧ w'.cell? ⟨D, 7, none⟩ = some (.int .u64 (n.tag : Nat)) ∧ w'.cell? ⟨D, 8, none⟩ = some (.slice ba n.bod.length bc) ∧ w'.cell? ⟨D, 9, none⟩ = some (.slice sa n.stp.length sc) ∧ Hid (Mun W W.heap.size W.heap.size m ba bc sa sc w') ∧ Hid (Mun W W.heap.size D n ba bc sa sc w'))) (by kernel_rfl) ?_ (fun hHeld => ?_)
    · exact bothN (Mun.drew X4) (Mun.drew Y5)
    refine wpAnyH_take (i := 0) (oi := { dst := some 39, op := Op.load 29 (Operand.tmp 3), type := 29, pos := "more.go:26", after := #[], guard := none }) (v := ?_) rfl (by kernel_rfl) (by kernel_rfl) (by kernel_rfl) (fun _ _ _ h => h) (Or.inl ⟨by rfl, ?_⟩) (by assumption) ?_
    rotate_left
    · (intro w hSw; (try dsimp only at hSw); go_simp; try with_reducible rfl)
    ((try simp only [Act.put]); (try simp only [List.setIfInBounds_toArray]); (try simp only [List.set_cons_succ]); (try simp only [List.set_cons_zero]))
    refine wpAnyH_ready (rs := [1]) (by kernel_rfl) (by simp) ?_
    refine AllReadyH.cons (o := { dst := some 40, op := Op.call { callee := Callee.value (Operand.func 10), args := #[Operand.tmp 39], argTypes := #[29] }, type := 4, pos := "more.go:26", after := #[{ on := 0, ground := Ground.data }], guard := none }) rfl (fun K hK => ?_) AllReadyH.nil
    go_simp
    refine (good_is (m := n) hHeld.2.2.2.2.2.2.2.2.2.2.2.2.2.2.2.2.2.2.2.2.2.out.sl ON.out RN.out).mono ?_
    rintro e w' ⟨rfl, hb⟩
    try go_wp2_with fail
    refine hK.out _ _ ?_ (fun hNew => ?_)
    · first | exact hHeld | exact bothN (Mun.of hb hHeld.2.2.2.2.2.2.2.2.2.2.2.2.2.2.2.2.2.2.2.2.1) (Mun.of hb hHeld.2.2.2.2.2.2.2.2.2.2.2.2.2.2.2.2.2.2.2.2.2)
    clear hK K
    replace hHeld := hNew
    clear hNew
    ((try simp only [Act.put]); (try simp only [List.setIfInBounds_toArray]); (try simp only [List.set_cons_succ]); (try simp only [List.set_cons_zero]))
    refine wpAnyH_take (i := 2) (oi := { dst := some 41, op := Op.unOp UnOp.not 4 (Operand.tmp 40), type := 4, pos := "more.go:26", after := #[{ on := 1, ground := Ground.data }], guard := none }) (v := ?_) rfl (by kernel_rfl) (by kernel_rfl) (by kernel_rfl) (fun _ _ _ h => h) (Or.inl ⟨by rfl, ?_⟩) (by assumption) ?_
    rotate_left
    · (intro w hSw; (try dsimp only at hSw); go_simp; try with_reducible rfl)
    ((try simp only [Act.put]); (try simp only [List.setIfInBounds_toArray]); (try simp only [List.set_cons_succ]); (try simp only [List.set_cons_zero]))
    refine wpAnyH_take (i := 3) (oi := { dst := some 42, op := Op.move (Operand.tmp 41), type := 4, pos := "more.go:26", after := #[{ on := 2, ground := Ground.data }, { on := 1, ground := Ground.chain }], guard := none }) (v := ?_) rfl (by kernel_rfl) (by kernel_rfl) (by kernel_rfl) (fun _ _ _ h => h) (Or.inl ⟨by rfl, ?_⟩) (by assumption) ?_
    rotate_left
    · (intro w hSw; (try dsimp only at hSw); go_simp; try with_reducible rfl)
    ((try simp only [Act.put]); (try simp only [List.setIfInBounds_toArray]); (try simp only [List.set_cons_succ]); (try simp only [List.set_cons_zero]))
    refine wpAnyH_take (i := 4) (oi := { dst := some 43, op := Op.load 29 (Operand.tmp 3), type := 29, pos := "more.go:26", after := #[{ on := 3, ground := Ground.guard }], guard := some (3, true) }) (v := ?_) rfl (by kernel_rfl) (by kernel_rfl) (by kernel_rfl) (fun _ _ _ h => h) (Or.inl ⟨by rfl, ?_⟩) (by assumption) ?_
    rotate_left
    · (intro w hSw; (try dsimp only at hSw); go_simp; try with_reducible rfl)
    ((try simp only [Act.put]); (try simp only [List.setIfInBounds_toArray]); (try simp only [List.set_cons_succ]); (try simp only [List.set_cons_zero]))
    refine wpAnyH_ready (rs := [5]) (by kernel_rfl) (by simp) ?_
    refine AllReadyH.cons (o := { dst := some 44, op := Op.call { callee := Callee.value (Operand.func 12), args := #[Operand.tmp 43], argTypes := #[29] }, type := 3, pos := "more.go:26", after := #[{ on := 4, ground := Ground.data }, { on := 3, ground := Ground.chain }, { on := 3, ground := Ground.guard }], guard := some (3, true) }) rfl (fun K hK => ?_) AllReadyH.nil
    go_simp
    refine (msize_is (m := n) (z := 0) hHeld.2.2.2.2.2.2.2.2.2.2.2.2.2.2.2.2.2.2.2.2.2.out.sl ON.out (by rw [EN.out]; rfl)).mono ?_
    rintro e w' ⟨rfl, hb⟩
    try go_wp2_with fail
    refine hK.out _ _ ?_ (fun hNew => ?_)
    · first | exact hHeld | exact bothN (Mun.of hb hHeld.2.2.2.2.2.2.2.2.2.2.2.2.2.2.2.2.2.2.2.2.1) (Mun.of hb hHeld.2.2.2.2.2.2.2.2.2.2.2.2.2.2.2.2.2.2.2.2.2)
    clear hK K
    replace hHeld := hNew
    clear hNew
    ((try simp only [Act.put]); (try simp only [List.setIfInBounds_toArray]); (try simp only [List.set_cons_succ]); (try simp only [List.set_cons_zero]))
    refine wpAnyH_take (i := 6) (oi := { dst := some 45, op := Op.binOp BinOp.eql 3 (Operand.tmp 44) (Operand.const (Value.int IntKind.i64 0)) 3, type := 4, pos := "more.go:26", after := #[{ on := 5, ground := Ground.data }, { on := 3, ground := Ground.guard }], guard := some (3, true) }) (v := ?_) rfl (by kernel_rfl) (by kernel_rfl) (by kernel_rfl) (fun _ _ _ h => h) (Or.inl ⟨by rfl, ?_⟩) (by assumption) ?_
    rotate_left
    · (intro w hSw; (try dsimp only at hSw); go_simp; try with_reducible rfl)
    ((try simp only [Act.put]); (try simp only [List.setIfInBounds_toArray]); (try simp only [List.set_cons_succ]); (try simp only [List.set_cons_zero]))
    refine wpAnyH_take (i := 7) (oi := { dst := some 46, op := Op.pick (Operand.tmp 42) (Operand.tmp 45) (Operand.const (Value.bool false)), type := 4, pos := "more.go:26", after := #[{ on := 3, ground := Ground.data }, { on := 6, ground := Ground.data }], guard := none }) (v := ?_) rfl (by kernel_rfl) (by kernel_rfl) (by kernel_rfl) (fun _ _ _ h => h) (Or.inl ⟨by rfl, ?_⟩) (by assumption) ?_
    rotate_left
    · (intro w hSw; (try dsimp only at hSw); go_simp; try with_reducible rfl)
    ((try simp only [Act.put]); (try simp only [List.setIfInBounds_toArray]); (try simp only [List.set_cons_succ]); (try simp only [List.set_cons_zero]))
    refine wpAnyH_take (i := 8) (oi := { dst := some 47, op := Op.move (Operand.tmp 46), type := 4, pos := "more.go:26", after := #[{ on := 7, ground := Ground.data }, { on := 5, ground := Ground.chain }], guard := none }) (v := ?_) rfl (by kernel_rfl) (by kernel_rfl) (by kernel_rfl) (fun _ _ _ h => h) (Or.inl ⟨by rfl, ?_⟩) (by assumption) ?_
    rotate_left
    · (intro w hSw; (try dsimp only at hSw); go_simp; try with_reducible rfl)
    ((try simp only [Act.put]); (try simp only [List.setIfInBounds_toArray]); (try simp only [List.set_cons_succ]); (try simp only [List.set_cons_zero]))
    refine wpAnyH_take (i := 9) (oi := { dst := some 48, op := Op.load 29 (Operand.tmp 1), type := 29, pos := "more.go:26", after := #[{ on := 8, ground := Ground.guard }], guard := some (8, true) }) (v := ?_) rfl (by kernel_rfl) (by kernel_rfl) (by kernel_rfl) (fun _ _ _ h => h) (Or.inl ⟨by rfl, ?_⟩) (by assumption) ?_
    rotate_left
    · (intro w hSw; (try dsimp only at hSw); go_simp; try with_reducible rfl)
    ((try simp only [Act.put]); (try simp only [List.setIfInBounds_toArray]); (try simp only [List.set_cons_succ]); (try simp only [List.set_cons_zero]))
    refine wpAnyH_take (i := 11) (oi := { dst := some 50, op := Op.load 29 (Operand.tmp 1), type := 29, pos := "more.go:26", after := #[{ on := 8, ground := Ground.guard }], guard := some (8, true) }) (v := ?_) rfl (by kernel_rfl) (by kernel_rfl) (by kernel_rfl) (fun _ _ _ h => h) (Or.inl ⟨by rfl, ?_⟩) (by assumption) ?_
    rotate_left
    · (intro w hSw; (try dsimp only at hSw); go_simp; try with_reducible rfl)
    ((try simp only [Act.put]); (try simp only [List.setIfInBounds_toArray]); (try simp only [List.set_cons_succ]); (try simp only [List.set_cons_zero]))
    refine wpAnyH_ready (rs := [10]) (by kernel_rfl) (by simp) ?_
    refine AllReadyH.cons (o := { dst := some 49, op := Op.call { callee := Callee.value (Operand.func 12), args := #[Operand.tmp 48], argTypes := #[29] }, type := 3, pos := "more.go:26", after := #[{ on := 9, ground := Ground.data }, { on := 8, ground := Ground.chain }, { on := 8, ground := Ground.guard }], guard := some (8, true) }) rfl (fun K hK => ?_) AllReadyH.nil
    go_simp
    refine (msize_is (m := m) (z := (q.length : Int)) hHeld.2.2.2.2.2.2.2.2.2.2.2.2.2.2.2.2.2.2.2.2.1.out.sl O.out (by rw [E.out])).mono ?_
    rintro e w' ⟨rfl, hb⟩
    try go_wp2_with fail
    refine hK.out _ _ ?_ (fun hNew => ?_)
    · first | exact hHeld | exact bothN (Mun.of hb hHeld.2.2.2.2.2.2.2.2.2.2.2.2.2.2.2.2.2.2.2.2.1) (Mun.of hb hHeld.2.2.2.2.2.2.2.2.2.2.2.2.2.2.2.2.2.2.2.2.2)
    clear hK K
    replace hHeld := hNew
    clear hNew
    ((try simp only [Act.put]); (try simp only [List.setIfInBounds_toArray]); (try simp only [List.set_cons_succ]); (try simp only [List.set_cons_zero]))
    refine wpAnyH_ready (rs := [12]) (by kernel_rfl) (by simp) ?_
    refine AllReadyH.cons (o := { dst := some 51, op := Op.call { callee := Callee.value (Operand.func 11), args := #[Operand.tmp 50], argTypes := #[29] }, type := 27, pos := "more.go:26", after := #[{ on := 11, ground := Ground.data }, { on := 10, ground := Ground.chain }, { on := 8, ground := Ground.guard }], guard := some (8, true) }) rfl (fun K hK => ?_) AllReadyH.nil
    go_simp
    refine (mput_is (m := m) hHeld.2.2.2.2.2.2.2.2.2.2.2.2.2.2.2.2.2.2.2.2.1.out.sl O.out E.out).mono ?_
    rintro e w' ⟨a7, c7, rfl, _, hb⟩
    try go_wp2_with fail
    refine hK.out _ _ ?_ (fun hNew => ?_)
    · first | exact hHeld | exact bothN (Mun.of hb hHeld.2.2.2.2.2.2.2.2.2.2.2.2.2.2.2.2.2.2.2.2.1) (Mun.of hb hHeld.2.2.2.2.2.2.2.2.2.2.2.2.2.2.2.2.2.2.2.2.2)
    clear hK K
    replace hHeld := hNew
    clear hNew
    ((try simp only [Act.put]); (try simp only [List.setIfInBounds_toArray]); (try simp only [List.set_cons_succ]); (try simp only [List.set_cons_zero]))
    refine wpAnyH_take (i := 13) (oi := { dst := some 52, op := Op.call { callee := Callee.builtin Builtin.len, args := #[Operand.tmp 51], argTypes := #[27] }, type := 3, pos := "more.go:26", after := #[{ on := 12, ground := Ground.data }, { on := 8, ground := Ground.guard }], guard := some (8, true) }) (v := ?_) rfl (by kernel_rfl) (by kernel_rfl) (by kernel_rfl) (fun _ _ _ h => h) (Or.inl ⟨by rfl, ?_⟩) (by assumption) ?_
    rotate_left
    · (intro w hSw; (try dsimp only at hSw); go_simp; try with_reducible rfl)
    ((try simp only [Act.put]); (try simp only [List.setIfInBounds_toArray]); (try simp only [List.set_cons_succ]); (try simp only [List.set_cons_zero]))
    refine wpAnyH_take (i := 14) (oi := { dst := some 53, op := Op.binOp BinOp.eql 3 (Operand.tmp 49) (Operand.tmp 52) 3, type := 4, pos := "more.go:26", after := #[{ on := 10, ground := Ground.data }, { on := 13, ground := Ground.data }, { on := 8, ground := Ground.guard }], guard := some (8, true) }) (v := ?_) rfl (by kernel_rfl) (by kernel_rfl) (by kernel_rfl) (fun _ _ _ h => h) (Or.inl ⟨by rfl, ?_⟩) (by assumption) ?_
    rotate_left
    · (intro w hSw; (try dsimp only at hSw); go_simp; try with_reducible rfl)
    ((try simp only [Act.put]); (try simp only [List.setIfInBounds_toArray]); (try simp only [List.set_cons_succ]); (try simp only [List.set_cons_zero]))
    refine wpAnyH_take (i := 15) (oi := { dst := some 54, op := Op.pick (Operand.tmp 47) (Operand.tmp 53) (Operand.const (Value.bool false)), type := 4, pos := "more.go:26", after := #[{ on := 8, ground := Ground.data }, { on := 14, ground := Ground.data }], guard := none }) (v := ?_) rfl (by kernel_rfl) (by kernel_rfl) (by kernel_rfl) (fun _ _ _ h => h) (Or.inl ⟨by rfl, ?_⟩) (by assumption) ?_
    rotate_left
    · (intro w hSw; (try dsimp only at hSw); go_simp; try with_reducible rfl)
    ((try simp only [Act.put]); (try simp only [List.setIfInBounds_toArray]); (try simp only [List.set_cons_succ]); (try simp only [List.set_cons_zero]))
    refine wpAnyH_take (i := 16) (oi := { dst := some 55, op := Op.move (Operand.tmp 54), type := 4, pos := "more.go:26", after := #[{ on := 15, ground := Ground.data }, { on := 12, ground := Ground.chain }], guard := none }) (v := ?_) rfl (by kernel_rfl) (by kernel_rfl) (by kernel_rfl) (fun _ _ _ h => h) (Or.inl ⟨by rfl, ?_⟩) (by assumption) ?_
    rotate_left
    · (intro w hSw; (try dsimp only at hSw); go_simp; try with_reducible rfl)
    ((try simp only [Act.put]); (try simp only [List.setIfInBounds_toArray]); (try simp only [List.set_cons_succ]); (try simp only [List.set_cons_zero]))
    refine wpAnyH_take (i := 17) (oi := { dst := some 56, op := Op.load 29 (Operand.tmp 1), type := 29, pos := "more.go:26", after := #[{ on := 16, ground := Ground.guard }], guard := some (16, true) }) (v := ?_) rfl (by kernel_rfl) (by kernel_rfl) (by kernel_rfl) (fun _ _ _ h => h) (Or.inl ⟨by rfl, ?_⟩) (by assumption) ?_
    rotate_left
    · (intro w hSw; (try dsimp only at hSw); go_simp; try with_reducible rfl)
    ((try simp only [Act.put]); (try simp only [List.setIfInBounds_toArray]); (try simp only [List.set_cons_succ]); (try simp only [List.set_cons_zero]))
    refine wpAnyH_ready (rs := [18]) (by kernel_rfl) (by simp) ?_
    refine AllReadyH.cons (o := { dst := some 57, op := Op.call { callee := Callee.value (Operand.func 12), args := #[Operand.tmp 56], argTypes := #[29] }, type := 3, pos := "more.go:26", after := #[{ on := 17, ground := Ground.data }, { on := 16, ground := Ground.chain }, { on := 16, ground := Ground.guard }], guard := some (16, true) }) rfl (fun K hK => ?_) AllReadyH.nil
    go_simp
    refine (msize_is (m := m) (z := (q.length : Int)) hHeld.2.2.2.2.2.2.2.2.2.2.2.2.2.2.2.2.2.2.2.2.1.out.sl O.out (by rw [E.out])).mono ?_
    rintro e w' ⟨rfl, hb⟩
    try go_wp2_with fail
    refine hK.out _ _ ?_ (fun hNew => ?_)
    · first | exact hHeld | exact bothN (Mun.of hb hHeld.2.2.2.2.2.2.2.2.2.2.2.2.2.2.2.2.2.2.2.2.1) (Mun.of hb hHeld.2.2.2.2.2.2.2.2.2.2.2.2.2.2.2.2.2.2.2.2.2)
    clear hK K
    replace hHeld := hNew
    clear hNew
    ((try simp only [Act.put]); (try simp only [List.setIfInBounds_toArray]); (try simp only [List.set_cons_succ]); (try simp only [List.set_cons_zero]))
    refine wpAnyH_take (i := 19) (oi := { dst := some 58, op := Op.binOp BinOp.gtr 3 (Operand.tmp 57) (Operand.const (Value.int IntKind.i64 5)) 3, type := 4, pos := "more.go:26", after := #[{ on := 18, ground := Ground.data }, { on := 16, ground := Ground.guard }], guard := some (16, true) }) (v := ?_) rfl (by kernel_rfl) (by kernel_rfl) (by kernel_rfl) (fun _ _ _ h => h) (Or.inl ⟨by rfl, ?_⟩) (by assumption) ?_
    rotate_left
    · (intro w hSw; (try dsimp only at hSw); go_simp; try with_reducible rfl)
    ((try simp only [Act.put]); (try simp only [List.setIfInBounds_toArray]); (try simp only [List.set_cons_succ]); (try simp only [List.set_cons_zero]))
    refine wpAnyH_take (i := 20) (oi := { dst := some 59, op := Op.pick (Operand.tmp 55) (Operand.tmp 58) (Operand.const (Value.bool false)), type := 4, pos := "more.go:26", after := #[{ on := 16, ground := Ground.data }, { on := 19, ground := Ground.data }], guard := none }) (v := ?_) rfl (by kernel_rfl) (by kernel_rfl) (by kernel_rfl) (fun _ _ _ h => h) (Or.inl ⟨by rfl, ?_⟩) (by assumption) ?_
    rotate_left
    · (intro w hSw; (try dsimp only at hSw); go_simp; try with_reducible rfl)
    ((try simp only [Act.put]); (try simp only [List.setIfInBounds_toArray]); (try simp only [List.set_cons_succ]); (try simp only [List.set_cons_zero]))
    refine wpAnyH_take (i := 21) (oi := { dst := some 2, op := Op.assign (Operand.tmp 59), type := 4, pos := "more.go:26", after := #[{ on := 20, ground := Ground.data }, { on := 18, ground := Ground.chain }, { on := 0, ground := Ground.phase }, { on := 1, ground := Ground.phase }, { on := 2, ground := Ground.phase }, { on := 3, ground := Ground.phase }, { on := 4, ground := Ground.phase }, { on := 5, ground := Ground.phase }, { on := 6, ground := Ground.phase }, { on := 7, ground := Ground.phase }, { on := 8, ground := Ground.phase }, { on := 9, ground := Ground.phase }, { on := 10, ground := Ground.phase }, { on := 11, ground := Ground.phase }, { on := 12, ground := Ground.phase }, { on := 13, ground := Ground.phase }, { on := 14, ground := Ground.phase }, { on := 15, ground := Ground.phase }, { on := 16, ground := Ground.phase }, { on := 17, ground := Ground.phase }, { on := 18, ground := Ground.phase }, { on := 19, ground := Ground.phase }, { on := 20, ground := Ground.phase }], guard := none }) (v := ?_) rfl (by kernel_rfl) (by kernel_rfl) (by kernel_rfl) (fun _ _ _ h => h) (Or.inl ⟨by rfl, ?_⟩) (by assumption) ?_
    rotate_left
    · (intro w hSw; (try dsimp only at hSw); go_simp; try with_reducible rfl)
    ((try simp only [Act.put]); (try simp only [List.setIfInBounds_toArray]); (try simp only [List.set_cons_succ]); (try simp only [List.set_cons_zero]))
    refine wpAnyH_done (by kernel_rfl) ?_ _
    refine NoPanic.normal ?_
    go_wp2_with fail
    go_ret
    exact ⟨rfl, hHeld.2.2.2.2.2.2.2.2.2.2.2.2.2.2.2.2.2.2.2.2.1.out.be⟩
  · have e0 : (m.kind == 0) = false := by rw [hk]; rfl
    have e1 : (m.kind == 1) = false := by rw [hk]; rfl
    have e2 : (m.kind == 2) = false := by rw [hk]; rfl
    have RN0 : goodM ⟨m.frm, m.num, m.to, m.kind, m.vr, m.val, m.wri, m.tag, [120], m.stp⟩ = false := kind3 hk
    have RN := Lib.hid RN0
    have ON : Hid (MsgOk ⟨m.frm, m.num, m.to, m.kind, m.vr, m.val, m.wri, m.tag, [120], m.stp⟩) := Lib.hid ⟨O.out.num, O.out.to, O.out.val, O.out.tag⟩
    have EN : Hid (bytesM ⟨m.frm, m.num, m.to, m.kind, m.vr, m.val, m.wri, m.tag, [120], m.stp⟩ = []) := Lib.hid (by unfold bytesM; rw [RN.out]; rfl)
    clear hk RN0 hD
    have XA : Hid (Mun W W.heap.size W.heap.size m ba bc sa sc (w2.alloc (.cells (msgA m ba bc sa sc) 29))) := Mun.alloc X3
    have ka0 := XA.out.bx.c0
    have ka3 := XA.out.bx.c3
    clear XA
    have hcv := Lib.run_convert_bytes_const (P := Try.prog) (w2.alloc (.cells (msgA m ba bc sa sc) 29)) 27 5 #[.int .u8 120] 1 1 Try.underlying27 Try.underlying5
    rw [show (w2.alloc (.cells (msgA m ba bc sa sc) 29)).heap.size = w2.heap.size + 1 by simp] at hcv
    have X4 : Hid (Mun W W.heap.size W.heap.size m ba bc sa sc ((w2.alloc (.cells (msgA ⟨m.frm, m.num, m.to, m.kind, m.vr, m.val, m.wri, m.tag, [120], m.stp⟩ (some ⟨w2.heap.size + 1, 0, none⟩) 1 sa sc) 29)).alloc (.cells #[.int .u8 120] 5 (1, 2)))) := Mun.alloc (Mun.alloc X3)
    have L0 := sl_lit bV 256 (w2.alloc (.cells (msgA ⟨m.frm, m.num, m.to, m.kind, m.vr, m.val, m.wri, m.tag, [120], m.stp⟩ (some ⟨w2.heap.size + 1, 0, none⟩) 1 sa sc) 29)) [120] #[.int .u8 120] 5 (1, 2) 1 rfl rfl (by simp) (by unfold maxLen; omega)
    rw [show (w2.alloc (.cells (msgA ⟨m.frm, m.num, m.to, m.kind, m.vr, m.val, m.wri, m.tag, [120], m.stp⟩ (some ⟨w2.heap.size + 1, 0, none⟩) 1 sa sc) 29)).heap.size = w2.heap.size + 1 by simp] at L0
    have Y0 : Mun W W.heap.size w2.heap.size ⟨m.frm, m.num, m.to, m.kind, m.vr, m.val, m.wri, m.tag, [120], m.stp⟩ (some ⟨w2.heap.size + 1, 0, none⟩) 1 sa sc ((w2.alloc (.cells (msgA ⟨m.frm, m.num, m.to, m.kind, m.vr, m.val, m.wri, m.tag, [120], m.stp⟩ (some ⟨w2.heap.size + 1, 0, none⟩) 1 sa sc) 29)).alloc (.cells #[.int .u8 120] 5 (1, 2))) := ⟨X4.out.be, X4.out.le, (msgB_new w2 _ _ 1 sa sc _).below (below_alloc (Below.refl _ _) _), ⟨L0, X4.out.sl.s⟩⟩
    have Y4 := Lib.hid Y0
    clear Y0 X3 L0
    go_wp2_with fail
    generalize (w2.alloc (.cells (msgA ⟨m.frm, m.num, m.to, m.kind, m.vr, m.val, m.wri, m.tag, [120], m.stp⟩ (some ⟨w2.heap.size + 1, 0, none⟩) 1 sa sc) 29)).alloc (.cells #[.int .u8 120] 5 (1, 2)) = w3 at X4 Y4 ⊢
    generalize (⟨m.frm, m.num, m.to, m.kind, m.vr, m.val, m.wri, m.tag, [120], m.stp⟩ : Msg) = n at RN ON EN Y4
    have Y5 : Hid (Mun W W.heap.size D n (some ⟨D + 1, 0, none⟩) 1 sa sc w3) := Lib.hid (by have := Y4.out; rw [HD.out] at this; exact this)
    clear Y4 ka0 ka3 k0 k1 k2 k3 k4 k5 k6 k7 k8 k9
    rw [HD.out]
    refine wp_region_noPanic ?_
    refine wp_region_held_drew (S := (fun w' => w'.cell? ⟨W.heap.size, 0, none⟩ = some (.int .i64 m.frm) ∧ w'.cell? ⟨W.heap.size, 1, none⟩ = some (.int .u64 (m.num : Nat)) ∧ w'.cell? ⟨W.heap.size, 2, none⟩ = some (.int .u64 (m.to : Nat)) ∧ w'.cell? ⟨W.heap.size, 3, none⟩ = some (.int .i64 m.kind) ∧ w'.cell? ⟨W.heap.size, 4, none⟩ = some (.int .i64 m.vr) ∧ w'.cell? ⟨W.heap.size, 5, none⟩ = some (.float .f64 m.val) ∧ w'.cell? ⟨W.heap.size, 6, none⟩ = some (.int .i64 m.wri) ∧ w'.cell? ⟨W.heap.size, 7, none⟩ = some (.int .u64 (m.tag : Nat)) ∧ w'.cell? ⟨W.heap.size, 8, none⟩ = some (.slice ba m.bod.length bc) ∧ w'.cell? ⟨W.heap.size, 9, none⟩ = some (.slice sa m.stp.length sc) ∧ w'.cell? ⟨D, 0, none⟩ = some (.int .i64 n.frm) ∧ w'.cell? ⟨D, 1, none⟩ = some (.int .u64 (n.num : Nat)) ∧ w'.cell? ⟨D, 2, none⟩ = some (.int .u64 (n.to : Nat)) ∧ w'.cell? ⟨D, 3, none⟩ = some (.int .i64 n.kind) ∧ w'.cell? ⟨D, 4, none⟩ = some (.int .i64 n.vr) ∧ w'.cell? ⟨D, 5, none⟩ = some (.float .f64 n.val) ∧ w'.cell? ⟨D, 6, none⟩ = some (.int .i64 n.wri) ∧ w'.cell? ⟨D, 7, none⟩ = some (.int .u64 (n.tag : Nat)) ∧ w'.cell? ⟨D, 8, none⟩ = some (.slice (some ⟨D + 1, 0, none⟩) n.bod.length 1) ∧ w'.cell? ⟨D, 9, none⟩ = some (.slice sa n.stp.length sc) ∧ Hid (Mun W W.heap.size W.heap.size m ba bc sa sc w') ∧ Hid (Mun W W.heap.size D n (some ⟨D + 1, 0, none⟩) 1 sa sc w'))) (by kernel_rfl) ?_ (fun hHeld => ?_)
    · exact bothN (Mun.drew X4) (Mun.drew Y5)
    refine wpAnyH_take (i := 0) (oi := { dst := some 39, op := Op.load 29 (Operand.tmp 3), type := 29, pos := "more.go:26", after := #[], guard := none }) (v := ?_) rfl (by kernel_rfl) (by kernel_rfl) (by kernel_rfl) (fun _ _ _ h => h) (Or.inl ⟨by rfl, ?_⟩) (by assumption) ?_
    rotate_left
    · (intro w hSw; (try dsimp only at hSw); go_simp; try with_reducible rfl)
    ((try simp only [Act.put]); (try simp only [List.setIfInBounds_toArray]); (try simp only [List.set_cons_succ]); (try simp only [List.set_cons_zero]))
    refine wpAnyH_ready (rs := [1]) (by kernel_rfl) (by simp) ?_
    refine AllReadyH.cons (o := { dst := some 40, op := Op.call { callee := Callee.value (Operand.func 10), args := #[Operand.tmp 39], argTypes := #[29] }, type := 4, pos := "more.go:26", after := #[{ on := 0, ground := Ground.data }], guard := none }) rfl (fun K hK => ?_) AllReadyH.nil
    go_simp
    refine (good_is (m := n) hHeld.2.2.2.2.2.2.2.2.2.2.2.2.2.2.2.2.2.2.2.2.2.out.sl ON.out RN.out).mono ?_
    rintro e w' ⟨rfl, hb⟩
    try go_wp2_with fail
    refine hK.out _ _ ?_ (fun hNew => ?_)
    · first | exact hHeld | exact bothN (Mun.of hb hHeld.2.2.2.2.2.2.2.2.2.2.2.2.2.2.2.2.2.2.2.2.1) (Mun.of hb hHeld.2.2.2.2.2.2.2.2.2.2.2.2.2.2.2.2.2.2.2.2.2)
    clear hK K
    replace hHeld := hNew
    clear hNew
    ((try simp only [Act.put]); (try simp only [List.setIfInBounds_toArray]); (try simp only [List.set_cons_succ]); (try simp only [List.set_cons_zero]))
    refine wpAnyH_take (i := 2) (oi := { dst := some 41, op := Op.unOp UnOp.not 4 (Operand.tmp 40), type := 4, pos := "more.go:26", after := #[{ on := 1, ground := Ground.data }], guard := none }) (v := ?_) rfl (by kernel_rfl) (by kernel_rfl) (by kernel_rfl) (fun _ _ _ h => h) (Or.inl ⟨by rfl, ?_⟩) (by assumption) ?_
    rotate_left
    · (intro w hSw; (try dsimp only at hSw); go_simp; try with_reducible rfl)
    ((try simp only [Act.put]); (try simp only [List.setIfInBounds_toArray]); (try simp only [List.set_cons_succ]); (try simp only [List.set_cons_zero]))
    refine wpAnyH_take (i := 3) (oi := { dst := some 42, op := Op.move (Operand.tmp 41), type := 4, pos := "more.go:26", after := #[{ on := 2, ground := Ground.data }, { on := 1, ground := Ground.chain }], guard := none }) (v := ?_) rfl (by kernel_rfl) (by kernel_rfl) (by kernel_rfl) (fun _ _ _ h => h) (Or.inl ⟨by rfl, ?_⟩) (by assumption) ?_
    rotate_left
    · (intro w hSw; (try dsimp only at hSw); go_simp; try with_reducible rfl)
    ((try simp only [Act.put]); (try simp only [List.setIfInBounds_toArray]); (try simp only [List.set_cons_succ]); (try simp only [List.set_cons_zero]))
    refine wpAnyH_take (i := 4) (oi := { dst := some 43, op := Op.load 29 (Operand.tmp 3), type := 29, pos := "more.go:26", after := #[{ on := 3, ground := Ground.guard }], guard := some (3, true) }) (v := ?_) rfl (by kernel_rfl) (by kernel_rfl) (by kernel_rfl) (fun _ _ _ h => h) (Or.inl ⟨by rfl, ?_⟩) (by assumption) ?_
    rotate_left
    · (intro w hSw; (try dsimp only at hSw); go_simp; try with_reducible rfl)
    ((try simp only [Act.put]); (try simp only [List.setIfInBounds_toArray]); (try simp only [List.set_cons_succ]); (try simp only [List.set_cons_zero]))
    refine wpAnyH_ready (rs := [5]) (by kernel_rfl) (by simp) ?_
    refine AllReadyH.cons (o := { dst := some 44, op := Op.call { callee := Callee.value (Operand.func 12), args := #[Operand.tmp 43], argTypes := #[29] }, type := 3, pos := "more.go:26", after := #[{ on := 4, ground := Ground.data }, { on := 3, ground := Ground.chain }, { on := 3, ground := Ground.guard }], guard := some (3, true) }) rfl (fun K hK => ?_) AllReadyH.nil
    go_simp
    refine (msize_is (m := n) (z := 0) hHeld.2.2.2.2.2.2.2.2.2.2.2.2.2.2.2.2.2.2.2.2.2.out.sl ON.out (by rw [EN.out]; rfl)).mono ?_
    rintro e w' ⟨rfl, hb⟩
    try go_wp2_with fail
    refine hK.out _ _ ?_ (fun hNew => ?_)
    · first | exact hHeld | exact bothN (Mun.of hb hHeld.2.2.2.2.2.2.2.2.2.2.2.2.2.2.2.2.2.2.2.2.1) (Mun.of hb hHeld.2.2.2.2.2.2.2.2.2.2.2.2.2.2.2.2.2.2.2.2.2)
    clear hK K
    replace hHeld := hNew
    clear hNew
    ((try simp only [Act.put]); (try simp only [List.setIfInBounds_toArray]); (try simp only [List.set_cons_succ]); (try simp only [List.set_cons_zero]))
    refine wpAnyH_take (i := 6) (oi := { dst := some 45, op := Op.binOp BinOp.eql 3 (Operand.tmp 44) (Operand.const (Value.int IntKind.i64 0)) 3, type := 4, pos := "more.go:26", after := #[{ on := 5, ground := Ground.data }, { on := 3, ground := Ground.guard }], guard := some (3, true) }) (v := ?_) rfl (by kernel_rfl) (by kernel_rfl) (by kernel_rfl) (fun _ _ _ h => h) (Or.inl ⟨by rfl, ?_⟩) (by assumption) ?_
    rotate_left
    · (intro w hSw; (try dsimp only at hSw); go_simp; try with_reducible rfl)
    ((try simp only [Act.put]); (try simp only [List.setIfInBounds_toArray]); (try simp only [List.set_cons_succ]); (try simp only [List.set_cons_zero]))
    refine wpAnyH_take (i := 7) (oi := { dst := some 46, op := Op.pick (Operand.tmp 42) (Operand.tmp 45) (Operand.const (Value.bool false)), type := 4, pos := "more.go:26", after := #[{ on := 3, ground := Ground.data }, { on := 6, ground := Ground.data }], guard := none }) (v := ?_) rfl (by kernel_rfl) (by kernel_rfl) (by kernel_rfl) (fun _ _ _ h => h) (Or.inl ⟨by rfl, ?_⟩) (by assumption) ?_
    rotate_left
    · (intro w hSw; (try dsimp only at hSw); go_simp; try with_reducible rfl)
    ((try simp only [Act.put]); (try simp only [List.setIfInBounds_toArray]); (try simp only [List.set_cons_succ]); (try simp only [List.set_cons_zero]))
    refine wpAnyH_take (i := 8) (oi := { dst := some 47, op := Op.move (Operand.tmp 46), type := 4, pos := "more.go:26", after := #[{ on := 7, ground := Ground.data }, { on := 5, ground := Ground.chain }], guard := none }) (v := ?_) rfl (by kernel_rfl) (by kernel_rfl) (by kernel_rfl) (fun _ _ _ h => h) (Or.inl ⟨by rfl, ?_⟩) (by assumption) ?_
    rotate_left
    · (intro w hSw; (try dsimp only at hSw); go_simp; try with_reducible rfl)
    ((try simp only [Act.put]); (try simp only [List.setIfInBounds_toArray]); (try simp only [List.set_cons_succ]); (try simp only [List.set_cons_zero]))
    refine wpAnyH_take (i := 9) (oi := { dst := some 48, op := Op.load 29 (Operand.tmp 1), type := 29, pos := "more.go:26", after := #[{ on := 8, ground := Ground.guard }], guard := some (8, true) }) (v := ?_) rfl (by kernel_rfl) (by kernel_rfl) (by kernel_rfl) (fun _ _ _ h => h) (Or.inl ⟨by rfl, ?_⟩) (by assumption) ?_
    rotate_left
    · (intro w hSw; (try dsimp only at hSw); go_simp; try with_reducible rfl)
    ((try simp only [Act.put]); (try simp only [List.setIfInBounds_toArray]); (try simp only [List.set_cons_succ]); (try simp only [List.set_cons_zero]))
    refine wpAnyH_take (i := 11) (oi := { dst := some 50, op := Op.load 29 (Operand.tmp 1), type := 29, pos := "more.go:26", after := #[{ on := 8, ground := Ground.guard }], guard := some (8, true) }) (v := ?_) rfl (by kernel_rfl) (by kernel_rfl) (by kernel_rfl) (fun _ _ _ h => h) (Or.inl ⟨by rfl, ?_⟩) (by assumption) ?_
    rotate_left
    · (intro w hSw; (try dsimp only at hSw); go_simp; try with_reducible rfl)
    ((try simp only [Act.put]); (try simp only [List.setIfInBounds_toArray]); (try simp only [List.set_cons_succ]); (try simp only [List.set_cons_zero]))
    refine wpAnyH_ready (rs := [10]) (by kernel_rfl) (by simp) ?_
    refine AllReadyH.cons (o := { dst := some 49, op := Op.call { callee := Callee.value (Operand.func 12), args := #[Operand.tmp 48], argTypes := #[29] }, type := 3, pos := "more.go:26", after := #[{ on := 9, ground := Ground.data }, { on := 8, ground := Ground.chain }, { on := 8, ground := Ground.guard }], guard := some (8, true) }) rfl (fun K hK => ?_) AllReadyH.nil
    go_simp
    refine (msize_is (m := m) (z := (q.length : Int)) hHeld.2.2.2.2.2.2.2.2.2.2.2.2.2.2.2.2.2.2.2.2.1.out.sl O.out (by rw [E.out])).mono ?_
    rintro e w' ⟨rfl, hb⟩
    try go_wp2_with fail
    refine hK.out _ _ ?_ (fun hNew => ?_)
    · first | exact hHeld | exact bothN (Mun.of hb hHeld.2.2.2.2.2.2.2.2.2.2.2.2.2.2.2.2.2.2.2.2.1) (Mun.of hb hHeld.2.2.2.2.2.2.2.2.2.2.2.2.2.2.2.2.2.2.2.2.2)
    clear hK K
    replace hHeld := hNew
    clear hNew
    ((try simp only [Act.put]); (try simp only [List.setIfInBounds_toArray]); (try simp only [List.set_cons_succ]); (try simp only [List.set_cons_zero]))
    refine wpAnyH_ready (rs := [12]) (by kernel_rfl) (by simp) ?_
    refine AllReadyH.cons (o := { dst := some 51, op := Op.call { callee := Callee.value (Operand.func 11), args := #[Operand.tmp 50], argTypes := #[29] }, type := 27, pos := "more.go:26", after := #[{ on := 11, ground := Ground.data }, { on := 10, ground := Ground.chain }, { on := 8, ground := Ground.guard }], guard := some (8, true) }) rfl (fun K hK => ?_) AllReadyH.nil
    go_simp
    refine (mput_is (m := m) hHeld.2.2.2.2.2.2.2.2.2.2.2.2.2.2.2.2.2.2.2.2.1.out.sl O.out E.out).mono ?_
    rintro e w' ⟨a7, c7, rfl, _, hb⟩
    try go_wp2_with fail
    refine hK.out _ _ ?_ (fun hNew => ?_)
    · first | exact hHeld | exact bothN (Mun.of hb hHeld.2.2.2.2.2.2.2.2.2.2.2.2.2.2.2.2.2.2.2.2.1) (Mun.of hb hHeld.2.2.2.2.2.2.2.2.2.2.2.2.2.2.2.2.2.2.2.2.2)
    clear hK K
    replace hHeld := hNew
    clear hNew
    ((try simp only [Act.put]); (try simp only [List.setIfInBounds_toArray]); (try simp only [List.set_cons_succ]); (try simp only [List.set_cons_zero]))
    refine wpAnyH_take (i := 13) (oi := { dst := some 52, op := Op.call { callee := Callee.builtin Builtin.len, args := #[Operand.tmp 51], argTypes := #[27] }, type := 3, pos := "more.go:26", after := #[{ on := 12, ground := Ground.data }, { on := 8, ground := Ground.guard }], guard := some (8, true) }) (v := ?_) rfl (by kernel_rfl) (by kernel_rfl) (by kernel_rfl) (fun _ _ _ h => h) (Or.inl ⟨by rfl, ?_⟩) (by assumption) ?_
    rotate_left
    · (intro w hSw; (try dsimp only at hSw); go_simp; try with_reducible rfl)
    ((try simp only [Act.put]); (try simp only [List.setIfInBounds_toArray]); (try simp only [List.set_cons_succ]); (try simp only [List.set_cons_zero]))
    refine wpAnyH_take (i := 14) (oi := { dst := some 53, op := Op.binOp BinOp.eql 3 (Operand.tmp 49) (Operand.tmp 52) 3, type := 4, pos := "more.go:26", after := #[{ on := 10, ground := Ground.data }, { on := 13, ground := Ground.data }, { on := 8, ground := Ground.guard }], guard := some (8, true) }) (v := ?_) rfl (by kernel_rfl) (by kernel_rfl) (by kernel_rfl) (fun _ _ _ h => h) (Or.inl ⟨by rfl, ?_⟩) (by assumption) ?_
    rotate_left
    · (intro w hSw; (try dsimp only at hSw); go_simp; try with_reducible rfl)
    ((try simp only [Act.put]); (try simp only [List.setIfInBounds_toArray]); (try simp only [List.set_cons_succ]); (try simp only [List.set_cons_zero]))
    refine wpAnyH_take (i := 15) (oi := { dst := some 54, op := Op.pick (Operand.tmp 47) (Operand.tmp 53) (Operand.const (Value.bool false)), type := 4, pos := "more.go:26", after := #[{ on := 8, ground := Ground.data }, { on := 14, ground := Ground.data }], guard := none }) (v := ?_) rfl (by kernel_rfl) (by kernel_rfl) (by kernel_rfl) (fun _ _ _ h => h) (Or.inl ⟨by rfl, ?_⟩) (by assumption) ?_
    rotate_left
    · (intro w hSw; (try dsimp only at hSw); go_simp; try with_reducible rfl)
    ((try simp only [Act.put]); (try simp only [List.setIfInBounds_toArray]); (try simp only [List.set_cons_succ]); (try simp only [List.set_cons_zero]))
    refine wpAnyH_take (i := 16) (oi := { dst := some 55, op := Op.move (Operand.tmp 54), type := 4, pos := "more.go:26", after := #[{ on := 15, ground := Ground.data }, { on := 12, ground := Ground.chain }], guard := none }) (v := ?_) rfl (by kernel_rfl) (by kernel_rfl) (by kernel_rfl) (fun _ _ _ h => h) (Or.inl ⟨by rfl, ?_⟩) (by assumption) ?_
    rotate_left
    · (intro w hSw; (try dsimp only at hSw); go_simp; try with_reducible rfl)
    ((try simp only [Act.put]); (try simp only [List.setIfInBounds_toArray]); (try simp only [List.set_cons_succ]); (try simp only [List.set_cons_zero]))
    refine wpAnyH_take (i := 17) (oi := { dst := some 56, op := Op.load 29 (Operand.tmp 1), type := 29, pos := "more.go:26", after := #[{ on := 16, ground := Ground.guard }], guard := some (16, true) }) (v := ?_) rfl (by kernel_rfl) (by kernel_rfl) (by kernel_rfl) (fun _ _ _ h => h) (Or.inl ⟨by rfl, ?_⟩) (by assumption) ?_
    rotate_left
    · (intro w hSw; (try dsimp only at hSw); go_simp; try with_reducible rfl)
    ((try simp only [Act.put]); (try simp only [List.setIfInBounds_toArray]); (try simp only [List.set_cons_succ]); (try simp only [List.set_cons_zero]))
    refine wpAnyH_ready (rs := [18]) (by kernel_rfl) (by simp) ?_
    refine AllReadyH.cons (o := { dst := some 57, op := Op.call { callee := Callee.value (Operand.func 12), args := #[Operand.tmp 56], argTypes := #[29] }, type := 3, pos := "more.go:26", after := #[{ on := 17, ground := Ground.data }, { on := 16, ground := Ground.chain }, { on := 16, ground := Ground.guard }], guard := some (16, true) }) rfl (fun K hK => ?_) AllReadyH.nil
    go_simp
    refine (msize_is (m := m) (z := (q.length : Int)) hHeld.2.2.2.2.2.2.2.2.2.2.2.2.2.2.2.2.2.2.2.2.1.out.sl O.out (by rw [E.out])).mono ?_
    rintro e w' ⟨rfl, hb⟩
    try go_wp2_with fail
    refine hK.out _ _ ?_ (fun hNew => ?_)
    · first | exact hHeld | exact bothN (Mun.of hb hHeld.2.2.2.2.2.2.2.2.2.2.2.2.2.2.2.2.2.2.2.2.1) (Mun.of hb hHeld.2.2.2.2.2.2.2.2.2.2.2.2.2.2.2.2.2.2.2.2.2)
    clear hK K
    replace hHeld := hNew
    clear hNew
    ((try simp only [Act.put]); (try simp only [List.setIfInBounds_toArray]); (try simp only [List.set_cons_succ]); (try simp only [List.set_cons_zero]))
    refine wpAnyH_take (i := 19) (oi := { dst := some 58, op := Op.binOp BinOp.gtr 3 (Operand.tmp 57) (Operand.const (Value.int IntKind.i64 5)) 3, type := 4, pos := "more.go:26", after := #[{ on := 18, ground := Ground.data }, { on := 16, ground := Ground.guard }], guard := some (16, true) }) (v := ?_) rfl (by kernel_rfl) (by kernel_rfl) (by kernel_rfl) (fun _ _ _ h => h) (Or.inl ⟨by rfl, ?_⟩) (by assumption) ?_
    rotate_left
    · (intro w hSw; (try dsimp only at hSw); go_simp; try with_reducible rfl)
    ((try simp only [Act.put]); (try simp only [List.setIfInBounds_toArray]); (try simp only [List.set_cons_succ]); (try simp only [List.set_cons_zero]))
    refine wpAnyH_take (i := 20) (oi := { dst := some 59, op := Op.pick (Operand.tmp 55) (Operand.tmp 58) (Operand.const (Value.bool false)), type := 4, pos := "more.go:26", after := #[{ on := 16, ground := Ground.data }, { on := 19, ground := Ground.data }], guard := none }) (v := ?_) rfl (by kernel_rfl) (by kernel_rfl) (by kernel_rfl) (fun _ _ _ h => h) (Or.inl ⟨by rfl, ?_⟩) (by assumption) ?_
    rotate_left
    · (intro w hSw; (try dsimp only at hSw); go_simp; try with_reducible rfl)
    ((try simp only [Act.put]); (try simp only [List.setIfInBounds_toArray]); (try simp only [List.set_cons_succ]); (try simp only [List.set_cons_zero]))
    refine wpAnyH_take (i := 21) (oi := { dst := some 2, op := Op.assign (Operand.tmp 59), type := 4, pos := "more.go:26", after := #[{ on := 20, ground := Ground.data }, { on := 18, ground := Ground.chain }, { on := 0, ground := Ground.phase }, { on := 1, ground := Ground.phase }, { on := 2, ground := Ground.phase }, { on := 3, ground := Ground.phase }, { on := 4, ground := Ground.phase }, { on := 5, ground := Ground.phase }, { on := 6, ground := Ground.phase }, { on := 7, ground := Ground.phase }, { on := 8, ground := Ground.phase }, { on := 9, ground := Ground.phase }, { on := 10, ground := Ground.phase }, { on := 11, ground := Ground.phase }, { on := 12, ground := Ground.phase }, { on := 13, ground := Ground.phase }, { on := 14, ground := Ground.phase }, { on := 15, ground := Ground.phase }, { on := 16, ground := Ground.phase }, { on := 17, ground := Ground.phase }, { on := 18, ground := Ground.phase }, { on := 19, ground := Ground.phase }, { on := 20, ground := Ground.phase }], guard := none }) (v := ?_) rfl (by kernel_rfl) (by kernel_rfl) (by kernel_rfl) (fun _ _ _ h => h) (Or.inl ⟨by rfl, ?_⟩) (by assumption) ?_
    rotate_left
    · (intro w hSw; (try dsimp only at hSw); go_simp; try with_reducible rfl)
    ((try simp only [Act.put]); (try simp only [List.setIfInBounds_toArray]); (try simp only [List.set_cons_succ]); (try simp only [List.set_cons_zero]))
    refine wpAnyH_done (by kernel_rfl) ?_ _
    refine NoPanic.normal ?_
    go_wp2_with fail
    go_ret
    exact ⟨rfl, hHeld.2.2.2.2.2.2.2.2.2.2.2.2.2.2.2.2.2.2.2.2.1.out.be⟩

end Go.Proofs.Ytjdnaonhfacpoaa
