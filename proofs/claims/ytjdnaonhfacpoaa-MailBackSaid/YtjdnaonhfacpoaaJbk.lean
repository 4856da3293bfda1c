/-
  A message that may be is read again; cut short it is none: the walk of the statement MailBack.
-/
import Derived.Test.YtjdnaonhfacpoaaJwd
import Derived.Deep.RegionHeld3
namespace Go.Proofs.Ytjdnaonhfacpoaa
open Go.RowKit

abbrev vM (m : Msg) (v : Nat) : Msg := ⟨m.frm, m.num, m.to, m.kind, m.vr, v, m.wri, m.tag, m.bod, m.stp⟩
theorem MsgS.ofV {w : World} {m : Msg} {v : Nat} {ba : Option Addr} {bc : Nat} {sa : Option Addr} {sc : Nat} (h : MsgS w (vM m v) ba bc sa sc) : MsgS w m ba bc sa sc := ⟨h.b, h.s⟩
theorem both2 {W w' : World} {N B D V : Nat} {m : Msg} {ba b3 : Option Addr} {bc c3 : Nat} {sa s3 : Option Addr} {sc d3 : Nat} (hx : Hid (Mun W N B m ba bc sa sc w')) (hy : Hid (Mun W N D (vM m V) b3 c3 s3 d3 w')) {a5 : Option Addr} {c5 : Nat} {q : List Nat} (hz : Hid (SlAt bV 256 w' a5 c5 q)) :
    w'.cell? ⟨B, 0, none⟩ = some (.int .i64 m.frm) ∧ w'.cell? ⟨B, 1, none⟩ = some (.int .u64 (m.num : Nat)) ∧ w'.cell? ⟨B, 2, none⟩ = some (.int .u64 (m.to : Nat)) ∧ w'.cell? ⟨B, 3, none⟩ = some (.int .i64 m.kind) ∧ w'.cell? ⟨B, 4, none⟩ = some (.int .i64 m.vr) ∧ w'.cell? ⟨B, 5, none⟩ = some (.float .f64 m.val) ∧ w'.cell? ⟨B, 6, none⟩ = some (.int .i64 m.wri) ∧ w'.cell? ⟨B, 7, none⟩ = some (.int .u64 (m.tag : Nat)) ∧ w'.cell? ⟨B, 8, none⟩ = some (.slice ba m.bod.length bc) ∧ w'.cell? ⟨B, 9, none⟩ = some (.slice sa m.stp.length sc) ∧ w'.cell? ⟨D, 0, none⟩ = some (.int .i64 m.frm) ∧ w'.cell? ⟨D, 1, none⟩ = some (.int .u64 (m.num : Nat)) ∧ w'.cell? ⟨D, 2, none⟩ = some (.int .u64 (m.to : Nat)) ∧ w'.cell? ⟨D, 3, none⟩ = some (.int .i64 m.kind) ∧ w'.cell? ⟨D, 4, none⟩ = some (.int .i64 m.vr) ∧ w'.cell? ⟨D, 5, none⟩ = some (.float .f64 V) ∧ w'.cell? ⟨D, 6, none⟩ = some (.int .i64 m.wri) ∧ w'.cell? ⟨D, 7, none⟩ = some (.int .u64 (m.tag : Nat)) ∧ w'.cell? ⟨D, 8, none⟩ = some (.slice b3 m.bod.length c3) ∧ w'.cell? ⟨D, 9, none⟩ = some (.slice s3 m.stp.length d3) ∧ Hid (Mun W N B m ba bc sa sc w') ∧ Hid (Mun W N D (vM m V) b3 c3 s3 d3 w') ∧ Hid (SlAt bV 256 w' a5 c5 q) :=
  ⟨hx.out.bx.c0, hx.out.bx.c1, hx.out.bx.c2, hx.out.bx.c3, hx.out.bx.c4, hx.out.bx.c5, hx.out.bx.c6, hx.out.bx.c7, hx.out.bx.c8, hx.out.bx.c9, hy.out.bx.c0, hy.out.bx.c1, hy.out.bx.c2, hy.out.bx.c3, hy.out.bx.c4, hy.out.bx.c5, hy.out.bx.c6, hy.out.bx.c7, hy.out.bx.c8, hy.out.bx.c9, hx, hy, hz⟩

theorem take_below {w : World} {a : Option Addr} {cap j : Nat} {xs : List Nat} (h : SlAt bV 256 w a cap xs) : SlAt bV 256 w a cap (xs.take j) := h.take j

set_option maxRecDepth 20000 in
set_option maxHeartbeats 32000000 in
theorem law_MailBack (m : Msg) (ba : Option Addr) (bc : Nat) (sa : Option Addr) (sc : Nat) (cut : Int) (W : World) (hs : MsgS W m ba bc sa sc) (hk : MsgOk m) (hc : -9223372036854775808 ≤ cut ∧ cut ≤ 9223372036854775807) :
    Calls Try.prog 5 #[.agg (msgA m ba bc sa sc), .int .i64 cut] W (Ok W) := by
  have hst := store_float
  have hf := hs.fits
  have X1 := Mun.new hs 29
  have O := Lib.hid hk
  have hc1 := hc.1
  have hc2 := hc.2
  clear hk hs hc
  go_enter Try.func5, Try.ntmps5
  go_wp2_with fail
  generalize W.alloc (.cells (msgA m ba bc sa sc) 29) = w0 at X1 ⊢
  refine (awake_any _).mono ?_
  rintro e w1 ⟨rfl, hb⟩
  have X2 := Mun.of hb X1
  clear hb X1
  obtain ⟨k0, k1, k2, k3, k4, k5, k6, k7, k8, k9⟩ := X2.out.bx
  by_cases l1 : 400 < m.bod.length
  · have d1 : decide ((400 : Int) < (m.bod.length : Int)) = true := decide_eq_true (by omega)
    have d1' : decide (400 < m.bod.length) = true := decide_eq_true l1
    go_wp2_with fail
    go_ret
    exact ⟨rfl, X2.out.be⟩
  have d1 : decide ((400 : Int) < (m.bod.length : Int)) = false := decide_eq_false (by omega)
  have d1' : decide (400 < m.bod.length) = false := decide_eq_false l1
  by_cases l2 : 300 < m.stp.length
  · have d2 : decide ((300 : Int) < (m.stp.length : Int)) = true := decide_eq_true (by omega)
    have d2' : decide (300 < m.stp.length) = true := decide_eq_true l2
    go_wp2_with fail
    go_ret
    exact ⟨rfl, X2.out.be⟩
  have d2 : decide ((300 : Int) < (m.stp.length : Int)) = false := decide_eq_false (by omega)
  have d2' : decide (300 < m.stp.length) = false := decide_eq_false l2
  obtain ⟨r, hr⟩ : ∃ r, goodM m = r := ⟨_, rfl⟩
  have R := Lib.hid hr
  have L := Lib.hid (And.intro l1 l2)
  clear hr l1 l2
  go_wp2_with fail
  refine (good_is X2.out.sl O.out R.out).mono ?_
  rintro e w2 ⟨rfl, hb⟩
  have X3 := Mun.of hb X2
  clear hb X2 k0 k1 k2 k3 k4 k5 k6 k7 k8 k9
  cases r
  · go_wp2_with fail
    go_ret
    exact ⟨rfl, X3.out.be⟩
  have G := Lib.hid (of_decide_eq_true R.out)
  obtain ⟨q, hq⟩ : ∃ q, putL m = q := ⟨_, rfl⟩
  have GP := Lib.hid (got_put O.out G.out)
  have E := Lib.hid (show bytesM m = q by unfold bytesM; rw [R.out, hq]; rfl)
  have CN := Lib.hid (fun (k : Nat) (h : k < q.length) => show okM (q.take k) = false from hq ▸ cut_none O.out G.out (k := k) (by rw [hq]; exact h))
  rw [hq] at GP
  have QL := Lib.hid (show q.length ≤ 30000 by
    obtain ⟨⟨f1, f2⟩, ⟨x1, x2⟩, ⟨v1, v2⟩, ⟨z1, z2⟩, b1, s1, _⟩ := good_nums G.out
    rw [← hq]
    have a1 := lens m.frm.toNat (by omega)
    have a2 := lens m.num O.out.num
    have a3 := lens m.to O.out.to
    have a4 := lens m.kind.toNat (by omega)
    have a5 := lens m.vr.toNat (by omega)
    have a6 := lens (m.wri + 1).toNat (by omega)
    have a7 := lens m.tag O.out.tag
    have a8 := lens m.bod.length (by omega)
    have a9 := lens m.stp.length (by omega)
    unfold putL
    split <;> split <;> simp only [List.length_append, List.length_nil, beL_len] <;> omega)
  clear hq
  obtain ⟨k0, k1, k2, k3, k4, k5, k6, k7, k8, k9⟩ := X3.out.bx
  go_wp2_with fail
  refine (mput_is X3.out.sl O.out E.out).mono ?_
  rintro e w3 ⟨a5, c5, rfl, hsl, hb⟩
  have X4 := Mun.of hb X3
  have SL := Lib.hid hsl
  clear hb X3 k0 k1 k2 k3 k4 k5 k6 k7 k8 k9 hsl
  go_wp2_with fail
  refine (mget_of SL.out rfl (by have := QL.out; omega) GP.out.2 GP.out.1).mono ?_
  rintro e w4 ⟨b3, c3, s3, d3, rfl, hs3, hb⟩
  obtain ⟨V, hV⟩ : ∃ V, (backM m).val = V := ⟨_, rfl⟩
  have VL := Lib.hid (show V < 18446744073709551616 from hV ▸ (back_ok O.out).val)
  have SV := Lib.hid (show sameN V m.val = true from hV ▸ back_same G.out)
  rw [show msgA (backM m) b3 c3 s3 d3 = msgA (vM m V) b3 c3 s3 d3 by rw [← hV]; rfl]
  have hs3' : MsgS w4 (vM m V) b3 c3 s3 d3 := ⟨hs3.b, hs3.s⟩
  have X5 := Mun.of hb X4
  have SL5 := Lib.hid (SL.out.below hb)
  clear hb X4 SL hs3 hV
  have Y5 : Hid (Mun W W.heap.size w4.heap.size (vM m V) b3 c3 s3 d3 (w4.alloc (.cells (msgA (vM m V) b3 c3 s3 d3) 29))) :=
    Lib.hid ⟨X5.out.be.alloc X5.out.le _, (Mun.alloc X5).out.le, msgB_new w4 (vM m V) b3 c3 s3 d3 _, hs3'.below (below_alloc (Below.refl _ _) _)⟩
  have X4 : Hid (Mun W W.heap.size W.heap.size m ba bc sa sc (w4.alloc (.cells (msgA (vM m V) b3 c3 s3 d3) 29))) := Mun.alloc X5
  have SL6 := Lib.hid (SL5.out.below (below_alloc (Below.refl _ _) (.cells (msgA (vM m V) b3 c3 s3 d3) 29)))
  clear SL5 X5 hs3'
  have Y4 := Y5
  clear Y5
  go_wp2_with fail
  generalize w4.alloc (.cells (msgA (vM m V) b3 c3 s3 d3) 29) = w5 at X4 Y4 SL6 ⊢
  obtain ⟨D, hD⟩ : ∃ D, w4.heap.size = D := ⟨_, rfl⟩
  rw [hD] at Y4 ⊢
  clear hD
  refine wp_region_noPanic ?_
  refine wp_region_held_drew (S := (fun w' => w'.cell? ⟨W.heap.size, 0, none⟩ = some (.int .i64 m.frm) ∧ w'.cell? ⟨W.heap.size, 1, none⟩ = some (.int .u64 (m.num : Nat)) ∧ w'.cell? ⟨W.heap.size, 2, none⟩ = some (.int .u64 (m.to : Nat)) ∧ w'.cell? ⟨W.heap.size, 3, none⟩ = some (.int .i64 m.kind) ∧ w'.cell? ⟨W.heap.size, 4, none⟩ = some (.int .i64 m.vr) ∧ w'.cell? ⟨W.heap.size, 5, none⟩ = some (.float .f64 m.val) ∧ w'.cell? ⟨W.heap.size, 6, none⟩ = some (.int .i64 m.wri) ∧ w'.cell? ⟨W.heap.size, 7, none⟩ = some (.int .u64 (m.tag : Nat)) ∧ w'.cell? ⟨W.heap.size, 8, none⟩ = some (.slice ba m.bod.length bc) ∧ w'.cell? ⟨W.heap.size, 9, none⟩ = some (.slice sa m.stp.length sc) ∧ w'.cell? ⟨D, 0, none⟩ = some (.int .i64 m.frm) ∧ w'.cell? ⟨D, 1, none⟩ = some (.int .u64 (m.num : Nat)) ∧ w'.cell? ⟨D, 2, none⟩ = some (.int .u64 (m.to : Nat)) ∧ w'.cell? ⟨D, 3, none⟩ = some (.int .i64 m.kind) ∧ w'.cell? ⟨D, 4, none⟩ = some (.int .i64 m.vr) ∧ w'.cell? ⟨D, 5, none⟩ = some (.float .f64 V) ∧ w'.cell? ⟨D, 6, none⟩ = some (.int .i64 m.wri) ∧ w'.cell? ⟨D, 7, none⟩ = some (.int .u64 (m.tag : Nat)) ∧ w'.cell? ⟨D, 8, none⟩ = some (.slice b3 m.bod.length c3) ∧ w'.cell? ⟨D, 9, none⟩ = some (.slice s3 m.stp.length d3) ∧ Hid (Mun W W.heap.size W.heap.size m ba bc sa sc w') ∧ Hid (Mun W W.heap.size D (vM m V) b3 c3 s3 d3 w') ∧ Hid (SlAt bV 256 w' a5 c5 q))) (by kernel_rfl) ?_ (fun hHeld => ?_)
  · exact both2 (Mun.drew X4) (Mun.drew Y4) (Lib.hid (SL6.out.below (drew_below _)))
  refine wpAnyH_take (i := 0) (oi := { dst := some 34, op := Op.move (Operand.tmp 7), type := 36, pos := "law.go:92", after := #[], guard := none }) (v := ?_) rfl (by kernel_rfl) (by kernel_rfl) (by kernel_rfl) (fun _ _ _ h => h) (Or.inl ⟨by rfl, ?_⟩) (by assumption) ?_
  rotate_left
  · (intro w hSw; (try dsimp only at hSw); go_simp; try with_reducible rfl)
  ((try simp only [Act.put]); (try simp only [List.setIfInBounds_toArray]); (try simp only [List.set_cons_succ]); (try simp only [List.set_cons_zero]))
  refine wpAnyH_take (i := 1) (oi := { dst := some 35, op := Op.binOp BinOp.neq 36 (Operand.tmp 34) (Operand.const (Value.int IntKind.i64 0)) 36, type := 4, pos := "law.go:92", after := #[{ on := 0, ground := Ground.data }], guard := none }) (v := ?_) rfl (by kernel_rfl) (by kernel_rfl) (by kernel_rfl) (fun _ _ _ h => h) (Or.inl ⟨by rfl, ?_⟩) (by assumption) ?_
  rotate_left
  · (intro w hSw; (try dsimp only at hSw); go_simp; try with_reducible rfl)
  ((try simp only [Act.put]); (try simp only [List.setIfInBounds_toArray]); (try simp only [List.set_cons_succ]); (try simp only [List.set_cons_zero]))
  refine wpAnyH_take (i := 2) (oi := { dst := some 36, op := Op.move (Operand.tmp 35), type := 4, pos := "law.go:92", after := #[{ on := 1, ground := Ground.data }], guard := none }) (v := ?_) rfl (by kernel_rfl) (by kernel_rfl) (by kernel_rfl) (fun _ _ _ h => h) (Or.inl ⟨by rfl, ?_⟩) (by assumption) ?_
  rotate_left
  · (intro w hSw; (try dsimp only at hSw); go_simp; try with_reducible rfl)
  ((try simp only [Act.put]); (try simp only [List.setIfInBounds_toArray]); (try simp only [List.set_cons_succ]); (try simp only [List.set_cons_zero]))
  refine wpAnyH_take (i := 3) (oi := { dst := some 37, op := Op.load 29 (Operand.tmp 6), type := 29, pos := "law.go:92", after := #[{ on := 2, ground := Ground.guard }], guard := some (2, false) }) (v := ?_) rfl (by kernel_rfl) (by kernel_rfl) (by kernel_rfl) (fun _ _ _ h => h) (Or.inl ⟨by rfl, ?_⟩) (by assumption) ?_
  rotate_left
  · (intro w hSw; (try dsimp only at hSw); go_simp; try with_reducible rfl)
  ((try simp only [Act.put]); (try simp only [List.setIfInBounds_toArray]); (try simp only [List.set_cons_succ]); (try simp only [List.set_cons_zero]))
  refine wpAnyH_take (i := 5) (oi := { dst := some 39, op := Op.load 29 (Operand.tmp 2), type := 29, pos := "law.go:92", after := #[{ on := 2, ground := Ground.guard }], guard := some (2, false) }) (v := ?_) rfl (by kernel_rfl) (by kernel_rfl) (by kernel_rfl) (fun _ _ _ h => h) (Or.inl ⟨by rfl, ?_⟩) (by assumption) ?_
  rotate_left
  · (intro w hSw; (try dsimp only at hSw); go_simp; try with_reducible rfl)
  ((try simp only [Act.put]); (try simp only [List.setIfInBounds_toArray]); (try simp only [List.set_cons_succ]); (try simp only [List.set_cons_zero]))
  refine wpAnyH_ready (rs := [4]) (by kernel_rfl) (by simp) ?_
  refine AllReadyH.cons (o := { dst := some 38, op := Op.call { callee := Callee.value (Operand.func 16), args := #[Operand.tmp 37], argTypes := #[29] }, type := 41, pos := "law.go:92", after := #[{ on := 3, ground := Ground.data }, { on := 2, ground := Ground.chain }, { on := 2, ground := Ground.guard }], guard := some (2, false) }) rfl (fun K hK => ?_) AllReadyH.nil
  go_simp
  refine (own_any (vM m V) b3 c3 s3 d3 _).mono ?_
  rintro e w' ⟨rfl, hb⟩
  try go_wp2_with fail
  refine hK.out _ _ ?_ (fun hNew => ?_)
  · first | exact hHeld | exact both2 (Mun.of hb hHeld.2.2.2.2.2.2.2.2.2.2.2.2.2.2.2.2.2.2.2.2.1) (Mun.of hb hHeld.2.2.2.2.2.2.2.2.2.2.2.2.2.2.2.2.2.2.2.2.2.1) (Lib.hid (hHeld.2.2.2.2.2.2.2.2.2.2.2.2.2.2.2.2.2.2.2.2.2.2.out.below hb))
  clear hK K
  replace hHeld := hNew
  clear hNew
  ((try simp only [Act.put]); (try simp only [List.setIfInBounds_toArray]); (try simp only [List.set_cons_succ]); (try simp only [List.set_cons_zero]))
  refine wpAnyH_ready (rs := [6]) (by kernel_rfl) (by simp) ?_
  refine AllReadyH.cons (o := { dst := some 40, op := Op.call { callee := Callee.value (Operand.func 16), args := #[Operand.tmp 39], argTypes := #[29] }, type := 41, pos := "law.go:92", after := #[{ on := 5, ground := Ground.data }, { on := 4, ground := Ground.chain }, { on := 2, ground := Ground.guard }], guard := some (2, false) }) rfl (fun K hK => ?_) AllReadyH.nil
  go_simp
  refine (own_any m ba bc sa sc _).mono ?_
  rintro e w' ⟨rfl, hb⟩
  try go_wp2_with fail
  refine hK.out _ _ ?_ (fun hNew => ?_)
  · first | exact hHeld | exact both2 (Mun.of hb hHeld.2.2.2.2.2.2.2.2.2.2.2.2.2.2.2.2.2.2.2.2.1) (Mun.of hb hHeld.2.2.2.2.2.2.2.2.2.2.2.2.2.2.2.2.2.2.2.2.2.1) (Lib.hid (hHeld.2.2.2.2.2.2.2.2.2.2.2.2.2.2.2.2.2.2.2.2.2.2.out.below hb))
  clear hK K
  replace hHeld := hNew
  clear hNew
  ((try simp only [Act.put]); (try simp only [List.setIfInBounds_toArray]); (try simp only [List.set_cons_succ]); (try simp only [List.set_cons_zero]))
  refine wpAnyH_ready (rs := [7]) (by kernel_rfl) (by simp) ?_
  refine AllReadyH.cons (o := { dst := some 41, op := Op.call { callee := Callee.value (Operand.func 15), args := #[Operand.tmp 38, Operand.tmp 40], argTypes := #[41, 41] }, type := 4, pos := "law.go:92", after := #[{ on := 4, ground := Ground.data }, { on := 6, ground := Ground.data }, { on := 6, ground := Ground.chain }, { on := 2, ground := Ground.guard }], guard := some (2, false) }) rfl (fun K hK => ?_) AllReadyH.nil
  go_simp
  refine (alike_any m V m.val b3 c3 s3 d3 ba bc sa sc _ hHeld.2.2.2.2.2.2.2.2.2.2.2.2.2.2.2.2.2.2.2.2.2.1.out.sl.ofV hHeld.2.2.2.2.2.2.2.2.2.2.2.2.2.2.2.2.2.2.2.2.1.out.sl VL.out O.out.val SV.out).mono ?_
  rintro e w' ⟨rfl, hb⟩
  try go_wp2_with fail
  refine hK.out _ _ ?_ (fun hNew => ?_)
  · first | exact hHeld | exact both2 (Mun.of hb hHeld.2.2.2.2.2.2.2.2.2.2.2.2.2.2.2.2.2.2.2.2.1) (Mun.of hb hHeld.2.2.2.2.2.2.2.2.2.2.2.2.2.2.2.2.2.2.2.2.2.1) (Lib.hid (hHeld.2.2.2.2.2.2.2.2.2.2.2.2.2.2.2.2.2.2.2.2.2.2.out.below hb))
  clear hK K
  replace hHeld := hNew
  clear hNew
  ((try simp only [Act.put]); (try simp only [List.setIfInBounds_toArray]); (try simp only [List.set_cons_succ]); (try simp only [List.set_cons_zero]))
  refine wpAnyH_take (i := 8) (oi := { dst := some 42, op := Op.unOp UnOp.not 4 (Operand.tmp 41), type := 4, pos := "law.go:92", after := #[{ on := 7, ground := Ground.data }, { on := 2, ground := Ground.guard }], guard := some (2, false) }) (v := ?_) rfl (by kernel_rfl) (by kernel_rfl) (by kernel_rfl) (fun _ _ _ h => h) (Or.inl ⟨by rfl, ?_⟩) (by assumption) ?_
  rotate_left
  · (intro w hSw; (try dsimp only at hSw); go_simp; try with_reducible rfl)
  ((try simp only [Act.put]); (try simp only [List.setIfInBounds_toArray]); (try simp only [List.set_cons_succ]); (try simp only [List.set_cons_zero]))
  refine wpAnyH_take (i := 9) (oi := { dst := some 43, op := Op.pick (Operand.tmp 36) (Operand.const (Value.bool true)) (Operand.tmp 42), type := 4, pos := "law.go:92", after := #[{ on := 2, ground := Ground.data }, { on := 8, ground := Ground.data }], guard := none }) (v := ?_) rfl (by kernel_rfl) (by kernel_rfl) (by kernel_rfl) (fun _ _ _ h => h) (Or.inl ⟨by rfl, ?_⟩) (by assumption) ?_
  rotate_left
  · (intro w hSw; (try dsimp only at hSw); go_simp; try with_reducible rfl)
  ((try simp only [Act.put]); (try simp only [List.setIfInBounds_toArray]); (try simp only [List.set_cons_succ]); (try simp only [List.set_cons_zero]))
  refine wpAnyH_done (by kernel_rfl) ?_ _
  refine NoPanic.normal ?_
  have M5 := Lib.hid hHeld.2.2.2.2.2.2.2.2.2.2.2.2.2.2.2.2.2.2.2.2.1.out.be
  have SL7 := hHeld.2.2.2.2.2.2.2.2.2.2.2.2.2.2.2.2.2.2.2.2.2.2
  by_cases cn : cut < 0
  · have e1 : decide (cut < 0) = true := decide_eq_true cn
    go_wp2_with fail
    go_ret
    exact ⟨rfl, M5.out⟩
  obtain ⟨j, rfl⟩ := Int.eq_ofNat_of_zero_le (by omega : 0 ≤ cut)
  have e1 : decide ((j : Int) < 0) = false := decide_eq_false (by omega)
  clear cn
  by_cases cl : q.length ≤ j
  · have e2 : decide ((q.length : Int) ≤ (j : Int)) = true := decide_eq_true (by omega)
    have e2' : decide (q.length ≤ j) = true := decide_eq_true cl
    go_wp2_with fail
    go_ret
    exact ⟨rfl, M5.out⟩
  have e2 : decide ((q.length : Int) ≤ (j : Int)) = false := decide_eq_false (by omega)
  have e2' : decide (q.length ≤ j) = false := decide_eq_false cl
  have hfit := SL7.out.fit
  have hmax := SL7.out.max
  unfold maxLen at hmax
  have jq : j < q.length := by omega
  have JL := Lib.hid (show (q.take j).length = j by rw [List.length_take]; omega)
  have CJ := Lib.hid (CN.out j jq)
  have GJ := Lib.hid (show gotM (q.take j) = zeroM by unfold gotM; rw [CJ.out]; rfl)
  have QJ := Lib.hid (show j ≤ 1000000 by have := QL.out; omega)
  clear cl
  go_wp2_with fail
  refine (mget_of (SL7.out.take j) JL.out QJ.out GJ.out CJ.out).mono ?_
  rintro e w9 ⟨b9, c9, s9, d9, rfl, _, hb⟩
  have M9 := Lib.hid ((M5.out.trans (hb.mono M5.out.size)).alloc (by have := M5.out.size; have := hb.size; omega) (.cells (msgA zeroM b9 c9 s9 d9) 29))
  clear hb
  go_wp2_with fail
  go_ret
  exact ⟨rfl, M9.out⟩

end Go.Proofs.Ytjdnaonhfacpoaa
