/-
  Texts of this claim, put together.
-/
import Derived.Test.YtfbojcaedcimcaaTtiem
import Derived.Test.YtfbojcaedcimcaaMak
import Derived.Deep.RegionLaw
import Derived.Deep.RegionHeld3
import Derived.Test.YtfbojcaedcimcaaMab
import Derived.Test.YtfbojcaedcimcaaMac

/-
  A tie's State, Quiet, ack.
-/
namespace Go.Proofs.Ytfbojcaedcimcaa
open Go.RowKit

theorem results_five {fn : Func} {a b c d e : Tmp} (h : fn.results = #[.tmp a, .tmp b, .tmp c, .tmp d, .tmp e]) (tmps : Array Value) (P : Program) (w : World) :
    (results fn tmps).run P w = .ok (.tuple #[tmps.getD a undef, tmps.getD b undef, tmps.getD c undef, tmps.getD d undef, tmps.getD e undef]) w := by
  simp [results, h]

section
variable {F X : Nat → Prop} {W : World} {N t n c : Nat} {T : Te}
def stV (T : Te) : Value := .tuple #[.int .i64 ((T.s.out.length : Nat) : Int), .int .i64 ((T.s.waits.length : Nat) : Int), .int .i64 ((T.d.held.length : Nat) : Int), .int .u64 ((T.d.next : Nat) : Int), .int .u64 ((T.s.last : Nat) : Int)]

set_option maxRecDepth 20000 in
set_option maxHeartbeats 4000000 in
theorem tie_state (h : TieAt F X W N t T) (ho : T.s.ok n) (hn : n ≤ 500) (hd : T.d.ok c) :
    Calls Try.prog 11 #[.pointer (some ⟨t, 0, none⟩)] W fun E w' => E = .returned (stV T) ∧ Below W.heap.size W w' := by
  obtain ⟨p, q, rr, M, Fs, hR, rfl, c0, c1⟩ := tie_cells h
  have SH := Lib.hid (fun (w' : World) (hb : Below W.heap.size W w') => hR.s.below hb)
  have DK := Lib.hid (fun (w' : World) (hb : Below W.heap.size W w') => hR.d.below hb)
  have SS := Lib.hid (fun (w' : World) (hb : Below W.heap.size W w') => (show w'.cell? ⟨t, 0, none⟩ = some (.pointer (some ⟨p, 0, none⟩)) ∧ w'.cell? ⟨t, 1, none⟩ = some (.pointer (some ⟨q, 0, none⟩)) ∧ Hid (Below W.heap.size W w') from ⟨cell_go c0 hb, cell_go c1 hb, Lib.hid hb⟩))
  have HO := Lib.hid ho
  have HD := Lib.hid hd
  clear h hR ho hd
  go_enter Try.func11, Try.ntmps11
  go_upto_region 1 with fail
  refine wp_region_noPanic ?_
  refine wp_region_held_drew (S := (fun w' => w'.cell? ⟨t, 0, none⟩ = some (.pointer (some ⟨p, 0, none⟩)) ∧ w'.cell? ⟨t, 1, none⟩ = some (.pointer (some ⟨q, 0, none⟩)) ∧ Hid (Below W.heap.size W w'))) (by kernel_rfl) ?_ (fun hHeld => ?_)
  · exact ⟨c0, c1, Lib.hid (drew_below W)⟩
  refine wpAnyH_take (i := 0) (oi := { dst := some 7, op := Op.move (Operand.tmp 0), type := 23, pos := "tie.go:70", after := #[], guard := none }) (v := ?_) rfl (by kernel_rfl) (by kernel_rfl) (by kernel_rfl) (fun _ _ _ h => h) (Or.inl ⟨by rfl, ?_⟩) (by assumption) ?_
  rotate_left
  · (intro w hSw; (try dsimp only at hSw); go_simp; try with_reducible rfl)
  ((try simp only [Act.put]); (try simp only [List.setIfInBounds_toArray]); (try simp only [List.set_cons_succ]); (try simp only [List.set_cons_zero]))
  refine wpAnyH_take (i := 1) (oi := { dst := some 8, op := Op.nilCheck (Operand.tmp 7), type := 0, pos := "tie.go:70", after := #[{ on := 0, ground := Ground.data }], guard := none }) (v := ?_) rfl (by kernel_rfl) (by kernel_rfl) (by kernel_rfl) (fun _ _ _ h => h) (Or.inl ⟨by rfl, ?_⟩) (by assumption) ?_
  rotate_left
  · (intro w hSw; (try dsimp only at hSw); go_simp; try with_reducible rfl)
  ((try simp only [Act.put]); (try simp only [List.setIfInBounds_toArray]); (try simp only [List.set_cons_succ]); (try simp only [List.set_cons_zero]))
  refine wpAnyH_take (i := 2) (oi := { dst := some 9, op := Op.fieldAddr 50 (Operand.tmp 8) 0, type := 0, pos := "tie.go:70", after := #[{ on := 1, ground := Ground.data }], guard := none }) (v := ?_) rfl (by kernel_rfl) (by kernel_rfl) (by kernel_rfl) (fun _ _ _ h => h) (Or.inl ⟨by rfl, ?_⟩) (by assumption) ?_
  rotate_left
  · (intro w hSw; (try dsimp only at hSw); go_simp; try with_reducible rfl)
  ((try simp only [Act.put]); (try simp only [List.setIfInBounds_toArray]); (try simp only [List.set_cons_succ]); (try simp only [List.set_cons_zero]))
  refine wpAnyH_take (i := 3) (oi := { dst := some 10, op := Op.load 43 (Operand.tmp 9), type := 43, pos := "tie.go:70", after := #[{ on := 2, ground := Ground.data }], guard := none }) (v := ?_) rfl (by kernel_rfl) (by kernel_rfl) (by kernel_rfl) (fun _ _ _ h => h) (Or.inl ⟨by rfl, ?_⟩) (by assumption) ?_
  rotate_left
  · (intro w hSw; (try dsimp only at hSw); go_simp; try with_reducible rfl)
  ((try simp only [Act.put]); (try simp only [List.setIfInBounds_toArray]); (try simp only [List.set_cons_succ]); (try simp only [List.set_cons_zero]))
  refine wpAnyH_take (i := 6) (oi := { dst := some 13, op := Op.move (Operand.tmp 0), type := 23, pos := "tie.go:70", after := #[], guard := none }) (v := ?_) rfl (by kernel_rfl) (by kernel_rfl) (by kernel_rfl) (fun _ _ _ h => h) (Or.inl ⟨by rfl, ?_⟩) (by assumption) ?_
  rotate_left
  · (intro w hSw; (try dsimp only at hSw); go_simp; try with_reducible rfl)
  ((try simp only [Act.put]); (try simp only [List.setIfInBounds_toArray]); (try simp only [List.set_cons_succ]); (try simp only [List.set_cons_zero]))
  refine wpAnyH_take (i := 7) (oi := { dst := some 14, op := Op.nilCheck (Operand.tmp 13), type := 0, pos := "tie.go:70", after := #[{ on := 6, ground := Ground.data }], guard := none }) (v := ?_) rfl (by kernel_rfl) (by kernel_rfl) (by kernel_rfl) (fun _ _ _ h => h) (Or.inl ⟨by rfl, ?_⟩) (by assumption) ?_
  rotate_left
  · (intro w hSw; (try dsimp only at hSw); go_simp; try with_reducible rfl)
  ((try simp only [Act.put]); (try simp only [List.setIfInBounds_toArray]); (try simp only [List.set_cons_succ]); (try simp only [List.set_cons_zero]))
  refine wpAnyH_take (i := 8) (oi := { dst := some 15, op := Op.fieldAddr 50 (Operand.tmp 14) 0, type := 0, pos := "tie.go:70", after := #[{ on := 7, ground := Ground.data }], guard := none }) (v := ?_) rfl (by kernel_rfl) (by kernel_rfl) (by kernel_rfl) (fun _ _ _ h => h) (Or.inl ⟨by rfl, ?_⟩) (by assumption) ?_
  rotate_left
  · (intro w hSw; (try dsimp only at hSw); go_simp; try with_reducible rfl)
  ((try simp only [Act.put]); (try simp only [List.setIfInBounds_toArray]); (try simp only [List.set_cons_succ]); (try simp only [List.set_cons_zero]))
  refine wpAnyH_take (i := 9) (oi := { dst := some 16, op := Op.load 43 (Operand.tmp 15), type := 43, pos := "tie.go:70", after := #[{ on := 8, ground := Ground.data }], guard := none }) (v := ?_) rfl (by kernel_rfl) (by kernel_rfl) (by kernel_rfl) (fun _ _ _ h => h) (Or.inl ⟨by rfl, ?_⟩) (by assumption) ?_
  rotate_left
  · (intro w hSw; (try dsimp only at hSw); go_simp; try with_reducible rfl)
  ((try simp only [Act.put]); (try simp only [List.setIfInBounds_toArray]); (try simp only [List.set_cons_succ]); (try simp only [List.set_cons_zero]))
  refine wpAnyH_take (i := 12) (oi := { dst := some 19, op := Op.move (Operand.tmp 0), type := 23, pos := "tie.go:70", after := #[], guard := none }) (v := ?_) rfl (by kernel_rfl) (by kernel_rfl) (by kernel_rfl) (fun _ _ _ h => h) (Or.inl ⟨by rfl, ?_⟩) (by assumption) ?_
  rotate_left
  · (intro w hSw; (try dsimp only at hSw); go_simp; try with_reducible rfl)
  ((try simp only [Act.put]); (try simp only [List.setIfInBounds_toArray]); (try simp only [List.set_cons_succ]); (try simp only [List.set_cons_zero]))
  refine wpAnyH_take (i := 13) (oi := { dst := some 20, op := Op.nilCheck (Operand.tmp 19), type := 0, pos := "tie.go:70", after := #[{ on := 12, ground := Ground.data }], guard := none }) (v := ?_) rfl (by kernel_rfl) (by kernel_rfl) (by kernel_rfl) (fun _ _ _ h => h) (Or.inl ⟨by rfl, ?_⟩) (by assumption) ?_
  rotate_left
  · (intro w hSw; (try dsimp only at hSw); go_simp; try with_reducible rfl)
  ((try simp only [Act.put]); (try simp only [List.setIfInBounds_toArray]); (try simp only [List.set_cons_succ]); (try simp only [List.set_cons_zero]))
  refine wpAnyH_take (i := 14) (oi := { dst := some 21, op := Op.fieldAddr 50 (Operand.tmp 20) 1, type := 0, pos := "tie.go:70", after := #[{ on := 13, ground := Ground.data }], guard := none }) (v := ?_) rfl (by kernel_rfl) (by kernel_rfl) (by kernel_rfl) (fun _ _ _ h => h) (Or.inl ⟨by rfl, ?_⟩) (by assumption) ?_
  rotate_left
  · (intro w hSw; (try dsimp only at hSw); go_simp; try with_reducible rfl)
  ((try simp only [Act.put]); (try simp only [List.setIfInBounds_toArray]); (try simp only [List.set_cons_succ]); (try simp only [List.set_cons_zero]))
  refine wpAnyH_take (i := 15) (oi := { dst := some 22, op := Op.load 46 (Operand.tmp 21), type := 46, pos := "tie.go:70", after := #[{ on := 14, ground := Ground.data }], guard := none }) (v := ?_) rfl (by kernel_rfl) (by kernel_rfl) (by kernel_rfl) (fun _ _ _ h => h) (Or.inl ⟨by rfl, ?_⟩) (by assumption) ?_
  rotate_left
  · (intro w hSw; (try dsimp only at hSw); go_simp; try with_reducible rfl)
  ((try simp only [Act.put]); (try simp only [List.setIfInBounds_toArray]); (try simp only [List.set_cons_succ]); (try simp only [List.set_cons_zero]))
  refine wpAnyH_take (i := 18) (oi := { dst := some 25, op := Op.move (Operand.tmp 0), type := 23, pos := "tie.go:70", after := #[], guard := none }) (v := ?_) rfl (by kernel_rfl) (by kernel_rfl) (by kernel_rfl) (fun _ _ _ h => h) (Or.inl ⟨by rfl, ?_⟩) (by assumption) ?_
  rotate_left
  · (intro w hSw; (try dsimp only at hSw); go_simp; try with_reducible rfl)
  ((try simp only [Act.put]); (try simp only [List.setIfInBounds_toArray]); (try simp only [List.set_cons_succ]); (try simp only [List.set_cons_zero]))
  refine wpAnyH_take (i := 19) (oi := { dst := some 26, op := Op.nilCheck (Operand.tmp 25), type := 0, pos := "tie.go:70", after := #[{ on := 18, ground := Ground.data }], guard := none }) (v := ?_) rfl (by kernel_rfl) (by kernel_rfl) (by kernel_rfl) (fun _ _ _ h => h) (Or.inl ⟨by rfl, ?_⟩) (by assumption) ?_
  rotate_left
  · (intro w hSw; (try dsimp only at hSw); go_simp; try with_reducible rfl)
  ((try simp only [Act.put]); (try simp only [List.setIfInBounds_toArray]); (try simp only [List.set_cons_succ]); (try simp only [List.set_cons_zero]))
  refine wpAnyH_take (i := 20) (oi := { dst := some 27, op := Op.fieldAddr 50 (Operand.tmp 26) 1, type := 0, pos := "tie.go:70", after := #[{ on := 19, ground := Ground.data }], guard := none }) (v := ?_) rfl (by kernel_rfl) (by kernel_rfl) (by kernel_rfl) (fun _ _ _ h => h) (Or.inl ⟨by rfl, ?_⟩) (by assumption) ?_
  rotate_left
  · (intro w hSw; (try dsimp only at hSw); go_simp; try with_reducible rfl)
  ((try simp only [Act.put]); (try simp only [List.setIfInBounds_toArray]); (try simp only [List.set_cons_succ]); (try simp only [List.set_cons_zero]))
  refine wpAnyH_take (i := 21) (oi := { dst := some 28, op := Op.load 46 (Operand.tmp 27), type := 46, pos := "tie.go:70", after := #[{ on := 20, ground := Ground.data }], guard := none }) (v := ?_) rfl (by kernel_rfl) (by kernel_rfl) (by kernel_rfl) (fun _ _ _ h => h) (Or.inl ⟨by rfl, ?_⟩) (by assumption) ?_
  rotate_left
  · (intro w hSw; (try dsimp only at hSw); go_simp; try with_reducible rfl)
  ((try simp only [Act.put]); (try simp only [List.setIfInBounds_toArray]); (try simp only [List.set_cons_succ]); (try simp only [List.set_cons_zero]))
  refine wpAnyH_take (i := 23) (oi := { dst := some 30, op := Op.move (Operand.tmp 0), type := 23, pos := "tie.go:70", after := #[], guard := none }) (v := ?_) rfl (by kernel_rfl) (by kernel_rfl) (by kernel_rfl) (fun _ _ _ h => h) (Or.inl ⟨by rfl, ?_⟩) (by assumption) ?_
  rotate_left
  · (intro w hSw; (try dsimp only at hSw); go_simp; try with_reducible rfl)
  ((try simp only [Act.put]); (try simp only [List.setIfInBounds_toArray]); (try simp only [List.set_cons_succ]); (try simp only [List.set_cons_zero]))
  refine wpAnyH_take (i := 24) (oi := { dst := some 31, op := Op.nilCheck (Operand.tmp 30), type := 0, pos := "tie.go:70", after := #[{ on := 23, ground := Ground.data }], guard := none }) (v := ?_) rfl (by kernel_rfl) (by kernel_rfl) (by kernel_rfl) (fun _ _ _ h => h) (Or.inl ⟨by rfl, ?_⟩) (by assumption) ?_
  rotate_left
  · (intro w hSw; (try dsimp only at hSw); go_simp; try with_reducible rfl)
  ((try simp only [Act.put]); (try simp only [List.setIfInBounds_toArray]); (try simp only [List.set_cons_succ]); (try simp only [List.set_cons_zero]))
  refine wpAnyH_take (i := 25) (oi := { dst := some 32, op := Op.fieldAddr 50 (Operand.tmp 31) 0, type := 0, pos := "tie.go:70", after := #[{ on := 24, ground := Ground.data }], guard := none }) (v := ?_) rfl (by kernel_rfl) (by kernel_rfl) (by kernel_rfl) (fun _ _ _ h => h) (Or.inl ⟨by rfl, ?_⟩) (by assumption) ?_
  rotate_left
  · (intro w hSw; (try dsimp only at hSw); go_simp; try with_reducible rfl)
  ((try simp only [Act.put]); (try simp only [List.setIfInBounds_toArray]); (try simp only [List.set_cons_succ]); (try simp only [List.set_cons_zero]))
  refine wpAnyH_take (i := 26) (oi := { dst := some 33, op := Op.load 43 (Operand.tmp 32), type := 43, pos := "tie.go:70", after := #[{ on := 25, ground := Ground.data }], guard := none }) (v := ?_) rfl (by kernel_rfl) (by kernel_rfl) (by kernel_rfl) (fun _ _ _ h => h) (Or.inl ⟨by rfl, ?_⟩) (by assumption) ?_
  rotate_left
  · (intro w hSw; (try dsimp only at hSw); go_simp; try with_reducible rfl)
  ((try simp only [Act.put]); (try simp only [List.setIfInBounds_toArray]); (try simp only [List.set_cons_succ]); (try simp only [List.set_cons_zero]))
  refine wpAnyH_ready (rs := [4]) (by kernel_rfl) (by simp) ?_
  refine AllReadyH.cons (o := { dst := some 11, op := Op.call { callee := Callee.value (Operand.func 23), args := #[Operand.tmp 10], argTypes := #[43] }, type := 56, pos := "tie.go:70", after := #[{ on := 3, ground := Ground.data }], guard := none }) rfl (fun K hK => ?_) AllReadyH.nil
  go_simp
  refine (out_any (SH.out W.drew (drew_below W)) HO.out hn).mono ?_
  rintro e w1 ⟨a1, k1, rfl, -, hb1⟩
  have B1 := Lib.hid (show Below W.heap.size W w1 from ⟨hb1.os, hb1.tape, hb1.output, hb1.size, hb1.block⟩)
  clear hb1
  try go_wp2_with fail
  refine hK.out _ _ ?_ (fun hNew => ?_)
  · first | exact hHeld | exact SS.out _ B1.out | exact SS.out _ B2.out | exact SS.out _ B3.out
  clear hK K
  replace hHeld := hNew
  clear hNew
  ((try simp only [Act.put]); (try simp only [List.setIfInBounds_toArray]); (try simp only [List.set_cons_succ]); (try simp only [List.set_cons_zero]))
  refine wpAnyH_take (i := 5) (oi := { dst := some 12, op := Op.call { callee := Callee.builtin Builtin.len, args := #[Operand.tmp 11], argTypes := #[56] }, type := 3, pos := "tie.go:70", after := #[{ on := 4, ground := Ground.data }], guard := none }) (v := ?_) rfl (by kernel_rfl) (by kernel_rfl) (by kernel_rfl) (fun _ _ _ h => h) (Or.inl ⟨by rfl, ?_⟩) (by assumption) ?_
  rotate_left
  · (intro w hSw; (try dsimp only at hSw); go_simp; try with_reducible rfl)
  ((try simp only [Act.put]); (try simp only [List.setIfInBounds_toArray]); (try simp only [List.set_cons_succ]); (try simp only [List.set_cons_zero]))
  refine wpAnyH_ready (rs := [10]) (by kernel_rfl) (by simp) ?_
  refine AllReadyH.cons (o := { dst := some 17, op := Op.call { callee := Callee.value (Operand.func 24), args := #[Operand.tmp 16], argTypes := #[43] }, type := 27, pos := "tie.go:70", after := #[{ on := 9, ground := Ground.data }, { on := 4, ground := Ground.chain }], guard := none }) rfl (fun K hK => ?_) AllReadyH.nil
  go_simp
  refine (waits_any (SH.out w1 B1.out) HO.out hn).mono ?_
  rintro e w2 ⟨a2, k2, rfl, -, hb2⟩
  have B2 := Lib.hid (B1.out.trans (hb2.mono B1.out.size))
  clear hb2
  try go_wp2_with fail
  refine hK.out _ _ ?_ (fun hNew => ?_)
  · first | exact hHeld | exact SS.out _ B1.out | exact SS.out _ B2.out | exact SS.out _ B3.out
  clear hK K
  replace hHeld := hNew
  clear hNew
  ((try simp only [Act.put]); (try simp only [List.setIfInBounds_toArray]); (try simp only [List.set_cons_succ]); (try simp only [List.set_cons_zero]))
  refine wpAnyH_take (i := 11) (oi := { dst := some 18, op := Op.call { callee := Callee.builtin Builtin.len, args := #[Operand.tmp 17], argTypes := #[27] }, type := 3, pos := "tie.go:70", after := #[{ on := 10, ground := Ground.data }], guard := none }) (v := ?_) rfl (by kernel_rfl) (by kernel_rfl) (by kernel_rfl) (fun _ _ _ h => h) (Or.inl ⟨by rfl, ?_⟩) (by assumption) ?_
  rotate_left
  · (intro w hSw; (try dsimp only at hSw); go_simp; try with_reducible rfl)
  ((try simp only [Act.put]); (try simp only [List.setIfInBounds_toArray]); (try simp only [List.set_cons_succ]); (try simp only [List.set_cons_zero]))
  refine wpAnyH_ready (rs := [16]) (by kernel_rfl) (by simp) ?_
  refine AllReadyH.cons (o := { dst := some 23, op := Op.call { callee := Callee.value (Operand.func 25), args := #[Operand.tmp 22], argTypes := #[46] }, type := 63, pos := "tie.go:70", after := #[{ on := 15, ground := Ground.data }, { on := 10, ground := Ground.chain }], guard := none }) rfl (fun K hK => ?_) AllReadyH.nil
  go_simp
  refine (held_any (DK.out w2 B2.out) HD.out).mono ?_
  rintro e w3 ⟨a3, k3, rfl, -, -, hb3⟩
  have B3 := Lib.hid (B2.out.trans (hb3.mono B2.out.size))
  clear hb3
  try go_wp2_with fail
  refine hK.out _ _ ?_ (fun hNew => ?_)
  · first | exact hHeld | exact SS.out _ B1.out | exact SS.out _ B2.out | exact SS.out _ B3.out
  clear hK K
  replace hHeld := hNew
  clear hNew
  ((try simp only [Act.put]); (try simp only [List.setIfInBounds_toArray]); (try simp only [List.set_cons_succ]); (try simp only [List.set_cons_zero]))
  refine wpAnyH_take (i := 17) (oi := { dst := some 24, op := Op.call { callee := Callee.builtin Builtin.len, args := #[Operand.tmp 23], argTypes := #[63] }, type := 3, pos := "tie.go:70", after := #[{ on := 16, ground := Ground.data }], guard := none }) (v := ?_) rfl (by kernel_rfl) (by kernel_rfl) (by kernel_rfl) (fun _ _ _ h => h) (Or.inl ⟨by rfl, ?_⟩) (by assumption) ?_
  rotate_left
  · (intro w hSw; (try dsimp only at hSw); go_simp; try with_reducible rfl)
  ((try simp only [Act.put]); (try simp only [List.setIfInBounds_toArray]); (try simp only [List.set_cons_succ]); (try simp only [List.set_cons_zero]))
  refine wpAnyH_ready (rs := [22]) (by kernel_rfl) (by simp) ?_
  refine AllReadyH.cons (o := { dst := some 29, op := Op.call { callee := Callee.value (Operand.func 26), args := #[Operand.tmp 28], argTypes := #[46] }, type := 33, pos := "tie.go:70", after := #[{ on := 21, ground := Ground.data }, { on := 16, ground := Ground.chain }], guard := none }) rfl (fun K hK => ?_) AllReadyH.nil
  go_simp
  refine (next_any (DK.out w3 B3.out)).mono ?_
  rintro e w4 ⟨rfl, hw⟩
  have hw2 := hw.symm
  clear hw
  subst hw2
  try go_wp2_with fail
  refine hK.out _ _ ?_ (fun hNew => ?_)
  · first | exact hHeld | exact SS.out _ B1.out | exact SS.out _ B2.out | exact SS.out _ B3.out
  clear hK K
  replace hHeld := hNew
  clear hNew
  ((try simp only [Act.put]); (try simp only [List.setIfInBounds_toArray]); (try simp only [List.set_cons_succ]); (try simp only [List.set_cons_zero]))
  refine wpAnyH_ready (rs := [27]) (by kernel_rfl) (by simp) ?_
  refine AllReadyH.cons (o := { dst := some 34, op := Op.call { callee := Callee.value (Operand.func 27), args := #[Operand.tmp 33], argTypes := #[43] }, type := 33, pos := "tie.go:70", after := #[{ on := 26, ground := Ground.data }, { on := 22, ground := Ground.chain }], guard := none }) rfl (fun K hK => ?_) AllReadyH.nil
  go_simp
  refine (last_any (SH.out w3 B3.out)).mono ?_
  rintro e w4 ⟨rfl, hw⟩
  have hw2 := hw.symm
  clear hw
  subst hw2
  try go_wp2_with fail
  refine hK.out _ _ ?_ (fun hNew => ?_)
  · first | exact hHeld | exact SS.out _ B1.out | exact SS.out _ B2.out | exact SS.out _ B3.out
  clear hK K
  replace hHeld := hNew
  clear hNew
  ((try simp only [Act.put]); (try simp only [List.setIfInBounds_toArray]); (try simp only [List.set_cons_succ]); (try simp only [List.set_cons_zero]))
  refine wpAnyH_take (i := 28) (oi := { dst := some 2, op := Op.assign (Operand.tmp 12), type := 3, pos := "tie.go:70", after := #[{ on := 5, ground := Ground.data }, { on := 27, ground := Ground.chain }, { on := 0, ground := Ground.phase }, { on := 1, ground := Ground.phase }, { on := 2, ground := Ground.phase }, { on := 3, ground := Ground.phase }, { on := 4, ground := Ground.phase }, { on := 5, ground := Ground.phase }, { on := 6, ground := Ground.textOnly Departure.lateStores }, { on := 7, ground := Ground.textOnly Departure.lateStores }, { on := 8, ground := Ground.textOnly Departure.lateStores }, { on := 9, ground := Ground.textOnly Departure.lateStores }, { on := 10, ground := Ground.textOnly Departure.lateStoresUnsure }, { on := 11, ground := Ground.textOnly Departure.lateStoresUnsure }, { on := 12, ground := Ground.textOnly Departure.lateStores }, { on := 13, ground := Ground.textOnly Departure.lateStores }, { on := 14, ground := Ground.textOnly Departure.lateStores }, { on := 15, ground := Ground.textOnly Departure.lateStores }, { on := 16, ground := Ground.textOnly Departure.lateStoresUnsure }, { on := 17, ground := Ground.textOnly Departure.lateStoresUnsure }, { on := 18, ground := Ground.textOnly Departure.lateStores }, { on := 19, ground := Ground.textOnly Departure.lateStores }, { on := 20, ground := Ground.textOnly Departure.lateStores }, { on := 21, ground := Ground.textOnly Departure.lateStores }, { on := 22, ground := Ground.textOnly Departure.lateStoresUnsure }, { on := 23, ground := Ground.textOnly Departure.lateStores }, { on := 24, ground := Ground.textOnly Departure.lateStores }, { on := 25, ground := Ground.textOnly Departure.lateStores }, { on := 26, ground := Ground.textOnly Departure.lateStores }, { on := 27, ground := Ground.textOnly Departure.lateStoresUnsure }], guard := none }) (v := ?_) rfl (by kernel_rfl) (by kernel_rfl) (by kernel_rfl) (fun _ _ _ h => h) (Or.inl ⟨by rfl, ?_⟩) (by assumption) ?_
  rotate_left
  · (intro w hSw; (try dsimp only at hSw); go_simp; try with_reducible rfl)
  ((try simp only [Act.put]); (try simp only [List.setIfInBounds_toArray]); (try simp only [List.set_cons_succ]); (try simp only [List.set_cons_zero]))
  refine wpAnyH_take (i := 29) (oi := { dst := some 3, op := Op.assign (Operand.tmp 18), type := 3, pos := "tie.go:70", after := #[{ on := 11, ground := Ground.data }, { on := 28, ground := Ground.chain }, { on := 0, ground := Ground.phase }, { on := 1, ground := Ground.phase }, { on := 2, ground := Ground.phase }, { on := 3, ground := Ground.phase }, { on := 4, ground := Ground.phase }, { on := 5, ground := Ground.phase }, { on := 6, ground := Ground.phase }, { on := 7, ground := Ground.phase }, { on := 8, ground := Ground.phase }, { on := 9, ground := Ground.phase }, { on := 10, ground := Ground.phase }, { on := 11, ground := Ground.phase }, { on := 12, ground := Ground.textOnly Departure.lateStores }, { on := 13, ground := Ground.textOnly Departure.lateStores }, { on := 14, ground := Ground.textOnly Departure.lateStores }, { on := 15, ground := Ground.textOnly Departure.lateStores }, { on := 16, ground := Ground.textOnly Departure.lateStoresUnsure }, { on := 17, ground := Ground.textOnly Departure.lateStoresUnsure }, { on := 18, ground := Ground.textOnly Departure.lateStores }, { on := 19, ground := Ground.textOnly Departure.lateStores }, { on := 20, ground := Ground.textOnly Departure.lateStores }, { on := 21, ground := Ground.textOnly Departure.lateStores }, { on := 22, ground := Ground.textOnly Departure.lateStoresUnsure }, { on := 23, ground := Ground.textOnly Departure.lateStores }, { on := 24, ground := Ground.textOnly Departure.lateStores }, { on := 25, ground := Ground.textOnly Departure.lateStores }, { on := 26, ground := Ground.textOnly Departure.lateStores }, { on := 27, ground := Ground.textOnly Departure.lateStoresUnsure }, { on := 28, ground := Ground.phase }], guard := none }) (v := ?_) rfl (by kernel_rfl) (by kernel_rfl) (by kernel_rfl) (fun _ _ _ h => h) (Or.inl ⟨by rfl, ?_⟩) (by assumption) ?_
  rotate_left
  · (intro w hSw; (try dsimp only at hSw); go_simp; try with_reducible rfl)
  ((try simp only [Act.put]); (try simp only [List.setIfInBounds_toArray]); (try simp only [List.set_cons_succ]); (try simp only [List.set_cons_zero]))
  refine wpAnyH_take (i := 30) (oi := { dst := some 4, op := Op.assign (Operand.tmp 24), type := 3, pos := "tie.go:70", after := #[{ on := 17, ground := Ground.data }, { on := 29, ground := Ground.chain }, { on := 0, ground := Ground.phase }, { on := 1, ground := Ground.phase }, { on := 2, ground := Ground.phase }, { on := 3, ground := Ground.phase }, { on := 4, ground := Ground.phase }, { on := 5, ground := Ground.phase }, { on := 6, ground := Ground.phase }, { on := 7, ground := Ground.phase }, { on := 8, ground := Ground.phase }, { on := 9, ground := Ground.phase }, { on := 10, ground := Ground.phase }, { on := 11, ground := Ground.phase }, { on := 12, ground := Ground.phase }, { on := 13, ground := Ground.phase }, { on := 14, ground := Ground.phase }, { on := 15, ground := Ground.phase }, { on := 16, ground := Ground.phase }, { on := 17, ground := Ground.phase }, { on := 18, ground := Ground.textOnly Departure.lateStores }, { on := 19, ground := Ground.textOnly Departure.lateStores }, { on := 20, ground := Ground.textOnly Departure.lateStores }, { on := 21, ground := Ground.textOnly Departure.lateStores }, { on := 22, ground := Ground.textOnly Departure.lateStoresUnsure }, { on := 23, ground := Ground.textOnly Departure.lateStores }, { on := 24, ground := Ground.textOnly Departure.lateStores }, { on := 25, ground := Ground.textOnly Departure.lateStores }, { on := 26, ground := Ground.textOnly Departure.lateStores }, { on := 27, ground := Ground.textOnly Departure.lateStoresUnsure }, { on := 28, ground := Ground.phase }, { on := 29, ground := Ground.phase }], guard := none }) (v := ?_) rfl (by kernel_rfl) (by kernel_rfl) (by kernel_rfl) (fun _ _ _ h => h) (Or.inl ⟨by rfl, ?_⟩) (by assumption) ?_
  rotate_left
  · (intro w hSw; (try dsimp only at hSw); go_simp; try with_reducible rfl)
  ((try simp only [Act.put]); (try simp only [List.setIfInBounds_toArray]); (try simp only [List.set_cons_succ]); (try simp only [List.set_cons_zero]))
  refine wpAnyH_take (i := 31) (oi := { dst := some 5, op := Op.assign (Operand.tmp 29), type := 33, pos := "tie.go:70", after := #[{ on := 22, ground := Ground.data }, { on := 30, ground := Ground.chain }, { on := 0, ground := Ground.phase }, { on := 1, ground := Ground.phase }, { on := 2, ground := Ground.phase }, { on := 3, ground := Ground.phase }, { on := 4, ground := Ground.phase }, { on := 5, ground := Ground.phase }, { on := 6, ground := Ground.phase }, { on := 7, ground := Ground.phase }, { on := 8, ground := Ground.phase }, { on := 9, ground := Ground.phase }, { on := 10, ground := Ground.phase }, { on := 11, ground := Ground.phase }, { on := 12, ground := Ground.phase }, { on := 13, ground := Ground.phase }, { on := 14, ground := Ground.phase }, { on := 15, ground := Ground.phase }, { on := 16, ground := Ground.phase }, { on := 17, ground := Ground.phase }, { on := 18, ground := Ground.phase }, { on := 19, ground := Ground.phase }, { on := 20, ground := Ground.phase }, { on := 21, ground := Ground.phase }, { on := 22, ground := Ground.phase }, { on := 23, ground := Ground.textOnly Departure.lateStores }, { on := 24, ground := Ground.textOnly Departure.lateStores }, { on := 25, ground := Ground.textOnly Departure.lateStores }, { on := 26, ground := Ground.textOnly Departure.lateStores }, { on := 27, ground := Ground.textOnly Departure.lateStoresUnsure }, { on := 28, ground := Ground.phase }, { on := 29, ground := Ground.phase }, { on := 30, ground := Ground.phase }], guard := none }) (v := ?_) rfl (by kernel_rfl) (by kernel_rfl) (by kernel_rfl) (fun _ _ _ h => h) (Or.inl ⟨by rfl, ?_⟩) (by assumption) ?_
  rotate_left
  · (intro w hSw; (try dsimp only at hSw); go_simp; try with_reducible rfl)
  ((try simp only [Act.put]); (try simp only [List.setIfInBounds_toArray]); (try simp only [List.set_cons_succ]); (try simp only [List.set_cons_zero]))
  refine wpAnyH_take (i := 32) (oi := { dst := some 6, op := Op.assign (Operand.tmp 34), type := 33, pos := "tie.go:70", after := #[{ on := 27, ground := Ground.data }, { on := 31, ground := Ground.chain }, { on := 0, ground := Ground.phase }, { on := 1, ground := Ground.phase }, { on := 2, ground := Ground.phase }, { on := 3, ground := Ground.phase }, { on := 4, ground := Ground.phase }, { on := 5, ground := Ground.phase }, { on := 6, ground := Ground.phase }, { on := 7, ground := Ground.phase }, { on := 8, ground := Ground.phase }, { on := 9, ground := Ground.phase }, { on := 10, ground := Ground.phase }, { on := 11, ground := Ground.phase }, { on := 12, ground := Ground.phase }, { on := 13, ground := Ground.phase }, { on := 14, ground := Ground.phase }, { on := 15, ground := Ground.phase }, { on := 16, ground := Ground.phase }, { on := 17, ground := Ground.phase }, { on := 18, ground := Ground.phase }, { on := 19, ground := Ground.phase }, { on := 20, ground := Ground.phase }, { on := 21, ground := Ground.phase }, { on := 22, ground := Ground.phase }, { on := 23, ground := Ground.phase }, { on := 24, ground := Ground.phase }, { on := 25, ground := Ground.phase }, { on := 26, ground := Ground.phase }, { on := 27, ground := Ground.phase }, { on := 28, ground := Ground.phase }, { on := 29, ground := Ground.phase }, { on := 30, ground := Ground.phase }, { on := 31, ground := Ground.phase }], guard := none }) (v := ?_) rfl (by kernel_rfl) (by kernel_rfl) (by kernel_rfl) (fun _ _ _ h => h) (Or.inl ⟨by rfl, ?_⟩) (by assumption) ?_
  rotate_left
  · (intro w hSw; (try dsimp only at hSw); go_simp; try with_reducible rfl)
  ((try simp only [Act.put]); (try simp only [List.setIfInBounds_toArray]); (try simp only [List.set_cons_succ]); (try simp only [List.set_cons_zero]))
  refine wpAnyH_done (by kernel_rfl) ?_ _
  refine NoPanic.normal ?_
  go_wp2_with fail
  ((try simp only [Exit.inBlock, Exit.then]); refine bodyPost_ret (results_five rfl _ _ _) rfl ?_)
  exact ⟨by simp [Dk.nums, stV], B3.out⟩

theorem tie_quiet (h : TieAt F X W N t T) (ho : T.s.ok n) (hn : n ≤ 500) (hd : T.d.ok c) {b : Bool} (hb : decide (T.s.out.length = 0 ∧ T.s.waits.length = 0 ∧ T.d.held.length = 0) = b) :
    Calls Try.prog 10 #[.pointer (some ⟨t, 0, none⟩)] W fun E w' => E = .returned (.bool b) ∧ Below W.heap.size W w' := by
  have C := Lib.hid (tie_state h ho hn hd)
  clear h ho hd
  unfold stV at C
  generalize T.s.out.length = x at *
  generalize T.s.waits.length = y at *
  generalize T.d.held.length = z at *
  go_enter Try.func10, Try.ntmps10
  by_cases hx : x = 0
  · subst hx
    by_cases hy : y = 0
    · subst hy
      by_cases hz : z = 0
      · subst hz
        have hb2 : b = true := by rw [← hb]; decide
        subst hb2
        go_wp2_with (go_at_call 11; refine C.out.mono ?_; rintro e w1 ⟨rfl, hb1⟩; have B1 := Lib.hid hb1; clear hb1)
        go_ret
        exact ⟨rfl, B1.out⟩
      · have d : ((z : Int) == 0) = false := by simp; omega
        have d2 : (z == 0) = false := by simp; omega
        have hb2 : b = false := by rw [← hb]; exact decide_eq_false (fun h => hz h.2.2)
        subst hb2
        clear hz hb
        go_wp2_with (go_at_call 11; refine C.out.mono ?_; rintro e w1 ⟨rfl, hb1⟩; have B1 := Lib.hid hb1; clear hb1)
        go_ret
        exact ⟨rfl, B1.out⟩
    · have d : ((y : Int) == 0) = false := by simp; omega
      have d2 : (y == 0) = false := by simp; omega
      have hb2 : b = false := by rw [← hb]; exact decide_eq_false (fun h => hy h.2.1)
      subst hb2
      clear hy hb
      go_wp2_with (go_at_call 11; refine C.out.mono ?_; rintro e w1 ⟨rfl, hb1⟩; have B1 := Lib.hid hb1; clear hb1)
      go_ret
      exact ⟨rfl, B1.out⟩
  · have d : ((x : Int) == 0) = false := by simp; omega
    have d2 : (x == 0) = false := by simp; omega
    have hb2 : b = false := by rw [← hb]; exact decide_eq_false (fun h => hx h.1)
    subst hb2
    clear hx hb
    go_wp2_with (go_at_call 11; refine C.out.mono ?_; rintro e w1 ⟨rfl, hb1⟩; have B1 := Lib.hid hb1; clear hb1)
    go_ret
    exact ⟨rfl, B1.out⟩

/-- Word of what has come. -/
theorem tie_ack (h : TieAt F X W N t T) (hd : T.d.ok c) (hc : c ≤ 1000) : Calls Try.prog 21 #[.pointer (some ⟨t, 0, none⟩)] W (PutPost W (wireA (T.d.next - 1))) := by
  obtain ⟨p, q, rr, M, Fs, hR, rfl, c0, c1⟩ := tie_cells h
  have hnx := hd.next
  obtain ⟨m, hm⟩ : ∃ m, T.d.next - 1 = m := ⟨_, rfl⟩
  have ND := Lib.hid (fun w (hb : Below W.heap.size W w) => next_any (hR.d.below hb))
  have w1 : IntKind.u64.wrap ((T.d.next : Int) - 1) = (m : Int) := by rw [wrap_q (by omega)]; omega
  have PA := Lib.hid (fun w => put_ack (W := w) (k := m) (by omega))
  rw [hm]
  clear h hR hd hm c0
  go_enter Try.func21, Try.ntmps21
  go_wp2_with (first
    | (go_at_call 26; refine (ND.out W (Below.refl _ _)).mono ?_; rintro e w1 ⟨rfl, hw⟩; have hw2 := hw.symm; clear hw; subst hw2)
    | (go_at_call 35; refine (PA.out W).mono ?_; rintro e w2 ⟨d, he, h1, h2, h3⟩; have PP := Lib.hid (show PutPost W (wireA m) e w2 from ⟨d, he, h1, h2, h3⟩); unfold bdV at he; subst he; clear h1 h2 h3))
  go_ret
  exact PP.out
end

end Go.Proofs.Ytfbojcaedcimcaa

/-
  A tie's Hear.
-/
namespace Go.Proofs.Ytfbojcaedcimcaa
open Go.RowKit

/-- What Hear leaves. -/
def HearPost (W : World) (N t : Nat) (F X : Nat → Prop) (T : Te) (up down : List ByteArray) (err : Int) (E : Ending) (w' : World) : Prop :=
  ∃ F' au cu ad cd, E = .returned (.tuple #[.slice au up.length cu, .slice ad down.length cd, .int .i64 err]) ∧ TieAt F' (fun k => X k ∨ F' k) w' N t T ∧ Keep F W w' ∧ (∀ k, F' k → F k ∨ W.heap.size ≤ k) ∧
    WtR (fun k => ¬ (X k ∨ F' k)) w' (.slice au up.length cu) up ∧ WtR (fun k => ¬ (X k ∨ F' k)) w' (.slice ad down.length cd) down

theorem gotB_len (s : ByteArray) : (gotB s).bod.length ≤ 30000 := by
  unfold gotB gotF
  split
  · rename_i h
    unfold okF at h
    have h2 := (Bool.and_eq_true _ _ ▸ h).2
    unfold goodF at h2
    split at h2
    · have := of_decide_eq_true h2
      rw [this]
      exact Nat.zero_le _
    · exact (of_decide_eq_true h2).2
  · exact Nat.zero_le _
theorem lit1_row (w : World) (u : Value) (t : TypeId) : RowV (fun k => k = w.heap.size) (w.alloc (.cells #[u] t)) (some ⟨w.heap.size, 0, none⟩) 1 1 1 [u] := by
  refine ⟨rfl, Nat.le_refl _, by unfold maxLen; omega, (fun e => by cases e), fun j x hj => ⟨w.heap.size, 0, rfl, by simp, rfl, ?_⟩⟩
  have h := World.news_of_block (cs := #[u]) (fr := (0, 0)) (heap_alloc_new w (.cells #[u] t)) j x hj
  rw [Addr.add_lit] at h
  exact h
theorem up_form {Z : Nat → Prop} {M : Nat} {w : World} {v : Value} {ss : List ByteArray} (h : UpR Z M w v ss) : ∃ a cap, v = .slice a ss.length cap ∧ WtR Z w (.slice a ss.length cap) ss := by
  obtain ⟨a, cap, L, rfl, e, hr, hB⟩ := h
  have hl : L.length = ss.length := by rw [← e, List.length_map]
  rw [hl] at hr ⊢
  exact ⟨a, cap, rfl, a, cap, L, by rw [hl], e, by rw [hl]; exact hr.mono (fun k _ h => h.2), fun b hb => (hB b hb).mono (fun k _ h => h.2)⟩

section
variable {F X : Nat → Prop} {W W2 w3 w4 : World} {N t p q rr M n c : Nat} {Fs Fs3 : Nat → Prop} {T : Te} {S' : Sh} {D' : Dk}
/-- Behind an ack. -/
theorem hear_ack {g : Nat} {is : List ByteArray} {v : Value} (h : TieR X W N t p q rr M Fs T) (hX : ∀ k, X k → k < W.heap.size) (hb2 : Below W.heap.size W W2) (hA : ShAt w3 N p Fs3 S') (hK : Keep Fs W2 w3) (hF : ∀ j, Fs3 j → Fs j ∨ W2.heap.size ≤ j)
    (hb : Below w3.heap.size w3 w4) (hv : WtR (fun k => w3.heap.size ≤ k) w4 v ((numd g is).map wireD)) (a : Option Addr) (cap : Nat) (e : v = .slice a is.length cap) :
    HearPost W N t (TieF t q rr Fs) X ⟨S', T.d⟩ [] ((numd g is).map wireD) 0 (.returned (.tuple #[.slice none 0 0, v, .int .i64 0])) w4 := by
  obtain ⟨F', a', cap', e2, hT, hK', hF', hW⟩ := tie_sent (ret := fun v => v) (h.below hb2) (fun k hk => Nat.lt_of_lt_of_le (hX k hk) hb2.size) hA hK hF hb hv rfl a cap e
  cases e2
  have hs := hb2.size
  exact ⟨F', none, 0, a', cap', rfl, hT, (Keep.ofBelow (F := TieF t q rr Fs) hb2).trans hK' (fun _ _ f => f), fun k hk => (hF' k hk).imp id (fun l => by omega), WtR.none _ _, hW⟩
/-- Behind data. -/
theorem hear_data {up : List ByteArray} {a : Option Addr} {cap : Nat} {d : Bd} {s : ByteArray} {ty : TypeId} (h : TieR X w3 N t p q rr M Fs ⟨T.s, D'⟩) (hk : Keep (TieF t q rr Fs) W w3) (hu : WtR (fun k => ¬ X k) w3 (.slice a up.length cap) up) (hX : ∀ k, X k → k < W.heap.size)
    (hs : d.s = s) (hB : BodyV (fun j => w3.heap.size ≤ j) w4 d) (hb : Below w3.heap.size w3 w4) :
    HearPost W N t (TieF t q rr Fs) X ⟨T.s, D'⟩ up [s] 0 (.returned (.tuple #[.slice a up.length cap, .slice (some ⟨w4.heap.size, 0, none⟩) 1 1, .int .i64 0])) (w4.alloc (.cells #[.slice d.a d.s.size d.c] ty)) := by
  have hb5 : Below w4.heap.size w4 (w4.alloc (.cells #[.slice d.a d.s.size d.c] ty)) := (Below.refl _ _).alloc (Nat.le_refl _) _
  have hs3 := hk.size
  have hs4 := hb.size
  have hlt := h.lt
  have hn : ∀ k, W.heap.size ≤ k → ¬ (X k ∨ TieF t q rr Fs k) := fun k hk f => by
    rcases f with f | f
    · have := hX k f; omega
    · have := hX k (h.x k f); omega
  refine ⟨TieF t q rr Fs, a, cap, _, _, rfl, ⟨p, q, rr, M, Fs, ((h.below hb).below hb5).wide (fun k f => Or.inr f) (fun k _ f => f.elim id (h.x k)), rfl⟩, (hk.trans (Keep.ofBelow (F := fun _ => False) hb) (fun _ _ f => f.elim)).trans (Keep.ofBelow (F := fun _ => False) hb5) (fun _ _ f => f.elim), fun k f => Or.inl f, ?_, ?_⟩
  · exact ((hu.mono (fun k _ hx f => f.elim hx (fun f => hx (h.x k f)))).below hb).below hb5
  · refine ⟨_, 1, [d], rfl, by rw [← hs]; rfl, (lit1_row w4 (bdV d) ty).mono (fun k _ e => by subst e; exact hn _ (by omega)), fun b hb' => ?_⟩
    obtain rfl := List.mem_singleton.1 hb'
    exact (hB.below hb5).mono (fun k _ hk => hn k (by omega))

set_option maxRecDepth 20000 in
set_option maxHeartbeats 4000000 in
theorem tie_hear {A : Nat → Prop} {b : Bd} (h : TieAt F X W N t T) (hX : ∀ k, X k → k < W.heap.size) (ho : T.s.ok n) (hn : n ≤ 500) (hd : T.d.ok c) (hc : c < 1000) (hb : BodyV A W b) (hl : b.s.size ≤ 1000000) :
    Calls Try.prog 8 #[.pointer (some ⟨t, 0, none⟩), bdV b] W (HearPost W N t F X (T.hear (okB b.s) (gotB b.s)) (T.up (okB b.s) (gotB b.s)) (T.down (okB b.s) (gotB b.s)) (if okB b.s then 0 else 2)) := by
  obtain ⟨p, q, rr, M, Fs, hR, rfl, c0, c1⟩ := tie_cells h
  have GT := Lib.hid (get_body hb hl)
  have hlt := gotF_lt (bsN b.s)
  have hbl := gotB_len b.s
  have hlast := ho.last_le
  obtain ⟨ok, hok⟩ : ∃ x, okB b.s = x := ⟨_, rfl⟩
  obtain ⟨g, hg⟩ : ∃ x, gotB b.s = x := ⟨_, rfl⟩
  change (gotB b.s).num < _ at hlt
  unfold BodGot at GT
  rw [hok, hg] at GT ⊢
  rw [hg] at hlt hbl
  have hltR := hR.lt
  have tl := (hltR t (Or.inl rfl)).2
  have qi := hltR q (Or.inr (Or.inl rfl))
  have ri := hltR rr (Or.inr (Or.inr (Or.inl rfl)))
  unfold bdV at GT ⊢
  clear hb hl hok hg
  cases hok : ok
  · subst hok
    have PP := Lib.hid (fun w' (hb : Below W.heap.size W w') => (show HearPost W N t (TieF t q rr Fs) X T [] [] 2 (.returned (.tuple #[.slice none 0 0, .slice none 0 0, .int .i64 2])) w' from
      ⟨TieF t q rr Fs, none, 0, none, 0, rfl, ⟨p, q, rr, M, Fs, (hR.below hb).wide (fun k f => Or.inr f) (fun k _ f => f.elim id (hR.x k)), rfl⟩, Keep.ofBelow hb, fun k f => Or.inl f, WtR.none _ _, WtR.none _ _⟩))
    have e : (if false = true then (0 : Int) else 2) = 2 := rfl
    rw [e] at GT ⊢
    unfold Te.hear Te.up Te.down
    simp only [Bool.false_eq_true, if_false]
    clear h hR ho hd hlt hbl hlast hltR tl qi ri c0 c1 hX e
    go_enter Try.func8, Try.ntmps8
    go_wp2_with (go_at_call 17; refine GT.out.mono ?_; rintro e w1 ⟨d, rfl, -, -, hb1⟩; have B1 := Lib.hid (hb1.alloc hb1.size (.cells #[.bool g.ack, .int .u64 (g.num : Int), .slice d.a d.s.size d.c] 52)); clear hb1)
    go_ret3
    exact PP.out _ B1.out
  subst hok
  have e : (if true = true then (0 : Int) else 2) = 0 := rfl
  rw [e] at GT ⊢
  unfold Te.hear Te.up Te.down
  simp only [if_true]
  obtain ⟨ga, nm, bod⟩ := g
  dsimp only at *
  cases hga : ga
  · subst hga
    simp only [Bool.false_eq_true, if_false]
    have hmx := (hd.came (n := nm) (strB bod))
    have TK := Lib.hid (fun (w : World) (hb : Below W.heap.size W w) (d : Bd) (hs : d.s = strB bod) (hB : BodyV (fun j => W.heap.size ≤ j) w d) => (show Calls Try.prog 20 #[.pointer (some ⟨q, 0, none⟩), .int .u64 (nm : Nat), .slice d.a d.s.size d.c] w (TakePost (fun k => ¬ X k) w q rr M T.d nm (strB bod)) from by
      have := take_any (hR.d.below hb) hd (Nat.le_of_lt hc) hlt hB (by rw [hs, strB_len]; omega) (fun k hk f => by have := hX k f; have := hb.size; omega)
      rwa [hs] at this ⊢))
    have DR := Lib.hid (fun (w : World) (hb : Below W.heap.size W w) (w3 : World) (hA : DkAt (fun k => ¬ X k) w3 q rr M (T.d.came nm (strB bod))) (hK : Keep (PQ q rr) w w3) => (show TieR X w3 N t p q rr M Fs ⟨T.s, T.d.came nm (strB bod)⟩ ∧ Keep (TieF t q rr Fs) W w3 from by
      obtain ⟨r1, r2⟩ := (hR.below hb).dock hA hK
      exact ⟨r1, (Keep.ofBelow (F := TieF t q rr Fs) hb).trans r2 (fun _ _ f => f)⟩))
    have AK := Lib.hid (fun (w : World) (h : TieR X w N t p q rr M Fs ⟨T.s, T.d.came nm (strB bod)⟩) => tie_ack (c := c + 1) ⟨p, q, rr, M, Fs, h, rfl⟩ hmx hc)
    have DN := Lib.hid (fun (w3 w4 : World) (h3 : TieR X w3 N t p q rr M Fs ⟨T.s, T.d.came nm (strB bod)⟩) (hk : Keep (TieF t q rr Fs) W w3) (a : Option Addr) (cap : Nat) (hu : WtR (fun k => ¬ X k) w3 (.slice a (T.d.gave nm (strB bod)).length cap) (T.d.gave nm (strB bod))) (d : Bd) (hs : d.s = wireA ((T.d.came nm (strB bod)).next - 1)) (hB : BodyV (fun j => w3.heap.size ≤ j) w4 d) (hb : Below w3.heap.size w3 w4) =>
      hear_data (ty := 30) h3 hk hu hX hs hB hb)
    have ht : t < W.heap.size := tl
    have htq : t ≠ q ∧ t ≠ rr := ⟨hR.tq, hR.tr⟩
    clear h hR ho hd hlt hbl hlast hltR hX e
    go_enter Try.func8, Try.ntmps8
    go_upto_region 6 with (go_at_call 17; refine GT.out.mono ?_; rintro e w1 ⟨d, rfl, hs1, hB1, hb1⟩; have BW := Lib.hid hb1; have HB1 := Lib.hid hB1; have HS1 := Lib.hid hs1; clear hb1 hB1 hs1)
    try unfold bdV
    have b2 : Below W.heap.size W (w1.alloc (.cells #[.bool false, .int .u64 (nm : Int), .slice d.a d.s.size d.c] 52)) := BW.out.alloc BW.out.size _
    have f1 : (w1.alloc (.cells #[.bool false, .int .u64 (nm : Int), .slice d.a d.s.size d.c] 52)).cell? ⟨w1.heap.size, 1, none⟩ = some (.int .u64 (nm : Int)) := by simp
    have f2 : (w1.alloc (.cells #[.bool false, .int .u64 (nm : Int), .slice d.a d.s.size d.c] 52)).cell? ⟨w1.heap.size, 2, none⟩ = some (.slice d.a d.s.size d.c) := by simp
    have BD0 : BodyV (fun j => W.heap.size ≤ j) (w1.alloc (.cells #[.bool false, .int .u64 (nm : Int), .slice d.a d.s.size d.c] 52)) d := HB1.out.below ((Below.refl _ _).alloc (Nat.le_refl _) _)
    have l2 : w1.heap.size < (w1.alloc (.cells #[.bool false, .int .u64 (nm : Int), .slice d.a d.s.size d.c] 52)).heap.size := by simp
    generalize w1.alloc (.cells #[.bool false, .int .u64 (nm : Int), .slice d.a d.s.size d.c] 52) = W2 at *
    have BW2 := Lib.hid (show Below W.heap.size W W2.drew from b2.drew)
    have BD := Lib.hid (show BodyV (fun j => W.heap.size ≤ j) W2.drew d from BD0.below (drew_below W2))
    have e0 : W2.drew.cell? ⟨t, 1, none⟩ = some (.pointer (some ⟨q, 0, none⟩)) := cell_go c1 BW2.out
    have e1 : W2.drew.cell? ⟨w1.heap.size, 1, none⟩ = some (.int .u64 (nm : Int)) := f1
    have e2 : W2.drew.cell? ⟨w1.heap.size, 2, none⟩ = some (.slice d.a d.s.size d.c) := f2
    have LT := Lib.hid (show t < W2.drew.heap.size ∧ ¬ PQ q rr t ∧ w1.heap.size < W2.drew.heap.size ∧ ¬ PQ q rr w1.heap.size from ⟨Nat.lt_of_lt_of_le ht b2.size, fun f => f.elim htq.1 htq.2, l2, fun f => by have := BW.out.size; rcases f with f | f <;> omega⟩)
    clear b2 f1 f2 l2 BD0 c0 c1 GT
    have TKd := Lib.hid (TK.out W2.drew BW2.out d HS1.out BD.out)
    refine wp_region_noPanic ?_
    refine wp_region_held_drew (S := (fun w' => w'.cell? ⟨t, 1, none⟩ = some (.pointer (some ⟨q, 0, none⟩)) ∧ w'.cell? ⟨w1.heap.size, 1, none⟩ = some (.int .u64 (nm : Int)) ∧ w'.cell? ⟨w1.heap.size, 2, none⟩ = some (.slice d.a d.s.size d.c))) (by kernel_rfl) ?_ (fun hHeld => ?_)
    · exact ⟨e0, e1, e2⟩
    refine wpAnyH_take (i := 0) (oi := { dst := some 27, op := Op.move (Operand.tmp 0), type := 23, pos := "tie.go:54", after := #[], guard := none }) (v := ?_) rfl (by kernel_rfl) (by kernel_rfl) (by kernel_rfl) (fun _ _ _ h => h) (Or.inl ⟨by rfl, ?_⟩) (by assumption) ?_
    rotate_left
    · (intro w hSw; (try dsimp only at hSw); go_simp; try with_reducible rfl)
    ((try simp only [Act.put]); (try simp only [List.setIfInBounds_toArray]); (try simp only [List.set_cons_succ]); (try simp only [List.set_cons_zero]))
    refine wpAnyH_take (i := 1) (oi := { dst := some 28, op := Op.nilCheck (Operand.tmp 27), type := 0, pos := "tie.go:54", after := #[{ on := 0, ground := Ground.data }], guard := none }) (v := ?_) rfl (by kernel_rfl) (by kernel_rfl) (by kernel_rfl) (fun _ _ _ h => h) (Or.inl ⟨by rfl, ?_⟩) (by assumption) ?_
    rotate_left
    · (intro w hSw; (try dsimp only at hSw); go_simp; try with_reducible rfl)
    ((try simp only [Act.put]); (try simp only [List.setIfInBounds_toArray]); (try simp only [List.set_cons_succ]); (try simp only [List.set_cons_zero]))
    refine wpAnyH_take (i := 2) (oi := { dst := some 29, op := Op.fieldAddr 50 (Operand.tmp 28) 1, type := 0, pos := "tie.go:54", after := #[{ on := 1, ground := Ground.data }], guard := none }) (v := ?_) rfl (by kernel_rfl) (by kernel_rfl) (by kernel_rfl) (fun _ _ _ h => h) (Or.inl ⟨by rfl, ?_⟩) (by assumption) ?_
    rotate_left
    · (intro w hSw; (try dsimp only at hSw); go_simp; try with_reducible rfl)
    ((try simp only [Act.put]); (try simp only [List.setIfInBounds_toArray]); (try simp only [List.set_cons_succ]); (try simp only [List.set_cons_zero]))
    refine wpAnyH_take (i := 3) (oi := { dst := some 30, op := Op.load 46 (Operand.tmp 29), type := 46, pos := "tie.go:54", after := #[{ on := 2, ground := Ground.data }], guard := none }) (v := ?_) rfl (by kernel_rfl) (by kernel_rfl) (by kernel_rfl) (fun _ _ _ h => h) (Or.inl ⟨by rfl, ?_⟩) (by assumption) ?_
    rotate_left
    · (intro w hSw; (try dsimp only at hSw); go_simp; try with_reducible rfl)
    ((try simp only [Act.put]); (try simp only [List.setIfInBounds_toArray]); (try simp only [List.set_cons_succ]); (try simp only [List.set_cons_zero]))
    refine wpAnyH_take (i := 4) (oi := { dst := some 31, op := Op.fieldAddr 52 (Operand.tmp 7) 1, type := 0, pos := "tie.go:54", after := #[], guard := none }) (v := ?_) rfl (by kernel_rfl) (by kernel_rfl) (by kernel_rfl) (fun _ _ _ h => h) (Or.inl ⟨by rfl, ?_⟩) (by assumption) ?_
    rotate_left
    · (intro w hSw; (try dsimp only at hSw); go_simp; try with_reducible rfl)
    ((try simp only [Act.put]); (try simp only [List.setIfInBounds_toArray]); (try simp only [List.set_cons_succ]); (try simp only [List.set_cons_zero]))
    refine wpAnyH_take (i := 5) (oi := { dst := some 32, op := Op.load 33 (Operand.tmp 31), type := 33, pos := "tie.go:54", after := #[{ on := 4, ground := Ground.data }], guard := none }) (v := ?_) rfl (by kernel_rfl) (by kernel_rfl) (by kernel_rfl) (fun _ _ _ h => h) (Or.inl ⟨by rfl, ?_⟩) (by assumption) ?_
    rotate_left
    · (intro w hSw; (try dsimp only at hSw); go_simp; try with_reducible rfl)
    ((try simp only [Act.put]); (try simp only [List.setIfInBounds_toArray]); (try simp only [List.set_cons_succ]); (try simp only [List.set_cons_zero]))
    refine wpAnyH_take (i := 6) (oi := { dst := some 33, op := Op.fieldAddr 52 (Operand.tmp 7) 2, type := 0, pos := "tie.go:54", after := #[], guard := none }) (v := ?_) rfl (by kernel_rfl) (by kernel_rfl) (by kernel_rfl) (fun _ _ _ h => h) (Or.inl ⟨by rfl, ?_⟩) (by assumption) ?_
    rotate_left
    · (intro w hSw; (try dsimp only at hSw); go_simp; try with_reducible rfl)
    ((try simp only [Act.put]); (try simp only [List.setIfInBounds_toArray]); (try simp only [List.set_cons_succ]); (try simp only [List.set_cons_zero]))
    refine wpAnyH_take (i := 7) (oi := { dst := some 34, op := Op.load 30 (Operand.tmp 33), type := 30, pos := "tie.go:54", after := #[{ on := 6, ground := Ground.data }], guard := none }) (v := ?_) rfl (by kernel_rfl) (by kernel_rfl) (by kernel_rfl) (fun _ _ _ h => h) (Or.inl ⟨by rfl, ?_⟩) (by assumption) ?_
    rotate_left
    · (intro w hSw; (try dsimp only at hSw); go_simp; try with_reducible rfl)
    ((try simp only [Act.put]); (try simp only [List.setIfInBounds_toArray]); (try simp only [List.set_cons_succ]); (try simp only [List.set_cons_zero]))
    refine wpAnyH_ready (rs := [8]) (by kernel_rfl) (by simp) ?_
    refine AllReadyH.cons (o := { dst := some 35, op := Op.call { callee := Callee.value (Operand.func 20), args := #[Operand.tmp 30, Operand.tmp 32, Operand.tmp 34], argTypes := #[46, 33, 30] }, type := 31, pos := "tie.go:54", after := #[{ on := 3, ground := Ground.data }, { on := 5, ground := Ground.data }, { on := 7, ground := Ground.data }], guard := none }) rfl (fun K hK => ?_) AllReadyH.nil
    go_simp
    refine TKd.out.mono ?_
    rintro e w3 ⟨v, he, hu, hA, hK⟩
    obtain ⟨a3, k3, rfl, hu2⟩ := up_form hu
    subst he
    have S3 := Lib.hid (show w3.cell? ⟨t, 1, none⟩ = some (.pointer (some ⟨q, 0, none⟩)) ∧ w3.cell? ⟨w1.heap.size, 1, none⟩ = some (.int .u64 (nm : Int)) ∧ w3.cell? ⟨w1.heap.size, 2, none⟩ = some (.slice d.a d.s.size d.c) from ⟨(hK.cell (p := ⟨t, 1, none⟩) LT.out.1 LT.out.2.1).trans e0, (hK.cell (p := ⟨w1.heap.size, 1, none⟩) LT.out.2.2.1 LT.out.2.2.2).trans e1, (hK.cell (p := ⟨w1.heap.size, 2, none⟩) LT.out.2.2.1 LT.out.2.2.2).trans e2⟩)
    have R3 := Lib.hid (DR.out W2.drew BW2.out w3 hA hK)
    have U3 := Lib.hid hu2
    clear hu hA hK hu2
    try go_wp2_with fail
    refine hK.out _ _ ?_ (fun hNew => ?_)
    · first | exact hHeld | exact S3.out
    clear hK K
    replace hHeld := hNew
    clear hNew
    ((try simp only [Act.put]); (try simp only [List.setIfInBounds_toArray]); (try simp only [List.set_cons_succ]); (try simp only [List.set_cons_zero]))
    refine wpAnyH_take (i := 9) (oi := { dst := some 26, op := Op.move (Operand.tmp 35), type := 31, pos := "tie.go:54", after := #[{ on := 8, ground := Ground.data }], guard := none }) (v := ?_) rfl (by kernel_rfl) (by kernel_rfl) (by kernel_rfl) (fun _ _ _ h => h) (Or.inl ⟨by rfl, ?_⟩) (by assumption) ?_
    rotate_left
    · (intro w hSw; (try dsimp only at hSw); go_simp; try with_reducible rfl)
    ((try simp only [Act.put]); (try simp only [List.setIfInBounds_toArray]); (try simp only [List.set_cons_succ]); (try simp only [List.set_cons_zero]))
    refine wpAnyH_take (i := 10) (oi := { dst := some 36, op := Op.extract (Operand.tmp 26) 0, type := 27, pos := "tie.go:54", after := #[{ on := 9, ground := Ground.data }], guard := none }) (v := ?_) rfl (by kernel_rfl) (by kernel_rfl) (by kernel_rfl) (fun _ _ _ h => h) (Or.inl ⟨by rfl, ?_⟩) (by assumption) ?_
    rotate_left
    · (intro w hSw; (try dsimp only at hSw); go_simp; try with_reducible rfl)
    ((try simp only [Act.put]); (try simp only [List.setIfInBounds_toArray]); (try simp only [List.set_cons_succ]); (try simp only [List.set_cons_zero]))
    refine wpAnyH_take (i := 11) (oi := { dst := some 37, op := Op.extract (Operand.tmp 26) 1, type := 4, pos := "tie.go:54", after := #[{ on := 9, ground := Ground.data }, { on := 12, ground := Ground.gcOnly Departure.lateStores }], guard := none }) (v := ?_) rfl (by kernel_rfl) (by kernel_rfl) (by kernel_rfl) (fun _ _ _ h => h) (Or.inl ⟨by rfl, ?_⟩) (by assumption) ?_
    rotate_left
    · (intro w hSw; (try dsimp only at hSw); go_simp; try with_reducible rfl)
    ((try simp only [Act.put]); (try simp only [List.setIfInBounds_toArray]); (try simp only [List.set_cons_succ]); (try simp only [List.set_cons_zero]))
    refine wpAnyH_take (i := 12) (oi := { dst := some 4, op := Op.assign (Operand.tmp 36), type := 27, pos := "tie.go:54", after := #[{ on := 10, ground := Ground.data }, { on := 8, ground := Ground.chain }, { on := 0, ground := Ground.phase }, { on := 1, ground := Ground.phase }, { on := 2, ground := Ground.phase }, { on := 3, ground := Ground.phase }, { on := 4, ground := Ground.phase }, { on := 5, ground := Ground.phase }, { on := 6, ground := Ground.phase }, { on := 7, ground := Ground.phase }, { on := 8, ground := Ground.phase }, { on := 9, ground := Ground.phase }, { on := 10, ground := Ground.phase }, { on := 11, ground := Ground.textOnly Departure.lateStores }], guard := none }) (v := ?_) rfl (by kernel_rfl) (by kernel_rfl) (by kernel_rfl) (fun _ _ _ h => h) (Or.inl ⟨by rfl, ?_⟩) (by assumption) ?_
    rotate_left
    · (intro w hSw; (try dsimp only at hSw); go_simp; try with_reducible rfl)
    ((try simp only [Act.put]); (try simp only [List.setIfInBounds_toArray]); (try simp only [List.set_cons_succ]); (try simp only [List.set_cons_zero]))
    refine wpAnyH_done (by kernel_rfl) ?_ _
    refine NoPanic.normal ?_
    go_wp2_with (go_at_call 21; refine (AK.out w3 R3.out.1).mono ?_; rintro e w4 ⟨d4, he, hs4, hB4, hb4⟩; have PP := Lib.hid (DN.out w3 w4 R3.out.1 R3.out.2 _ _ U3.out d4 hs4 hB4 hb4); unfold bdV at he; subst he; clear hs4 hB4 hb4)
    go_ret3
    exact PP.out

  · subst hga
    simp only [if_true]
    have AC := Lib.hid (fun (w : World) (hb : Below W.heap.size W w) => ack_any (k := nm) (hR.s.below hb) ho hn)
    have hln : (T.s.ackI nm).length ≤ 1000 := by
      have h1 := (goes_acked (k := nm) ho).1
      have h2 := (ho.acked (k := nm)).last_le
      omega
    have FI := Lib.hid (fun (w1 : World) (v : Value) (A : Nat → Prop) (hi : ItR A w1 v T.s.last (T.s.ackI nm)) => framed_any hi hln (by omega))
    have DN := Lib.hid (fun (W2 : World) (hb2 : Below W.heap.size W W2) (w3 w4 : World) (Fs3 : Nat → Prop) (hA : ShAt w3 N p Fs3 (T.s.acked nm)) (hK : Keep Fs W2 w3) (hF : ∀ j, Fs3 j → Fs j ∨ W2.heap.size ≤ j) (hb : Below w3.heap.size w3 w4) (v : Value) (hv : WtR (fun k => w3.heap.size ≤ k) w4 v ((numd T.s.last (T.s.ackI nm)).map wireD)) (a : Option Addr) (cap : Nat) (e : v = .slice a (T.s.ackI nm).length cap) =>
      hear_ack hR hX hb2 hA hK hF hb hv a cap e)
    have ht : t < W.heap.size := tl
    have hst : ¬ Fs t := hR.st
    have HS := Lib.hid (fun k (h : Fs k) => (hltR k (Or.inr (Or.inr (Or.inr h)))).2)
    clear h hR ho hd hlt hbl hlast hltR hX e hln
    go_enter Try.func8, Try.ntmps8
    go_upto_region 5 with (go_at_call 17; refine GT.out.mono ?_; rintro e w1 ⟨d, rfl, hs1, hB1, hb1⟩; have BW := Lib.hid hb1; clear hb1 hB1 hs1)
    try unfold bdV
    have b2 : Below W.heap.size W (w1.alloc (.cells #[.bool true, .int .u64 (nm : Int), .slice d.a d.s.size d.c] 52)) := BW.out.alloc BW.out.size _
    have f1 : (w1.alloc (.cells #[.bool true, .int .u64 (nm : Int), .slice d.a d.s.size d.c] 52)).cell? ⟨w1.heap.size, 1, none⟩ = some (.int .u64 (nm : Int)) := by simp
    have l2 : w1.heap.size < (w1.alloc (.cells #[.bool true, .int .u64 (nm : Int), .slice d.a d.s.size d.c] 52)).heap.size := by simp
    generalize w1.alloc (.cells #[.bool true, .int .u64 (nm : Int), .slice d.a d.s.size d.c] 52) = W2 at *
    have BW2 := Lib.hid (show Below W.heap.size W W2.drew from b2.drew)
    have e0 : W2.drew.cell? ⟨t, 0, none⟩ = some (.pointer (some ⟨p, 0, none⟩)) := cell_go c0 BW2.out
    have e1 : W2.drew.cell? ⟨w1.heap.size, 1, none⟩ = some (.int .u64 (nm : Int)) := f1
    have LT := Lib.hid (show t < W2.drew.heap.size ∧ ¬ Fs t ∧ w1.heap.size < W2.drew.heap.size ∧ ¬ Fs w1.heap.size from ⟨Nat.lt_of_lt_of_le ht b2.size, hst, l2, fun f => by have := BW.out.size; have := HS.out _ f; omega⟩)
    clear b2 f1 l2 c0 c1 GT
    refine wp_region_noPanic ?_
    refine wp_region_held_drew (S := (fun w' => w'.cell? ⟨t, 0, none⟩ = some (.pointer (some ⟨p, 0, none⟩)) ∧ w'.cell? ⟨w1.heap.size, 1, none⟩ = some (.int .u64 (nm : Int)))) (by kernel_rfl) ?_ (fun hHeld => ?_)
    · exact ⟨e0, e1⟩
    refine wpAnyH_take (i := 0) (oi := { dst := some 18, op := Op.move (Operand.tmp 0), type := 23, pos := "tie.go:52", after := #[], guard := none }) (v := ?_) rfl (by kernel_rfl) (by kernel_rfl) (by kernel_rfl) (fun _ _ _ h => h) (Or.inl ⟨by rfl, ?_⟩) (by assumption) ?_
    rotate_left
    · (intro w hSw; (try dsimp only at hSw); go_simp; try with_reducible rfl)
    ((try simp only [Act.put]); (try simp only [List.setIfInBounds_toArray]); (try simp only [List.set_cons_succ]); (try simp only [List.set_cons_zero]))
    refine wpAnyH_take (i := 1) (oi := { dst := some 19, op := Op.nilCheck (Operand.tmp 18), type := 0, pos := "tie.go:52", after := #[{ on := 0, ground := Ground.data }], guard := none }) (v := ?_) rfl (by kernel_rfl) (by kernel_rfl) (by kernel_rfl) (fun _ _ _ h => h) (Or.inl ⟨by rfl, ?_⟩) (by assumption) ?_
    rotate_left
    · (intro w hSw; (try dsimp only at hSw); go_simp; try with_reducible rfl)
    ((try simp only [Act.put]); (try simp only [List.setIfInBounds_toArray]); (try simp only [List.set_cons_succ]); (try simp only [List.set_cons_zero]))
    refine wpAnyH_take (i := 2) (oi := { dst := some 20, op := Op.fieldAddr 50 (Operand.tmp 19) 0, type := 0, pos := "tie.go:52", after := #[{ on := 1, ground := Ground.data }], guard := none }) (v := ?_) rfl (by kernel_rfl) (by kernel_rfl) (by kernel_rfl) (fun _ _ _ h => h) (Or.inl ⟨by rfl, ?_⟩) (by assumption) ?_
    rotate_left
    · (intro w hSw; (try dsimp only at hSw); go_simp; try with_reducible rfl)
    ((try simp only [Act.put]); (try simp only [List.setIfInBounds_toArray]); (try simp only [List.set_cons_succ]); (try simp only [List.set_cons_zero]))
    refine wpAnyH_take (i := 3) (oi := { dst := some 21, op := Op.load 43 (Operand.tmp 20), type := 43, pos := "tie.go:52", after := #[{ on := 2, ground := Ground.data }], guard := none }) (v := ?_) rfl (by kernel_rfl) (by kernel_rfl) (by kernel_rfl) (fun _ _ _ h => h) (Or.inl ⟨by rfl, ?_⟩) (by assumption) ?_
    rotate_left
    · (intro w hSw; (try dsimp only at hSw); go_simp; try with_reducible rfl)
    ((try simp only [Act.put]); (try simp only [List.setIfInBounds_toArray]); (try simp only [List.set_cons_succ]); (try simp only [List.set_cons_zero]))
    refine wpAnyH_take (i := 4) (oi := { dst := some 22, op := Op.fieldAddr 52 (Operand.tmp 7) 1, type := 0, pos := "tie.go:52", after := #[], guard := none }) (v := ?_) rfl (by kernel_rfl) (by kernel_rfl) (by kernel_rfl) (fun _ _ _ h => h) (Or.inl ⟨by rfl, ?_⟩) (by assumption) ?_
    rotate_left
    · (intro w hSw; (try dsimp only at hSw); go_simp; try with_reducible rfl)
    ((try simp only [Act.put]); (try simp only [List.setIfInBounds_toArray]); (try simp only [List.set_cons_succ]); (try simp only [List.set_cons_zero]))
    refine wpAnyH_take (i := 5) (oi := { dst := some 23, op := Op.load 33 (Operand.tmp 22), type := 33, pos := "tie.go:52", after := #[{ on := 4, ground := Ground.data }], guard := none }) (v := ?_) rfl (by kernel_rfl) (by kernel_rfl) (by kernel_rfl) (fun _ _ _ h => h) (Or.inl ⟨by rfl, ?_⟩) (by assumption) ?_
    rotate_left
    · (intro w hSw; (try dsimp only at hSw); go_simp; try with_reducible rfl)
    ((try simp only [Act.put]); (try simp only [List.setIfInBounds_toArray]); (try simp only [List.set_cons_succ]); (try simp only [List.set_cons_zero]))
    refine wpAnyH_ready (rs := [6]) (by kernel_rfl) (by simp) ?_
    refine AllReadyH.cons (o := { dst := some 24, op := Op.call { callee := Callee.value (Operand.func 19), args := #[Operand.tmp 21, Operand.tmp 23], argTypes := #[43, 33] }, type := 56, pos := "tie.go:52", after := #[{ on := 3, ground := Ground.data }, { on := 5, ground := Ground.data }], guard := none }) rfl (fun K hK => ?_) AllReadyH.nil
    go_simp
    refine (AC.out W2.drew BW2.out).mono ?_
    rintro e w3 ⟨Fs3, a3, k3, rfl, hA, hK, hF, hi⟩
    have HA := Lib.hid hA
    have HK := Lib.hid hK
    have HF := Lib.hid hF
    have HI := Lib.hid hi
    have S3 := Lib.hid (show w3.cell? ⟨t, 0, none⟩ = some (.pointer (some ⟨p, 0, none⟩)) ∧ w3.cell? ⟨w1.heap.size, 1, none⟩ = some (.int .u64 (nm : Int)) from ⟨(hK.cell (p := ⟨t, 0, none⟩) LT.out.1 LT.out.2.1).trans e0, (hK.cell (p := ⟨w1.heap.size, 1, none⟩) LT.out.2.2.1 LT.out.2.2.2).trans e1⟩)
    clear hA hK hF hi
    try go_wp2_with fail
    refine hK.out _ _ ?_ (fun hNew => ?_)
    · first | exact hHeld | exact S4.out | exact S3.out
    clear hK K
    replace hHeld := hNew
    clear hNew
    ((try simp only [Act.put]); (try simp only [List.setIfInBounds_toArray]); (try simp only [List.set_cons_succ]); (try simp only [List.set_cons_zero]))
    refine wpAnyH_ready (rs := [7]) (by kernel_rfl) (by simp) ?_
    refine AllReadyH.cons (o := { dst := some 25, op := Op.call { callee := Callee.value (Operand.func 18), args := #[Operand.tmp 24], argTypes := #[56] }, type := 27, pos := "tie.go:52", after := #[{ on := 6, ground := Ground.data }, { on := 6, ground := Ground.chain }], guard := none }) rfl (fun K hK => ?_) AllReadyH.nil
    go_simp
    refine (FI.out w3 _ _ HI.out).mono ?_
    rintro e w4 ⟨a4, k4, he, hv, hb4⟩
    rw [numd_map] at he hv
    subst he
    have S4 := Lib.hid (show w4.cell? ⟨t, 0, none⟩ = some (.pointer (some ⟨p, 0, none⟩)) ∧ w4.cell? ⟨w1.heap.size, 1, none⟩ = some (.int .u64 (nm : Int)) from ⟨cell_go S3.out.1 hb4, cell_go S3.out.2 hb4⟩)
    have PP := Lib.hid (DN.out W2.drew BW2.out w3 w4 Fs3 HA.out HK.out HF.out hb4 _ hv a4 k4 rfl)
    clear hv hb4
    try go_wp2_with fail
    refine hK.out _ _ ?_ (fun hNew => ?_)
    · first | exact hHeld | exact S4.out | exact S3.out
    clear hK K
    replace hHeld := hNew
    clear hNew
    ((try simp only [Act.put]); (try simp only [List.setIfInBounds_toArray]); (try simp only [List.set_cons_succ]); (try simp only [List.set_cons_zero]))
    refine wpAnyH_take (i := 8) (oi := { dst := some 4, op := Op.assign (Operand.const (Value.slice none 0 0)), type := 27, pos := "tie.go:52", after := #[{ on := 7, ground := Ground.chain }, { on := 0, ground := Ground.textOnly Departure.lateStores }, { on := 1, ground := Ground.textOnly Departure.lateStores }, { on := 2, ground := Ground.textOnly Departure.lateStores }, { on := 3, ground := Ground.textOnly Departure.lateStores }, { on := 4, ground := Ground.textOnly Departure.lateStores }, { on := 5, ground := Ground.textOnly Departure.lateStores }, { on := 6, ground := Ground.textOnly Departure.lateStoresUnsure }, { on := 7, ground := Ground.textOnly Departure.lateStoresUnsure }], guard := none }) (v := ?_) rfl (by kernel_rfl) (by kernel_rfl) (by kernel_rfl) (fun _ _ _ h => h) (Or.inl ⟨by rfl, ?_⟩) (by assumption) ?_
    rotate_left
    · (intro w hSw; (try dsimp only at hSw); go_simp; try with_reducible rfl)
    ((try simp only [Act.put]); (try simp only [List.setIfInBounds_toArray]); (try simp only [List.set_cons_succ]); (try simp only [List.set_cons_zero]))
    refine wpAnyH_take (i := 9) (oi := { dst := some 5, op := Op.assign (Operand.tmp 25), type := 27, pos := "tie.go:52", after := #[{ on := 7, ground := Ground.data }, { on := 8, ground := Ground.chain }, { on := 0, ground := Ground.phase }, { on := 1, ground := Ground.phase }, { on := 2, ground := Ground.phase }, { on := 3, ground := Ground.phase }, { on := 4, ground := Ground.phase }, { on := 5, ground := Ground.phase }, { on := 6, ground := Ground.phase }, { on := 7, ground := Ground.phase }, { on := 8, ground := Ground.phase }], guard := none }) (v := ?_) rfl (by kernel_rfl) (by kernel_rfl) (by kernel_rfl) (fun _ _ _ h => h) (Or.inl ⟨by rfl, ?_⟩) (by assumption) ?_
    rotate_left
    · (intro w hSw; (try dsimp only at hSw); go_simp; try with_reducible rfl)
    ((try simp only [Act.put]); (try simp only [List.setIfInBounds_toArray]); (try simp only [List.set_cons_succ]); (try simp only [List.set_cons_zero]))
    refine wpAnyH_take (i := 10) (oi := { dst := some 6, op := Op.assign (Operand.const (Value.int IntKind.i64 0)), type := 24, pos := "tie.go:52", after := #[{ on := 9, ground := Ground.chain }, { on := 0, ground := Ground.phase }, { on := 1, ground := Ground.phase }, { on := 2, ground := Ground.phase }, { on := 3, ground := Ground.phase }, { on := 4, ground := Ground.phase }, { on := 5, ground := Ground.phase }, { on := 6, ground := Ground.phase }, { on := 7, ground := Ground.phase }, { on := 8, ground := Ground.phase }, { on := 9, ground := Ground.phase }], guard := none }) (v := ?_) rfl (by kernel_rfl) (by kernel_rfl) (by kernel_rfl) (fun _ _ _ h => h) (Or.inl ⟨by rfl, ?_⟩) (by assumption) ?_
    rotate_left
    · (intro w hSw; (try dsimp only at hSw); go_simp; try with_reducible rfl)
    ((try simp only [Act.put]); (try simp only [List.setIfInBounds_toArray]); (try simp only [List.set_cons_succ]); (try simp only [List.set_cons_zero]))
    refine wpAnyH_done (by kernel_rfl) ?_ _
    refine NoPanic.normal ?_
    go_wp2_with fail
    go_ret3
    exact PP.out

end

end Go.Proofs.Ytfbojcaedcimcaa

/-
  A tie's Tick, New, Room; data that is too long.
-/
namespace Go.Proofs.Ytfbojcaedcimcaa
open Go.RowKit

section
variable {F X : Nat → Prop} {W : World} {N t n c : Nat} {T : Te}
set_option maxHeartbeats 2000000 in
theorem tie_tick (h : TieAt F X W N t T) (hX : ∀ k, X k → k < W.heap.size) (ho : T.s.ok n) (hn : n ≤ 500) :
    Calls Try.prog 13 #[.pointer (some ⟨t, 0, none⟩)] W (TiePost W N t F X T.tick (fun v => v) T.tickO) := by
  obtain ⟨p, q, rr, M, Fs, hR, rfl, c0, -⟩ := tie_cells h
  have SP := Lib.hid (tick_any hR.s ho hn)
  have hln : T.s.tickI.length ≤ 1000 := by
    unfold Sh.tickI
    split
    · rw [T.s.out_len]
      have := T.s.n_le
      have := ho.all
      omega
    · exact Nat.zero_le _
  have hlg : T.s.g ≤ 1000000 := by have := ho.g; have := ho.all; omega
  have FI := Lib.hid (fun (w1 : World) (v : Value) (A : Nat → Prop) (hi : ItR A w1 v T.s.g T.s.tickI) => framed_any hi hln hlg)
  have DN := Lib.hid (fun (w1 w2 : World) (Fs' : Nat → Prop) (hA : ShAt w1 N p Fs' T.s.tick) (hK : Keep Fs W w1) (hF : ∀ j, Fs' j → Fs j ∨ W.heap.size ≤ j) (hb : Below w1.heap.size w1 w2) (v : Value) (hv : WtR (fun k => w1.heap.size ≤ k) w2 v ((numd T.s.g T.s.tickI).map wireD)) (k0 : Nat) (hk : k0 = T.s.tickI.length) (a : Option Addr) (cap : Nat) (e : v = .slice a k0 cap) =>
    tie_sent (ret := fun v => v) hR hX hA hK hF hb hv hk a cap e)
  show Calls _ _ _ _ (TiePost W N t (TieF t q rr Fs) X ⟨T.s.tick, T.d⟩ _ ((numd T.s.g T.s.tickI).map wireD))
  obtain ⟨is, his⟩ : ∃ is, T.s.tickI = is := ⟨_, rfl⟩
  rw [his] at SP DN FI ⊢
  clear h hR ho hln hlg hX his
  go_enter Try.func13, Try.ntmps13
  go_wp2_with (first
    | (go_at_call 28; refine SP.out.mono ?_
       rintro e w1 ⟨Fs', a, cap, rfl, hA, hK, hF, hi⟩
       have HA := Lib.hid hA
       have HK := Lib.hid hK
       have HF := Lib.hid hF
       have HI := Lib.hid hi
       clear hA hK hF hi)
    | (go_at_call 18; refine (FI.out w1 _ _ HI.out).mono ?_
       rintro e w2 ⟨a2, cap2, he, hv, hb2⟩
       rw [numd_map] at he hv
       subst he
       have PP := Lib.hid (DN.out w1 w2 Fs' HA.out HK.out HF.out hb2 _ hv _ rfl a2 cap2 rfl)
       clear hv hb2))
  go_ret
  exact PP.out

/-- Data that is too long is refused. -/
theorem tie_long {v : Value} {a : Option Addr} {len cap : Nat} {r : Bool} (hl : 30000 < len) :
    Calls Try.prog 9 #[v, .slice a len cap, .bool r] W fun E w' => E = .returned (.tuple #[.slice none 0 0, .bool false]) ∧ w' = W := by
  have d1 : decide ((len : Int) > 30000) = true := decide_eq_true (by omega)
  have d2 : decide (30000 < len) = true := decide_eq_true hl
  clear hl
  go_enter Try.func9, Try.ntmps9
  go_wp2_with fail
  go_ret2
  exact ⟨rfl, rfl⟩


/-- A new one. -/
def TieNew (W : World) (T : Te) (E : Ending) (w' : World) : Prop :=
  ∃ t F, E = .returned (.tuple #[.pointer (some ⟨t, 0, none⟩), .int .i64 0]) ∧ (∀ X : Nat → Prop, (∀ k, F k → X k) → TieAt F X w' W.heap.size t T) ∧ Below W.heap.size W w'

theorem tie_fresh {w1 w2 : World} {p q r wi qu f m : Nat} {Fs : Nat → Prop} {ty : TypeId} (hA : ShAt w1 W.heap.size p Fs (Sh.new wi qu f m)) (hb1 : Below W.heap.size W w1) (hD : ∀ Z : Nat → Prop, DkAt Z w2 q r w2.heap.size (Dk.new wi))
    (hq : w1.heap.size ≤ q) (hr : w1.heap.size ≤ r) (hb2 : Below w1.heap.size w1 w2) :
    TieNew W (Te.new wi qu f m) (.returned (.tuple #[.pointer (some ⟨w2.heap.size, 0, none⟩), .int .i64 0])) (w2.alloc (.cells #[.pointer (some ⟨p, 0, none⟩), .pointer (some ⟨q, 0, none⟩)] ty)) := by
  have hc := (Cel.new w2 [.pointer (some ⟨p, 0, none⟩), .pointer (some ⟨q, 0, none⟩)] ty).conv (V2 := tiC p q) (fun o ho => by
    match o, ho with
    | 0, _ => rfl
    | 1, _ => rfl)
  have hb3 : Below w2.heap.size w2 (w2.alloc (.cells #[.pointer (some ⟨p, 0, none⟩), .pointer (some ⟨q, 0, none⟩)] ty)) := (Below.refl _ _).alloc (Nat.le_refl _) _
  have hlt := fun k h => (hA.size.2.2 k h)
  have hd := (hD (fun _ => True)).lt
  have h1 := hb1.size
  have h2 := hb2.size
  refine ⟨w2.heap.size, TieF w2.heap.size q r Fs, rfl, fun X hx => ⟨p, q, r, w2.heap.size, Fs, ⟨hc, (hA.below hb2).below hb3, (hD _).below hb3, fun e => ?_, fun e => ?_, fun e => ?_, by omega, by omega, by omega, hx⟩, rfl⟩, (hb1.trans (hb2.mono h1)).trans (hb3.mono (by omega))⟩
  · have := (hlt _ e).2; omega
  · have := (hlt _ e).2; omega
  · have := (hlt _ e).2; omega

theorem tie_new (wi qu f m : Nat) (W : World) (hw : 1 ≤ wi ∧ wi ≤ 16) (hq : 2 ≤ qu ∧ qu ≤ 32) (hf : 1 ≤ f ∧ f ≤ m ∧ m ≤ 1000) :
    Calls Try.prog 7 #[.int .i64 (wi : Int), .int .i64 (qu : Int), .int .i64 (f : Int), .int .i64 (m : Int)] W (TieNew W (Te.new wi qu f m)) := by
  have SN := Lib.hid (sh_new W W.heap.size wi qu f m (Nat.le_refl _) hw hq hf)
  have HW := Lib.hid hw
  have DN := Lib.hid (fun (w1 w2 : World) (p q r : Nat) (Fs : Nat → Prop) (hA : ShAt w1 W.heap.size p Fs (Sh.new wi qu f m)) (hb1 : Below W.heap.size W w1) (hD : ∀ Z : Nat → Prop, DkAt Z w2 q r w2.heap.size (Dk.new wi))
    (hq : w1.heap.size ≤ q) (hr : w1.heap.size ≤ r) (hb2 : Below w1.heap.size w1 w2) => tie_fresh (ty := 50) hA hb1 hD hq hr hb2)
  clear hw hq hf
  go_enter Try.func7, Try.ntmps7
  go_wp2_with (first
    | (go_at_call 15; refine SN.out.mono ?_; rintro e w1 ⟨p, Fs, rfl, hA, hb1, -⟩; have HA := Lib.hid hA; have B1 := Lib.hid hb1; clear hA hb1)
    | (go_at_call 16; refine (new_any wi w1 HW.out.1 HW.out.2).mono ?_; rintro e w2 ⟨q, r, rfl, hD, hq, hr, hb2⟩; have PP := Lib.hid (DN.out w1 w2 p q r Fs HA.out B1.out hD hq hr hb2); clear hD hq hr hb2))
  go_ret2
  exact PP.out

theorem tie_new_no (w q f m : Int) (W : World) (h : ¬ ((1 ≤ w ∧ w ≤ 16) ∧ (2 ≤ q ∧ q ≤ 32) ∧ 1 ≤ f ∧ f ≤ m ∧ m ≤ 1000)) :
    Calls Try.prog 7 #[.int .i64 w, .int .i64 q, .int .i64 f, .int .i64 m] W fun E w' => E = .returned (.tuple #[.pointer none, .int .i64 1]) ∧ w' = W := by
  have SN := Lib.hid (sh_new_no W w q f m h)
  clear h
  go_enter Try.func7, Try.ntmps7
  go_wp2_with (go_at_call 15; refine SN.out.mono ?_; rintro e w1 ⟨rfl, hw⟩; have hw2 := hw.symm; clear hw; subst hw2)
  go_ret2
  exact ⟨rfl, rfl⟩
end

end Go.Proofs.Ytfbojcaedcimcaa

/-
  Alike rows: bodies and strings.
-/
namespace Go.Proofs.Ytfbojcaedcimcaa
open Go.RowKit

def RowsRel (W : World) (n : Nat) (ss rs : List ByteArray) (i : Value) (wr : World) : Prop := ∃ k q, k ≤ n ∧ i = .int .i64 ((k : Nat) : Int) ∧ wr = W.drewN q ∧ ss.take k = rs.take k

theorem rows_more {ss rs : List ByteArray} {k : Nat} (h : ss.take k = rs.take k) (h1 : k < ss.length) (h2 : k < rs.length) (e : ss[k] = rs[k]) : ss.take (k + 1) = rs.take (k + 1) := by
  rw [List.take_succ_eq_append_getElem h1, List.take_succ_eq_append_getElem h2, h, e]

theorem str_ne {s r : ByteArray} (h : s ≠ r) : (s.toList == r.toList) = false := by
  rw [Lib.toList_data, Lib.toList_data]
  refine beq_eq_false_iff_ne.2 (fun e => h ?_)
  cases s
  cases r
  simpa using Array.toList_inj.1 e

set_option maxRecDepth 20000 in
set_option maxHeartbeats 4000000 in
theorem rows_any {W : World} {A : Nat → Prop} {a1 a2 : Option Addr} {n m c1 c2 : Nat} {ss rs : List ByteArray} (h1 : WtR A W (.slice a1 n c1) ss) (h2 : SlV W a2 c2 (rs.map Value.string)) (hm : rs.length = m) (b : Bool) (hb : decide (ss = rs) = b) :
    Calls Try.prog 12 #[.slice a1 n c1, .slice a2 m c2] W fun E w' => E = .returned (.bool b) ∧ ∃ q, w' = W.drewN q := by
  obtain ⟨a, cap, L, e1, e2, r1, bo⟩ := h1
  simp only [Value.slice.injEq] at e1
  obtain ⟨rfl, hn1, rfl⟩ := e1
  rw [← hn1] at r1
  have hfit := r1.fit
  have hmax := r1.max
  have hfit2 := h2.fit
  have hmax2 := h2.max
  unfold maxLen at hmax hmax2
  rw [List.length_map] at hfit2
  have hls : ss.length = n := by rw [← e2, List.length_map, hn1]
  have R1 := Lib.hid r1
  have R2 := Lib.hid h2
  have BO := Lib.hid bo
  have E2 := Lib.hid e2
  have N1 := Lib.hid hn1
  have NS := Lib.hid hls
  have NM := Lib.hid hm
  clear r1 h2 bo e2 hn1
  by_cases hnm : n = m
  · subst hnm
    have HB := Lib.hid hb
    clear hls hm hb
    go_enter Try.func12, Try.ntmps12
    go_wp2_with fail
    go_loopw [5] (fun i wr => RowsRel W n ss rs i wr) (fun i _ => n - (intOf i).toNat)
    case atStart => exact ⟨0, 0, Nat.zero_le _, rfl, rfl, rfl⟩
    case round =>
      obtain ⟨k, q, hk, rfl, rfl, hT⟩ := hrel
      by_cases hlt : k < n
      · have hk1 : k < L.length := by rw [← N1.out]; exact hlt
        have hk2 : k < ss.length := by rw [NS.out]; exact hlt
        have hk3 : k < rs.length := by rw [NM.out]; exact hlt
        obtain ⟨o1, f1, rfl, hb1, -, k0⟩ := R1.out.cell k (bdV L[k]) (by rw [List.getElem?_map, List.getElem?_eq_getElem hk1]; rfl)
        obtain ⟨o2, f2, rfl, hb2, m0⟩ := R2.out.at k hk3
        have hs : L[k].s = ss[k] := by
          have := E2.out
          subst this
          rw [List.getElem_map]
        have HT := Lib.hid (rows_more hT hk2 hk3)
        have HF := Lib.hid (show ss[k] ≠ rs[k] → b = false from fun h => by
          rw [← HB.out]
          exact decide_eq_false (fun e => h (by subst e; rfl)))
        have hB := BO.out L[k] (List.getElem_mem _)
        generalize L[k] = bd at *
        generalize hsx : ss[k] = sx at *
        generalize rs[k] = rx at *
        obtain ⟨ab, cb, sb⟩ := bd
        have hs' : sb = sx := hs
        subst hs'
        have y1 : (W.drewN q).cell? ⟨o1, f1 + k, none⟩ = some (.slice ab sb.size cb) := k0
        have y2 : (W.drewN q).cell? ⟨o2, f2 + k, none⟩ = some (.string rx) := m0
        have cv : ∀ j, (convert 30 9 (.slice ab sb.size cb)).run Try.prog ((W.drewN q).drewN j) = .ok (.string sb) ((W.drewN q).drewN j) := fun j => by
          have := conv_any (w := (W.drewN q).drewN j) (hB.1.below ⟨rfl, rfl, rfl, Nat.le_refl _, fun _ _ => rfl⟩) (bsN_len sb)
          rw [strB_bsN] at this
          exact this
        have cv0 := cv 0
        have i0 : (0 : Int) ≤ (k : Int) := by omega
        have i1 : (k : Int) < (n : Int) := by omega
        have hQ := Lib.hid (fun j => (show ∃ q', (W.drewN q).drewN j = W.drewN q' from ⟨q + j, by rw [World.drewN_drewN]⟩))
        clear k0 m0 hs hsx hB hk1 hk2 hk3 hT
        by_cases he : sb = rx
        · have HT2 := Lib.hid (HT.out he)
          subst he
          clear HT HF
          generalize W.drewN q = ww at *
          go_wp2_with fail
          go_quiet (fail)
          go_wp2_with fail
          go_roundw
          case rel => exact (hQ.out _).elim fun q' e => ⟨k + 1, q', by omega, by go_num, e, HT2.out⟩
          case measure => simp only [intOf]; omega
        · have hF := HF.out he
          have hne := str_ne he
          subst hF
          clear HF HT HB he
          generalize W.drewN q = ww at *
          go_wp2_with fail
          go_quiet (fail)
          go_wp2_with fail
          go_ret
          exact ⟨rfl, hQ.out _⟩
      · obtain rfl : k = n := by omega
        have dk : decide ((k : Int) < (k : Int)) = false := decide_eq_false (by omega)
        have HR := Lib.hid (show b = true from by
          rw [← HB.out]
          refine decide_eq_true ?_
          rw [List.take_of_length_le (by rw [NS.out]; exact Nat.le_refl _), List.take_of_length_le (by rw [NM.out]; exact Nat.le_refl _)] at hT
          exact hT)
        clear hT
        have hR := HR.out
        subst hR
        go_wp2_with fail
        go_ret
        exact ⟨rfl, _, rfl⟩
  · have HF := Lib.hid (show b = false from by
      rw [← hb]
      refine decide_eq_false (fun e => hnm ?_)
      rw [← hls, ← hm, e])
    have dn : ((n : Int) != (m : Int)) = true := by simp; omega
    clear hb hls hm
    have hF := HF.out
    subst hF
    go_enter Try.func12, Try.ntmps12
    go_wp2_with fail
    go_ret
    exact ⟨rfl, 0, rfl⟩

end Go.Proofs.Ytfbojcaedcimcaa

/-
  One tie, made by the call itself, and the rows that it gave.
-/
namespace Go.Proofs.Ytfbojcaedcimcaa
open Go.RowKit

/-- One tie, all else below as it was; rows that it gave. -/
def TiOn (W : World) (N t : Nat) (T : Te) (L : List (Value × List ByteArray)) (w : World) : Prop :=
  ∃ F X : Nat → Prop, TieAt F X w N t T ∧ (∀ k, X k → N ≤ k ∧ k < w.heap.size) ∧ W.heap.size ≤ N ∧ Below W.heap.size W w ∧ ∀ x ∈ L, WtR (fun k => ¬ X k) w x.1 x.2

section
variable {F X : Nat → Prop} {W w w' : World} {N t n c : Nat} {T T' : Te} {L : List (Value × List ByteArray)}
theorem TiOn.below (h : TiOn W N t T L w) (hb : Below w.heap.size w w') : TiOn W N t T L w' := by
  obtain ⟨F, X, hA, hX, hN, hB, hL⟩ := h
  have := hb.size
  exact ⟨F, X, hA.below hb, fun k hk => ⟨(hX k hk).1, Nat.lt_of_lt_of_le (hX k hk).2 hb.size⟩, hN, hB.trans (hb.mono hB.size), fun x hx => (hL x hx).below hb⟩
theorem TiOn.drewN (h : TiOn W N t T L w) (k : Nat) : TiOn W N t T L (w.drewN k) := h.below ⟨rfl, rfl, rfl, Nat.le_refl _, fun _ _ => rfl⟩
theorem TiOn.be (h : TiOn W N t T L w) : Below W.heap.size W w := by
  obtain ⟨F, X, hA, hX, hN, hB, hL⟩ := h
  exact hB
theorem TiOn.get (h : TiOn W N t T L w) {x : Value × List ByteArray} (hx : x ∈ L) : WtR (fun _ => True) w x.1 x.2 := by
  obtain ⟨F, X, hA, hX, hN, hB, hL⟩ := h
  exact (hL x hx).mono (fun _ _ _ => trivial)
theorem wider {F' : Nat → Prop} {v : Value} {ss : List ByteArray} (h : WtR (fun k => ¬ X k) w v ss) (hK : Keep F w w') (hx : ∀ k, F k → X k) (hF : ∀ k, F' k → F k ∨ w.heap.size ≤ k) : WtR (fun k => ¬ (X k ∨ F' k)) w' v ss := by
  refine (h.mono (fun k hk hn f => ?_)).keep hK (fun k _ hA f => hA (Or.inl (hx k f)))
  rcases f with f | f
  · exact hn f
  · rcases hF k f with f | f
    · exact hn (hx k f)
    · omega
theorem TiOn.next {F' : Nat → Prop} (hA : TieAt F X w N t T) (hX : ∀ k, X k → N ≤ k ∧ k < w.heap.size) (hN : W.heap.size ≤ N) (hB : Below W.heap.size W w) (hL : ∀ x ∈ L, WtR (fun k => ¬ X k) w x.1 x.2)
    (hT : TieAt F' (fun k => X k ∨ F' k) w' N t T') (hK : Keep F w w') (hF : ∀ k, F' k → F k ∨ w.heap.size ≤ k) : TiOn W N t T' L w' := by
  have hs := hK.size
  refine ⟨F', fun k => X k ∨ F' k, hT, fun k hk => ?_, hN, hB.trans (hK.below hB.size (fun k f => Nat.le_trans hN (hA.lt k f).1)), fun x hx => wider (hL x hx) hK hA.x hF⟩
  rcases hk with hk | hk
  · exact ⟨(hX k hk).1, Nat.lt_of_lt_of_le (hX k hk).2 hs⟩
  · exact hT.lt k hk

theorem ti_op {ret : Value → Value} {ss : List ByteArray} {E : Ending} (hA : TieAt F X w N t T) (hX : ∀ k, X k → N ≤ k ∧ k < w.heap.size) (hN : W.heap.size ≤ N) (hB : Below W.heap.size W w) (hL : ∀ x ∈ L, WtR (fun k => ¬ X k) w x.1 x.2) (h : TiePost w N t F X T' ret ss E w') :
    ∃ a cap, E = .returned (ret (.slice a ss.length cap)) ∧ TiOn W N t T' ((.slice a ss.length cap, ss) :: L) w' := by
  obtain ⟨F', a, cap, he, hT, hK, hF, hW⟩ := h
  have hs := hK.size
  refine ⟨a, cap, he, F', fun k => X k ∨ F' k, hT, fun k hk => ?_, hN, hB.trans (hK.below hB.size (fun k f => Nat.le_trans hN (hA.lt k f).1)), fun x hx => ?_⟩
  · rcases hk with hk | hk
    · exact ⟨(hX k hk).1, Nat.lt_of_lt_of_le (hX k hk).2 hs⟩
    · exact hT.lt k hk
  · rcases List.mem_cons.1 hx with rfl | hx
    · exact hW
    · exact wider (hL x hx) hK hA.x hF

theorem ti_push {A : Nat → Prop} {b : Bd} {r : Bool} (h : TiOn W N t T L w) (ho : T.s.ok n) (hn : n ≤ 500) (hb : BodyV A w b) (hbs : b.s.size ≤ 30000) :
    Calls Try.prog 9 #[.pointer (some ⟨t, 0, none⟩), .slice b.a b.s.size b.c, .bool r] w fun E w' => ∃ a cap, E = .returned (.tuple #[.slice a (T.pushO r b.s).length cap, .bool (T.s.room r)]) ∧ TiOn W N t (T.push r b.s) ((.slice a (T.pushO r b.s).length cap, T.pushO r b.s) :: L) w' := by
  obtain ⟨F, X, hA, hX, hN, hB, hL⟩ := h
  exact (tie_push hA (fun k hk => (hX k hk).2) ho hn hb hbs).mono fun E w' hp => ti_op hA hX hN hB hL hp
theorem ti_hear {A : Nat → Prop} {b : Bd} (h : TiOn W N t T L w) (ho : T.s.ok n) (hn : n ≤ 500) (hd : T.d.ok c) (hc : c < 1000) (hb : BodyV A w b) (hl : b.s.size ≤ 1000000) :
    Calls Try.prog 8 #[.pointer (some ⟨t, 0, none⟩), bdV b] w fun E w' => ∃ au cu ad cd, E = .returned (.tuple #[.slice au (T.up (okB b.s) (gotB b.s)).length cu, .slice ad (T.down (okB b.s) (gotB b.s)).length cd, .int .i64 (if okB b.s then 0 else 2)]) ∧
      TiOn W N t (T.hear (okB b.s) (gotB b.s)) ((.slice au (T.up (okB b.s) (gotB b.s)).length cu, T.up (okB b.s) (gotB b.s)) :: (.slice ad (T.down (okB b.s) (gotB b.s)).length cd, T.down (okB b.s) (gotB b.s)) :: L) w' := by
  obtain ⟨F, X, hA, hX, hN, hB, hL⟩ := h
  refine (tie_hear hA (fun k hk => (hX k hk).2) ho hn hd hc hb hl).mono fun E w' hp => ?_
  obtain ⟨F', au, cu, ad, cd, he, hT, hK, hF, hU, hD⟩ := hp
  have hs := hK.size
  refine ⟨au, cu, ad, cd, he, F', fun k => X k ∨ F' k, hT, fun k hk => ?_, hN, hB.trans (hK.below hB.size (fun k f => Nat.le_trans hN (hA.lt k f).1)), fun x hx => ?_⟩
  · rcases hk with hk | hk
    · exact ⟨(hX k hk).1, Nat.lt_of_lt_of_le (hX k hk).2 hs⟩
    · exact hT.lt k hk
  · rcases List.mem_cons.1 hx with rfl | hx
    · exact hU
    · rcases List.mem_cons.1 hx with rfl | hx
      · exact hD
      · exact wider (hL x hx) hK hA.x hF
theorem ti_state {s : Value} (h : TiOn W N t T L w) (ho : T.s.ok n) (hn : n ≤ 500) (hd : T.d.ok c) (hs : stV T = s) :
    Calls Try.prog 11 #[.pointer (some ⟨t, 0, none⟩)] w fun E w' => E = .returned s ∧ TiOn W N t T L w' := by
  subst hs
  have h0 := h
  obtain ⟨F, X, hA, hX, hN, hB, hL⟩ := h
  exact (tie_state hA ho hn hd).mono fun E w' hp => ⟨hp.1, h0.below hp.2⟩
theorem ti_quiet {b : Bool} (h : TiOn W N t T L w) (ho : T.s.ok n) (hn : n ≤ 500) (hd : T.d.ok c) (hb : decide (T.s.out.length = 0 ∧ T.s.waits.length = 0 ∧ T.d.held.length = 0) = b) :
    Calls Try.prog 10 #[.pointer (some ⟨t, 0, none⟩)] w fun E w' => E = .returned (.bool b) ∧ TiOn W N t T L w' := by
  have h0 := h
  obtain ⟨F, X, hA, hX, hN, hB, hL⟩ := h
  exact (tie_quiet hA ho hn hd hb).mono fun E w' hp => ⟨hp.1, h0.below hp.2⟩
theorem ti_new {wi qu f m : Nat} {za zq zf zm : Int} (ha : (wi : Int) = za) (hq' : (qu : Int) = zq) (hf' : (f : Int) = zf) (hm' : (m : Int) = zm) (hw : 1 ≤ wi ∧ wi ≤ 16) (hq : 2 ≤ qu ∧ qu ≤ 32) (hf : 1 ≤ f ∧ f ≤ m ∧ m ≤ 1000) (hB : Below W.heap.size W w) :
    Calls Try.prog 7 #[.int .i64 za, .int .i64 zq, .int .i64 zf, .int .i64 zm] w fun E w' => ∃ N t, E = .returned (.tuple #[.pointer (some ⟨t, 0, none⟩), .int .i64 0]) ∧ TiOn W N t (Te.new wi qu f m) [] w' := by
  subst ha hq' hf' hm'
  refine (tie_new wi qu f m w hw hq hf).mono fun E w' hp => ?_
  obtain ⟨t, F, he, hT, hb⟩ := hp
  have hA := hT F (fun k hk => hk)
  exact ⟨w.heap.size, t, he, F, F, hA, hA.lt, hB.size, hB.trans (hb.mono hB.size), fun x hx => by cases hx⟩

/-- Bytes written out in the text are heard, pushed. -/
theorem lit_body (w : World) (l : List Nat) (s : ByteArray) (hs : bsN s = l) (n : Nat) (hn : l.length = n) (cs : Array Value) (ty : TypeId) (fr : Nat × Nat) (hcs : cs = (l.map bV).toArray) (hm : n ≤ maxLen) :
    BodyV (fun _ => True) (w.alloc (.cells cs ty fr)) ⟨some ⟨w.heap.size, 0, none⟩, n, s⟩ ∧ s.size = n := by
  subst hs
  have hsz : s.size = n := by rw [← bsN_len, hn]
  have hl := sl_lit bV 256 w (bsN s) cs ty fr n hcs hn (bsN_lt s) hm
  exact ⟨⟨hl, fun _ _ _ => trivial⟩, hsz⟩
theorem ti_lit {l : List Nat} {s : ByteArray} {k ku kd : Nat} {z : Int} {cs : Array Value} {ty : TypeId} {fr : Nat × Nat} {ok : Bool} {g : Frm} {up down : List ByteArray} (h : TiOn W N t T L w) (ho : T.s.ok n) (hn : n ≤ 500) (hd : T.d.ok c) (hc : c < 1000) (hs : bsN s = l) (hk : l.length = k) (hk2 : k ≤ 1000) (hcs : cs = (l.map bV).toArray)
    (hok : okF l = ok) (hg : gotF l = g) (hT : T.hear ok g = T') (hu : T.up ok g = up) (hd2 : T.down ok g = down) (hku : up.length = ku) (hkd : down.length = kd) (hz : (if ok then (0 : Int) else 2) = z) :
    Calls Try.prog 8 #[.pointer (some ⟨t, 0, none⟩), .slice (some ⟨w.heap.size, 0, none⟩) k k] (w.alloc (.cells cs ty fr)) fun E w' => ∃ au cu ad cd, E = .returned (.tuple #[.slice au ku cu, .slice ad kd cd, .int .i64 z]) ∧
      TiOn W N t T' ((.slice au ku cu, up) :: (.slice ad kd cd, down) :: L) w' := by
  obtain ⟨hB, hsz⟩ := lit_body w l s hs k hk cs ty fr hcs (by unfold maxLen; omega)
  have := ti_hear (h.below ((Below.refl _ _).alloc (Nat.le_refl _) (.cells cs ty fr))) ho hn hd hc hB (by show s.size ≤ 1000000; omega)
  have e1 : okB s = ok := by unfold okB; rw [hs]; exact hok
  have e2 : gotB s = g := by unfold gotB; rw [hs]; exact hg
  dsimp only at this
  rw [e1, e2, hT, hu, hd2, hku, hkd, hz] at this
  unfold bdV at this
  dsimp only at this
  rw [hsz] at this
  exact this
theorem ti_litp {l : List Nat} {s : ByteArray} {k ko : Nat} {cs : Array Value} {ty : TypeId} {fr : Nat × Nat} {r b : Bool} {out : List ByteArray} (h : TiOn W N t T L w) (ho : T.s.ok n) (hn : n ≤ 500) (hs : bsN s = l) (hk : l.length = k) (hk2 : k ≤ 1000) (hcs : cs = (l.map bV).toArray)
    (hT : T.push r s = T') (hu : T.pushO r s = out) (hko : out.length = ko) (hb : T.s.room r = b) :
    Calls Try.prog 9 #[.pointer (some ⟨t, 0, none⟩), .slice (some ⟨w.heap.size, 0, none⟩) k k, .bool r] (w.alloc (.cells cs ty fr)) fun E w' => ∃ a cap, E = .returned (.tuple #[.slice a ko cap, .bool b]) ∧
      TiOn W N t T' ((.slice a ko cap, out) :: L) w' := by
  obtain ⟨hB, hsz⟩ := lit_body w l s hs k hk cs ty fr hcs (by unfold maxLen; omega)
  have := ti_push (r := r) (h.below ((Below.refl _ _).alloc (Nat.le_refl _) (.cells cs ty fr))) ho hn hB (by show s.size ≤ 30000; omega)
  dsimp only at this
  rw [hT, hu, hko, hb, hsz] at this
  exact this
end

end Go.Proofs.Ytfbojcaedcimcaa

/-
  What the statements of the tie look at first; TieKnown.
-/
namespace Go.Proofs.Ytfbojcaedcimcaa
open Go.RowKit

abbrev Sh.okP (S : Sh) (n : Nat) : Prop := (1 ≤ S.win ∧ S.win ≤ 16) ∧ (2 ≤ S.que ∧ S.que ≤ 32) ∧ S.g ≤ S.all.length ∧ S.all.length ≤ n ∧ S.waits.length ≤ S.que ∧ (1 ≤ S.pa.f ∧ S.pa.f ≤ S.pa.s) ∧ (S.pa.s ≤ S.pa.m ∧ S.pa.m ≤ 1000) ∧ S.pa.l ≤ S.pa.s ∧ S.pa.r ≤ n ∧ (0 < S.pa.l ↔ S.g < S.all.length) ∧ ∀ s ∈ S.all, s.size ≤ 30000
theorem Sh.ok_of {S : Sh} {n : Nat} (h : S.okP n) : S.ok n := by
  obtain ⟨h1, h2, h3, h4, h5, h6, h7, h8, h9, h10, h11⟩ := h
  exact ⟨h1, h2, h3, h4, h5, ⟨h6, h7, h8, h9⟩, h10, h11⟩
abbrev Dk.okP (S : Dk) (c : Nat) : Prop := (1 ≤ S.win ∧ S.win ≤ 16) ∧ (1 ≤ S.next ∧ S.next + S.held.length ≤ c + 1) ∧ S.held.Pairwise (fun x y => x.1 < y.1) ∧ ∀ x ∈ S.held, S.next + 1 ≤ x.1 ∧ x.1 < S.next + S.win
theorem Dk.ok_of {S : Dk} {c : Nat} (h : S.okP c) : S.ok c := ⟨h.1, h.2.1, h.2.2.1, h.2.2.2⟩

/-- True, and all below as it was. -/
def TiOk (W : World) (E : Ending) (w' : World) : Prop := E = .returned (.bool true) ∧ Below W.heap.size W w'

def sA : ByteArray := ⟨#[97]⟩
def sX : ByteArray := ⟨#[120]⟩
theorem got_of {f : Frm} {l : List Nat} (hn : f.num < 18446744073709551616) (hg : goodF f = true) (e : putF f = l) : okF l = true ∧ gotF l = f := e ▸ gotF_put hn hg
theorem got_1a : okF [0, 1, 1, 97] = true ∧ gotF [0, 1, 1, 97] = ⟨false, 1, [97]⟩ := got_of (f := ⟨false, 1, [97]⟩) (by decide) rfl (by simp [putF, lebL_lo])
theorem got_9a : okF [0, 9, 1, 97] = true ∧ gotF [0, 9, 1, 97] = ⟨false, 9, [97]⟩ := got_of (f := ⟨false, 9, [97]⟩) (by decide) rfl (by simp [putF, lebL_lo])
theorem got_11 : okF [1, 1] = true ∧ gotF [1, 1] = ⟨true, 1, []⟩ := got_of (f := ⟨true, 1, []⟩) (by decide) rfl (by simp [putF, lebL_lo])
theorem got_7 : okF [7] = false := by decide +kernel
theorem wireA_1 : wireA 1 = ⟨#[1, 1]⟩ := by
  have : bytesF (ackFm 1) = [1, 1] := by
    unfold bytesF
    rw [show goodF (ackFm 1) = true from rfl, if_pos rfl]
    simp [putF, ackFm, lebL_lo]
  unfold wireA
  rw [this]
  rfl
theorem wireA_0 : wireA 0 = ⟨#[1, 0]⟩ := by
  have : bytesF (ackFm 0) = [1, 0] := by
    unfold bytesF
    rw [show goodF (ackFm 0) = true from rfl, if_pos rfl]
    simp [putF, ackFm, lebL_lo]
  unfold wireA
  rw [this]
  rfl
theorem wireD_x : wireD (1, sX) = ⟨#[0, 1, 1, 120]⟩ := by
  have e : dataFm (1, sX) = ⟨false, 1, [120]⟩ := rfl
  have : bytesF (dataFm (1, sX)) = [0, 1, 1, 120] := by
    rw [e]
    unfold bytesF
    rw [show goodF ⟨false, 1, [120]⟩ = true from rfl, if_pos rfl]
    simp [putF, lebL_lo]
  unfold wireD
  rw [this]
  rfl

set_option maxRecDepth 20000 in
set_option maxHeartbeats 8000000 in
theorem ti_awake (W : World) : Calls Try.prog 6 #[] W (TiOk W) := by
  go_enter Try.func6, Try.ntmps6
  go_wp2_with fail
  refine (ti_new (W := W) (wi := 2) (qu := 3) (f := 2) (m := 8) rfl rfl rfl rfl (by decide) (by decide) (by decide) (Below.refl _ _)).mono ?_
  rintro e w1 ⟨N, t, rfl, h1⟩
  have L1 := Lib.hid h1
  clear h1
  go_wp2_with fail
  refine (ti_lit (n := 10) (c := 10) (l := [0, 1, 1, 97]) (s := ⟨#[0, 1, 1, 97]⟩) (k := 4) (ok := true) (g := ⟨false, 1, [97]⟩) (T' := ⟨Sh.new 2 3 2 8, ⟨2, 2, []⟩⟩) (up := [sA]) (down := [wireA 1]) (ku := 1) (kd := 1) (z := 0) L1.out (Sh.ok_of (by decide)) (by decide) (Dk.ok_of (by decide)) (by decide) rfl rfl (by decide) rfl got_1a.1 got_1a.2 rfl rfl rfl rfl rfl rfl).mono ?_
  rintro e w2 ⟨au, cu, ad, cd, rfl, h2⟩
  have L2 := Lib.hid h2
  clear h2 L1
  have B3 : Below w2.heap.size w2 (w2.alloc (.cells #[.string ⟨#[97]⟩] 9)) := (Below.refl _ _).alloc (Nat.le_refl _) _
  have L3 := Lib.hid (L2.out.below B3)
  have I3 := Lib.hid (slv_lit w2 [.string ⟨#[97]⟩] #[.string ⟨#[97]⟩] 9 1 rfl rfl (by unfold maxLen; omega))
  clear B3
  go_wp2_with fail
  refine (rows_any (ss := [sA]) (rs := [sA]) (L3.out.get (x := (.slice au 1 cu, [sA])) (by simp)) I3.out rfl true (by decide)).mono ?_
  rintro e w4 ⟨rfl, q4, rfl⟩
  have L4 := Lib.hid (L3.out.drewN q4)
  clear L2 L3 I3
  generalize (w2.alloc (.cells #[.string ⟨#[97]⟩] 9)).drewN q4 = w5 at *
  have B5 : Below w5.heap.size w5 (w5.alloc (.cells #[.string ⟨#[1, 1]⟩] 9)) := (Below.refl _ _).alloc (Nat.le_refl _) _
  have L5 := Lib.hid (L4.out.below B5)
  have I5 := Lib.hid (slv_lit w5 [.string ⟨#[1, 1]⟩] #[.string ⟨#[1, 1]⟩] 9 1 rfl rfl (by unfold maxLen; omega))
  clear B5
  go_wp2_with fail
  refine (rows_any (ss := [wireA 1]) (rs := [⟨#[1, 1]⟩]) (L5.out.get (x := (.slice ad 1 cd, [wireA 1])) (by simp)) I5.out rfl true (decide_eq_true (by rw [wireA_1]))).mono ?_
  rintro e w6 ⟨rfl, q6, rfl⟩
  have L6 := Lib.hid (L5.out.drewN q6)
  clear L4 L5 I5
  generalize (w5.alloc (.cells #[.string ⟨#[1, 1]⟩] 9)).drewN q6 = w7 at *
  go_wp2_with fail
  refine (ti_quiet (n := 10) (c := 10) (b := true) L6.out (Sh.ok_of (by decide)) (by decide) (Dk.ok_of (by decide)) rfl).mono ?_
  rintro e w8 ⟨rfl, h8⟩
  have L8 := Lib.hid h8
  clear h8 L6
  go_wp2_with fail
  go_ret
  exact ⟨rfl, L8.out.be⟩

end Go.Proofs.Ytfbojcaedcimcaa

/-
  Two ties, and rows: those that the call owns, those that the ties gave.
-/
namespace Go.Proofs.Ytfbojcaedcimcaa
open Go.RowKit

/-- A row that the call owns: of what type, its value, its elements, the bodies that they are. -/
structure Orow where
  e : TypeId
  v : Value
  xs : List Value
  bs : List Bd
/-- A row that is read alone. -/
def WtL (A : Nat → Prop) (w : World) (v : Value) (L : List Bd) : Prop := ∃ (a : Option Addr) (cap : Nat), v = .slice a L.length cap ∧ RowV A w a cap L.length 1 (L.map bdV) ∧ ∀ b ∈ L, BodyV A w b
theorem WtR.list {A : Nat → Prop} {w : World} {v : Value} {ss : List ByteArray} (h : WtR A w v ss) : ∃ L : List Bd, L.map Bd.s = ss ∧ WtL A w v L := by
  obtain ⟨a, cap, L, e, e2, hr, hB⟩ := h
  exact ⟨L, e2, a, cap, e, hr, hB⟩
section
variable {A A' : Nat → Prop} {w w' : World} {v : Value} {L : List Bd}
theorem WtL.carry (h : WtL A w v L) (hs : w.heap.size ≤ w'.heap.size) (hb : ∀ k, k < w.heap.size → A k → w'.heap[k]? = w.heap[k]?) : WtL A w' v L := by
  obtain ⟨a, cap, e, hr, hB⟩ := h
  exact ⟨a, cap, e, hr.carry hs hb, fun b hb' => (hB b hb').carry hs hb⟩
theorem WtL.mono (h : WtL A w v L) (hA : ∀ k, k < w.heap.size → A k → A' k) : WtL A' w v L := by
  obtain ⟨a, cap, e, hr, hB⟩ := h
  exact ⟨a, cap, e, hr.mono hA, fun b hb' => (hB b hb').mono hA⟩
end

structure StR (W : World) (X Fa Fb : Nat → Prop) (Na Nb a b : Nat) (A B : Te) (G : List (Value × List Bd)) (O : List Orow) (w : World) : Prop where
  ta : TieAt Fa X w Na a A
  tb : TieAt Fb X w Nb b B
  ab : ∀ k, Fa k → ¬ Fb k
  x : ∀ k, X k → W.heap.size ≤ k ∧ k < w.heap.size
  be : Below W.heap.size W w
  own : ∀ o ∈ O, OwnAt w W.heap.size o.e o.v o.xs.length o.xs ∧ (∀ k, o.v.ownBlock = some k → X k ∧ ¬ Fa k ∧ ¬ Fb k) ∧ ∀ c ∈ o.bs, BodyV (fun k => ¬ X k) w c
  ap : O.Pairwise (fun o o' => ∀ k, o.v.ownBlock = some k → o'.v.ownBlock ≠ some k)
  giv : ∀ x ∈ G, WtL (fun k => ¬ X k) w x.1 x.2
/-- Two ties; G: rows that they gave; O: rows that the call owns; all else below as it was. -/
def St (W : World) (a b : Nat) (A B : Te) (G : List (Value × List Bd)) (O : List Orow) (w : World) : Prop := ∃ X Fa Fb Na Nb, StR W X Fa Fb Na Nb a b A B G O w

section
variable {W w w' : World} {X Fa Fb F' K : Nat → Prop} {Na Nb a b n c : Nat} {A B A' B' : Te} {G G' : List (Value × List Bd)} {O O' P Q : List Orow} {o : Orow}
theorem StR.below (h : StR W X Fa Fb Na Nb a b A B G O w) (hb : Below w.heap.size w w') : StR W X Fa Fb Na Nb a b A B G O w' := by
  have hs := hb.size
  refine ⟨h.ta.below hb, h.tb.below hb, h.ab, fun k hk => ⟨(h.x k hk).1, Nat.lt_of_lt_of_le (h.x k hk).2 hs⟩, h.be.trans (hb.mono h.be.size), fun o ho => ?_, h.ap, fun x hx => (h.giv x hx).carry hs (fun k hk _ => hb.block k hk)⟩
  obtain ⟨h1, h2, h3⟩ := h.own o ho
  exact ⟨h1.carry (fun k hk => hb.block k (h1.lt k hk).2), h2, fun c hc => (h3 c hc).below hb⟩
theorem StR.swap (h : StR W X Fa Fb Na Nb a b A B G O w) : StR W X Fb Fa Nb Na b a B A G O w :=
  ⟨h.tb, h.ta, fun k hk f => h.ab k f hk, h.x, h.be, fun o ho => ⟨(h.own o ho).1, fun k hk => ⟨((h.own o ho).2.1 k hk).1, ((h.own o ho).2.1 k hk).2.2, ((h.own o ho).2.1 k hk).2.1⟩, (h.own o ho).2.2⟩, h.ap, h.giv⟩
theorem StR.perm (h : StR W X Fa Fb Na Nb a b A B G O w) (hp : O.Perm O') : StR W X Fa Fb Na Nb a b A B G O' w :=
  ⟨h.ta, h.tb, h.ab, h.x, h.be, fun o ho => h.own o (hp.mem_iff.2 ho), (hp.pairwise_iff (fun hxy k hk hk2 => hxy k hk2 hk)).1 h.ap, h.giv⟩
theorem StR.sub (h : StR W X Fa Fb Na Nb a b A B G O w) (hs : O'.Sublist O) (hg : ∀ x ∈ G', x ∈ G) : StR W X Fa Fb Na Nb a b A B G' O' w :=
  ⟨h.ta, h.tb, h.ab, h.x, h.be, fun o ho => h.own o (hs.subset ho), h.ap.sublist hs, fun x hx => h.giv x (hg x hx)⟩
/-- A new row, with nothing in it. -/
theorem StR.nil (h : StR W X Fa Fb Na Nb a b A B G O w) (e : TypeId) : StR W X Fa Fb Na Nb a b A B G (⟨e, .slice none 0 0, [], []⟩ :: O) w := by
  refine ⟨h.ta, h.tb, h.ab, h.x, h.be, fun o ho => ?_, List.pairwise_cons.2 ⟨fun o ho k hk => (by cases hk), h.ap⟩, h.giv⟩
  rcases List.mem_cons.1 ho with rfl | ho
  · exact ⟨⟨rfl, Or.inl ⟨rfl, rfl⟩⟩, fun k hk => (by cases hk), fun c hc => (by cases hc)⟩
  · exact h.own o ho

/-- What avoids X stays, whatever is written within X. -/
theorem body_wide {Y : Nat → Prop} {d : Bd} (h : BodyV (fun k => ¬ X k) w d) (hK : Keep K w w') (hKX : ∀ k, k < w.heap.size → K k → X k) (hY : ∀ k, k < w.heap.size → Y k → X k) : BodyV (fun k => ¬ Y k) w' d :=
  ((h.mono (A' := fun k => ¬ X k ∧ ¬ Y k) (fun k hk hn => ⟨hn, fun f => hn (hY k hk f)⟩)).carry hK.size (fun k hk hA => hK.block k hk (fun f => hA.1 (hKX k hk f)))).mono (fun _ _ hA => hA.2)
theorem wtl_wide {Y : Nat → Prop} {v : Value} {L : List Bd} (h : WtL (fun k => ¬ X k) w v L) (hK : Keep K w w') (hKX : ∀ k, k < w.heap.size → K k → X k) (hY : ∀ k, k < w.heap.size → Y k → X k) : WtL (fun k => ¬ Y k) w' v L :=
  ((h.mono (A' := fun k => ¬ X k ∧ ¬ Y k) (fun k hk hn => ⟨hn, fun f => hn (hY k hk f)⟩)).carry hK.size (fun k hk hA => hK.block k hk (fun f => hA.1 (hKX k hk f)))).mono (fun _ _ hA => hA.2)

/-- The first of the ties turned. -/
theorem StR.left (h : StR W X Fa Fb Na Nb a b A B G O w) (hT : TieAt F' (fun k => X k ∨ F' k) w' Na a A') (hK : Keep Fa w w') (hF : ∀ k, F' k → Fa k ∨ w.heap.size ≤ k) : StR W (fun k => X k ∨ F' k) F' Fb Na Nb a b A' B G O w' := by
  have hs := hK.size
  have hN : ∀ k, Fa k → W.heap.size ≤ k := fun k hk => (h.x k (h.ta.x k hk)).1
  have hY : ∀ k, k < w.heap.size → (X k ∨ F' k) → X k := fun k hk f => f.elim id (fun f => (hF k f).elim (h.ta.x k) (fun l => by omega))
  have hKX : ∀ k, k < w.heap.size → Fa k → X k := fun k _ f => h.ta.x k f
  refine ⟨hT, (h.tb.wide (fun k f => Or.inl (h.tb.x k f)) hY).keep hK (fun k f g => h.ab k g f) (fun k _ f => Or.inl (h.ta.x k f)), fun k f g => ?_, fun k hk => ?_, h.be.trans (hK.below h.be.size hN), fun o ho => ?_, h.ap, fun x hx => wtl_wide (h.giv x hx) hK hKX hY⟩
  · rcases hF k f with f | f
    · exact h.ab k f g
    · have := (h.tb.lt k g).2
      omega
  · rcases hk with hk | hk
    · exact ⟨(h.x k hk).1, Nat.lt_of_lt_of_le (h.x k hk).2 hs⟩
    · refine ⟨?_, (hT.lt k hk).2⟩
      rcases hF k hk with f | f
      · exact hN k f
      · have := h.be.size
        omega
  · obtain ⟨h1, h2, h3⟩ := h.own o ho
    refine ⟨h1.carry (fun k hk => hK.block k (h1.lt k hk).2 (h2 k hk).2.1), fun k hk => ⟨Or.inl (h2 k hk).1, fun f => ?_, (h2 k hk).2.2⟩, fun c hc => body_wide (h3 c hc) hK hKX hY⟩
    rcases hF k f with f | f
    · exact (h2 k hk).2.1 f
    · have := (h1.lt k hk).2
      omega
/-- A row turned. -/
theorem StR.repl {v' : Value} {xs : List Value} {bs : List Bd} (h : StR W X Fa Fb Na Nb a b A B G (o :: O) w) (hown : OwnAt w' W.heap.size o.e v' xs.length xs) (hK : Keep (fun k => o.v.ownBlock = some k) w w')
    (hat : ∀ k, v'.ownBlock = some k → o.v.ownBlock = some k ∨ w.heap.size ≤ k) (hbs : ∀ c ∈ bs, BodyV (fun k => ¬ X k) w c) : StR W (fun k => X k ∨ v'.ownBlock = some k) Fa Fb Na Nb a b A B G (⟨o.e, v', xs, bs⟩ :: O) w' := by
  have hs := hK.size
  obtain ⟨o1, o2, o3⟩ := h.own o (List.mem_cons_self ..)
  obtain ⟨p1, p2⟩ := List.pairwise_cons.1 h.ap
  have hY : ∀ k, k < w.heap.size → (X k ∨ v'.ownBlock = some k) → X k := fun k hk f => f.elim id (fun f => (hat k f).elim (fun e => (o2 k e).1) (fun l => by omega))
  have hKX : ∀ k, k < w.heap.size → o.v.ownBlock = some k → X k := fun k _ f => (o2 k f).1
  refine ⟨(h.ta.wide (fun k f => Or.inl (h.ta.x k f)) hY).keep hK (fun k f g => (o2 k g).2.1 f) (fun k hk f => Or.inl (hKX k hk f)), (h.tb.wide (fun k f => Or.inl (h.tb.x k f)) hY).keep hK (fun k f g => (o2 k g).2.2 f) (fun k hk f => Or.inl (hKX k hk f)), h.ab, fun k hk => ?_,
    h.be.trans (hK.below h.be.size (fun k hk => (h.x k (o2 k hk).1).1)), fun q hq => ?_, List.pairwise_cons.2 ⟨fun q hq k hk e => ?_, p2⟩, fun x hx => wtl_wide (h.giv x hx) hK hKX hY⟩
  · rcases hk with hk | hk
    · exact ⟨(h.x k hk).1, Nat.lt_of_lt_of_le (h.x k hk).2 hs⟩
    · exact hown.lt k hk
  · rcases List.mem_cons.1 hq with rfl | hq
    · refine ⟨hown, fun k hk => ⟨Or.inr hk, fun f => ?_, fun f => ?_⟩, fun c hc => body_wide (hbs c hc) hK hKX hY⟩
      · rcases hat k hk with e | e
        · exact (o2 k e).2.1 f
        · have := (h.ta.lt k f).2
          omega
      · rcases hat k hk with e | e
        · exact (o2 k e).2.2 f
        · have := (h.tb.lt k f).2
          omega
    · obtain ⟨q1, q2, q3⟩ := h.own q (List.mem_cons_of_mem _ hq)
      exact ⟨q1.carry (fun k hk => hK.block k (q1.lt k hk).2 (fun e => p1 q hq k e hk)), fun k hk => ⟨Or.inl (q2 k hk).1, (q2 k hk).2⟩, fun c hc => body_wide (q3 c hc) hK hKX hY⟩
  · rcases hat k hk with f | f
    · exact p1 q hq k f e
    · have := ((h.own q (List.mem_cons_of_mem _ hq)).1.lt k e).2
      omega

theorem St.below (h : St W a b A B G O w) (hb : Below w.heap.size w w') : St W a b A B G O w' := by
  obtain ⟨X, Fa, Fb, Na, Nb, h⟩ := h
  exact ⟨X, Fa, Fb, Na, Nb, h.below hb⟩
theorem St.drewN (h : St W a b A B G O w) (k : Nat) : St W a b A B G O (w.drewN k) := h.below ⟨rfl, rfl, rfl, Nat.le_refl _, fun _ _ => rfl⟩
theorem St.swap (h : St W a b A B G O w) : St W b a B A G O w := by
  obtain ⟨X, Fa, Fb, Na, Nb, h⟩ := h
  exact ⟨X, Fb, Fa, Nb, Na, h.swap⟩
theorem St.perm (h : St W a b A B G O w) (hp : O.Perm O') : St W a b A B G O' w := by
  obtain ⟨X, Fa, Fb, Na, Nb, h⟩ := h
  exact ⟨X, Fa, Fb, Na, Nb, h.perm hp⟩
theorem St.sub (h : St W a b A B G O w) (hs : O'.Sublist O) (hg : ∀ x ∈ G', x ∈ G) : St W a b A B G' O' w := by
  obtain ⟨X, Fa, Fb, Na, Nb, h⟩ := h
  exact ⟨X, Fa, Fb, Na, Nb, h.sub hs hg⟩
theorem St.nil (h : St W a b A B G O w) (e : TypeId) : St W a b A B G (⟨e, .slice none 0 0, [], []⟩ :: O) w := by
  obtain ⟨X, Fa, Fb, Na, Nb, h⟩ := h
  exact ⟨X, Fa, Fb, Na, Nb, h.nil e⟩
theorem St.be (h : St W a b A B G O w) : Below W.heap.size W w := by
  obtain ⟨X, Fa, Fb, Na, Nb, h⟩ := h
  exact h.be
theorem St.own (h : St W a b A B G O w) (ho : o ∈ O) : OwnAt w W.heap.size o.e o.v o.xs.length o.xs := by
  obtain ⟨X, Fa, Fb, Na, Nb, h⟩ := h
  exact (h.own o ho).1
theorem St.body (h : St W a b A B G O w) (ho : o ∈ O) {d : Bd} (hd : d ∈ o.bs) : BodyV (fun _ => True) w d := by
  obtain ⟨X, Fa, Fb, Na, Nb, h⟩ := h
  exact ((h.own o ho).2.2 d hd).mono (fun _ _ _ => trivial)
theorem St.giv (h : St W a b A B G O w) {x : Value × List Bd} (hx : x ∈ G) : WtL (fun _ => True) w x.1 x.2 := by
  obtain ⟨X, Fa, Fb, Na, Nb, h⟩ := h
  exact (h.giv x hx).mono (fun _ _ _ => trivial)
/-- A row in the midst of the others turned: append, or another one in its stead; its bodies are its own or were given. -/
theorem St.repl {v' : Value} {xs : List Value} {bs : List Bd} (h : St W a b A B G (P ++ o :: Q) w) (hown : OwnAt w' W.heap.size o.e v' xs.length xs) (hK : Keep (fun k => o.v.ownBlock = some k) w w')
    (hat : ∀ k, v'.ownBlock = some k → o.v.ownBlock = some k ∨ w.heap.size ≤ k) (hbs : ∀ c ∈ bs, c ∈ o.bs ∨ ∃ x ∈ G, c ∈ x.2) : St W a b A B G (P ++ ⟨o.e, v', xs, bs⟩ :: Q) w' := by
  obtain ⟨X, Fa, Fb, Na, Nb, h⟩ := h
  have h2 := h.perm List.perm_middle
  exact ⟨_, _, _, _, _, (h2.repl (bs := bs) hown hK hat (fun c hc => by
    rcases hbs c hc with hc | ⟨x, hx, hc⟩
    · exact (h2.own o (List.mem_cons_self ..)).2.2 c hc
    · obtain ⟨_, _, _, _, hB⟩ := h2.giv x hx
      exact hB c hc)).perm List.perm_middle.symm⟩

theorem StR.op {ret : Value → Value} {ss : List ByteArray} {E : Ending} (h : StR W X Fa Fb Na Nb a b A B G O w) (hp : TiePost w Na a Fa X A' ret ss E w') : ∃ a' cap L, E = .returned (ret (.slice a' ss.length cap)) ∧ L.map Bd.s = ss ∧ St W a b A' B ((.slice a' ss.length cap, L) :: G) O w' := by
  obtain ⟨F', a', cap, he, hT, hK, hF, hW⟩ := hp
  obtain ⟨L, hL, hw⟩ := hW.list
  have h2 := h.left hT hK hF
  exact ⟨a', cap, L, he, hL, _, _, _, _, _, ⟨h2.ta, h2.tb, h2.ab, h2.x, h2.be, h2.own, h2.ap, fun x hx => by
    rcases List.mem_cons.1 hx with rfl | hx
    · exact hw
    · exact h2.giv x hx⟩⟩
theorem st_push {Z : Nat → Prop} {d : Bd} {r : Bool} (h : St W a b A B G O w) (ho : A.s.ok n) (hn : n ≤ 500) (hb : BodyV Z w d) (hbs : d.s.size ≤ 30000) :
    Calls Try.prog 9 #[.pointer (some ⟨a, 0, none⟩), .slice d.a d.s.size d.c, .bool r] w fun E w' => ∃ a' cap L, E = .returned (.tuple #[.slice a' (A.pushO r d.s).length cap, .bool (A.s.room r)]) ∧ L.map Bd.s = A.pushO r d.s ∧ St W a b (A.push r d.s) B ((.slice a' (A.pushO r d.s).length cap, L) :: G) O w' := by
  obtain ⟨X, Fa, Fb, Na, Nb, h⟩ := h
  exact (tie_push h.ta (fun k hk => (h.x k hk).2) ho hn hb hbs).mono fun E w' hp => h.op hp
theorem st_tick (h : St W a b A B G O w) (ho : A.s.ok n) (hn : n ≤ 500) :
    Calls Try.prog 13 #[.pointer (some ⟨a, 0, none⟩)] w fun E w' => ∃ a' cap L, E = .returned (.slice a' A.tickO.length cap) ∧ L.map Bd.s = A.tickO ∧ St W a b A.tick B ((.slice a' A.tickO.length cap, L) :: G) O w' := by
  obtain ⟨X, Fa, Fb, Na, Nb, h⟩ := h
  exact (tie_tick h.ta (fun k hk => (h.x k hk).2) ho hn).mono fun E w' hp => h.op hp
theorem st_hear {Z : Nat → Prop} {d : Bd} (h : St W a b A B G O w) (ho : A.s.ok n) (hn : n ≤ 500) (hd : A.d.ok c) (hc : c < 1000) (hb : BodyV Z w d) (hl : d.s.size ≤ 1000000) :
    Calls Try.prog 8 #[.pointer (some ⟨a, 0, none⟩), bdV d] w fun E w' => ∃ au cu Lu ad cd Ld, E = .returned (.tuple #[.slice au (A.up (okB d.s) (gotB d.s)).length cu, .slice ad (A.down (okB d.s) (gotB d.s)).length cd, .int .i64 (if okB d.s then 0 else 2)]) ∧
      Lu.map Bd.s = A.up (okB d.s) (gotB d.s) ∧ Ld.map Bd.s = A.down (okB d.s) (gotB d.s) ∧
      St W a b (A.hear (okB d.s) (gotB d.s)) B ((.slice au (A.up (okB d.s) (gotB d.s)).length cu, Lu) :: (.slice ad (A.down (okB d.s) (gotB d.s)).length cd, Ld) :: G) O w' := by
  obtain ⟨X, Fa, Fb, Na, Nb, h⟩ := h
  refine (tie_hear h.ta (fun k hk => (h.x k hk).2) ho hn hd hc hb hl).mono fun E w' hp => ?_
  obtain ⟨F', au, cu, ad, cd, he, hT, hK, hF, hU, hD⟩ := hp
  obtain ⟨Lu, hLu, hU⟩ := hU.list
  obtain ⟨Ld, hLd, hD⟩ := hD.list
  have h2 := h.left hT hK hF
  exact ⟨au, cu, Lu, ad, cd, Ld, he, hLu, hLd, _, _, _, _, _, ⟨h2.ta, h2.tb, h2.ab, h2.x, h2.be, h2.own, h2.ap, fun x hx => by
    rcases List.mem_cons.1 hx with rfl | hx
    · exact hU
    · rcases List.mem_cons.1 hx with rfl | hx
      · exact hD
      · exact h2.giv x hx⟩⟩
theorem st_quiet {q : Bool} (h : St W a b A B G O w) (ho : A.s.ok n) (hn : n ≤ 500) (hd : A.d.ok c) (hq : decide (A.s.out.length = 0 ∧ A.s.waits.length = 0 ∧ A.d.held.length = 0) = q) :
    Calls Try.prog 10 #[.pointer (some ⟨a, 0, none⟩)] w fun E w' => E = .returned (.bool q) ∧ St W a b A B G O w' := by
  obtain ⟨X, Fa, Fb, Na, Nb, h⟩ := h
  exact (tie_quiet h.ta ho hn hd hq).mono fun E w' hp => ⟨hp.1, _, _, _, _, _, h.below hp.2⟩
end

/-- Two new ones. -/
theorem st_new {W w0 w1 w2 : World} {a b : Nat} {A B : Te} {Fa Fb : Nat → Prop} (hB0 : Below W.heap.size W w0) (ha : ∀ X : Nat → Prop, (∀ k, Fa k → X k) → TieAt Fa X w1 w0.heap.size a A) (h1 : Below w0.heap.size w0 w1)
    (hb : ∀ X : Nat → Prop, (∀ k, Fb k → X k) → TieAt Fb X w2 w1.heap.size b B) (h2 : Below w1.heap.size w1 w2) : St W a b A B [] [] w2 := by
  have hA := ha (fun k => Fa k ∨ Fb k) (fun k h => Or.inl h)
  have hB := hb (fun k => Fa k ∨ Fb k) (fun k h => Or.inr h)
  have hs0 := hB0.size
  have hs1 := h1.size
  have hs2 := h2.size
  refine ⟨fun k => Fa k ∨ Fb k, Fa, Fb, _, _, hA.below h2, hB, fun k f g => ?_, fun k hk => ?_, (hB0.trans (h1.mono hs0)).trans (h2.mono (by omega)), fun o ho => (by cases ho), List.Pairwise.nil, fun x hx => by cases hx⟩
  · have := (hA.lt k f).2
    have := (hB.lt k g).1
    omega
  · rcases hk with hk | hk
    · have := hA.lt k hk
      omega
    · have := hB.lt k hk
      omega

end Go.Proofs.Ytfbojcaedcimcaa

/-
  Rows of frames, rows of strings: read, appended.
-/
namespace Go.Proofs.Ytfbojcaedcimcaa
open Go.RowKit

def frO (v : Value) (L : List Bd) : Orow := ⟨30, v, L.map bdV, L⟩
def stO (v : Value) (ss : List ByteArray) : Orow := ⟨9, v, ss.map Value.string, []⟩
theorem Try.infoTs : (Try.prog.info? 9).map (fun i => (i.zero, i.size, i.bytes)) = some (some (.string ⟨#[]⟩), 1, 16) := by kernel_rfl

theorem OwnAt.form2 {w : World} {base n : Nat} {e : TypeId} {v : Value} {xs : List Value} (h : OwnAt w base e v n xs) : ∃ a cap, v = .slice a n cap ∧ n ≤ cap ∧ cap ≤ maxLen ∧ ∀ j u, xs[j]? = some u → ∃ g off, a = some ⟨g, off, none⟩ ∧ w.cell? ⟨g, off + j, none⟩ = some u := by
  have h0 := h
  rcases h.2 with ⟨rfl, rfl⟩ | ⟨g, off, cap, cur, rfl, h2, h3, h4, h5, h6, h7⟩
  · refine ⟨none, 0, rfl, Nat.le_refl _, by unfold maxLen; omega, fun j u hj => ?_⟩
    obtain rfl : xs = [] := List.eq_nil_of_length_eq_zero h.1
    cases hj
  · refine ⟨_, cap, rfl, h4, h5, fun j u hj => ⟨g, off, rfl, ?_⟩⟩
    have := h0.cells j u hj
    rwa [Addr.add_lit] at this

section
variable {W w w' w1 : World} {a b n c : Nat} {A B : Te} {G : List (Value × List Bd)} {O P Q : List Orow} {v v' : Value} {L Lx : List Bd} {ss : List ByteArray} {s : ByteArray}
theorem St.fr (h : St W a b A B G O w) (ho : frO v L ∈ O) : OwnAt w W.heap.size 30 v L.length (L.map bdV) := by
  have := h.own ho
  unfold frO at this
  dsimp only at this
  rwa [List.length_map] at this
theorem St.st (h : St W a b A B G O w) (ho : stO v ss ∈ O) : OwnAt w W.heap.size 9 v ss.length (ss.map Value.string) := by
  have := h.own ho
  unfold stO at this
  dsimp only at this
  rwa [List.length_map] at this
/-- What lies at a place of a row of frames. -/
theorem St.frAt (h : St W a b A B G O w) {ao : Option Addr} {m cap : Nat} (ho : frO (.slice ao m cap) L ∈ O) {i : Nat} (hi : i < L.length) :
    ∃ g off, ao = some ⟨g, off, none⟩ ∧ w.cell? ⟨g, off + i, none⟩ = some (.slice L[i].a L[i].s.size L[i].c) ∧ BodyV (fun _ => True) w L[i] := by
  obtain ⟨a2, c2, e, _, _, hc⟩ := (h.fr ho).form2
  cases e
  obtain ⟨g, off, e, hc⟩ := hc i (bdV L[i]) (by rw [List.getElem?_map, List.getElem?_eq_getElem hi]; rfl)
  exact ⟨g, off, e, hc, h.body ho (List.getElem_mem _)⟩
theorem St.stAt (h : St W a b A B G O w) {ao : Option Addr} {m cap : Nat} (ho : stO (.slice ao m cap) ss ∈ O) {i : Nat} (hi : i < ss.length) :
    ∃ g off, ao = some ⟨g, off, none⟩ ∧ w.cell? ⟨g, off + i, none⟩ = some (.string ss[i]) := by
  obtain ⟨a2, c2, e, _, _, hc⟩ := (h.st ho).form2
  cases e
  exact hc i (.string ss[i]) (by rw [List.getElem?_map, List.getElem?_eq_getElem hi]; rfl)
/-- A row that was given: read. -/
theorem St.gv (h : St W a b A B G O w) {ao : Option Addr} {m cap : Nat} (hx : (.slice ao m cap, L) ∈ G) :
    L.length = m ∧ (ao = none → m = 0 ∧ cap = 0) ∧ (∀ ad, ao = some ad → ∀ j u, (L.map bdV)[j]? = some u → w.cell? (ad.add j) = some u) ∧
      ∀ i (hi : i < L.length), ∃ g off, ao = some ⟨g, off, none⟩ ∧ w.cell? ⟨g, off + i, none⟩ = some (.slice L[i].a L[i].s.size L[i].c) ∧ BodyV (fun _ => True) w L[i] := by
  obtain ⟨a2, c2, e, hr, hB⟩ := h.giv hx
  dsimp only at e hr hB
  cases e
  refine ⟨rfl, hr.empty, hr.news, fun i hi => ?_⟩
  obtain ⟨g, off, e, _, _, hc⟩ := hr.cell i (bdV L[i]) (by rw [List.getElem?_map, List.getElem?_eq_getElem hi]; rfl)
  exact ⟨g, off, e, hc, hB _ (List.getElem_mem _)⟩
theorem one_bdV (L : List Bd) : ∀ u ∈ L.map bdV, u.oneCell' = true := by
  intro u hu
  obtain ⟨b, _, rfl⟩ := List.mem_map.1 hu
  rfl
/-- What was given is appended. -/
theorem St.appF {u : Value} {m : Nat} (h : St W a b A B G (P ++ frO v L :: Q) w) (hx : (u, Lx) ∈ G) (hm : Lx.length = m) (hown : OwnAt w' W.heap.size 30 v' (L.length + m) (L.map bdV ++ Lx.map bdV)) (hgr : w.grownBy w' v.ownBlock)
    (hat : ∀ k, v'.ownBlock = some k → v.ownBlock = some k ∨ w.heap.size ≤ k) : St W a b A B G (P ++ frO v' (L ++ Lx) :: Q) w' := by
  have hK : Keep (fun k => v.ownBlock = some k) w w' := (Keep.refl _ w).grown hgr (fun k e => Or.inl e)
  have := h.repl (o := frO v L) (v' := v') (xs := (L ++ Lx).map bdV) (bs := L ++ Lx) (by rw [List.length_map, List.length_append, List.map_append, hm]; exact hown) hK hat (fun c hc => by
    rcases List.mem_append.1 hc with hc | hc
    · exact Or.inl hc
    · exact Or.inr ⟨_, hx, hc⟩)
  exact this
/-- A string is appended. -/
theorem St.appS (h : St W a b A B G (P ++ stO v ss :: Q) w) (hown : OwnAt w' W.heap.size 9 v' (ss.length + 1) (ss.map Value.string ++ [.string s])) (hgr : w.grownBy w' v.ownBlock)
    (hat : ∀ k, v'.ownBlock = some k → v.ownBlock = some k ∨ w.heap.size ≤ k) : St W a b A B G (P ++ stO v' (ss ++ [s]) :: Q) w' := by
  have hK : Keep (fun k => v.ownBlock = some k) w w' := (Keep.refl _ w).grown hgr (fun k e => Or.inl e)
  exact h.repl (o := stO v ss) (v' := v') (xs := (ss ++ [s]).map Value.string) (bs := []) (by rw [List.length_map, List.length_append, List.map_append]; exact hown) hK hat (fun c hc => by cases hc)
theorem St.nilF (h : St W a b A B G O w) : St W a b A B G (frO (.slice none 0 0) [] :: O) w := h.nil _
theorem St.nilS (h : St W a b A B G O w) : St W a b A B G (stO (.slice none 0 0) [] :: O) w := h.nil _
theorem St.nle (h : St W a b A B G O w) : W.heap.size ≤ w.heap.size := h.be.size

/-- A string is pushed, as bytes of its own. -/
theorem st_pushs {r : Bool} (h : St W a b A B G O w) (ho : A.s.ok n) (hn : n ≤ 500) (hs : s.size ≤ 30000) :
    Calls Try.prog 9 #[.pointer (some ⟨a, 0, none⟩), .slice (some ⟨w.heap.size, 0, none⟩) s.size (grownCap w s.size 0 5), .bool r] (Lib.bytesWorld w 5 s) fun E w' => ∃ a' cap L, E = .returned (.tuple #[.slice a' (A.pushO r s).length cap, .bool (A.s.room r)]) ∧ L.map Bd.s = A.pushO r s ∧ St W a b (A.push r s) B ((.slice a' (A.pushO r s).length cap, L) :: G) O w' :=
  st_push (d := ⟨some ⟨w.heap.size, 0, none⟩, grownCap w s.size 0 5, s⟩) (h.below (below_new w s)) ho hn (body_new w s (by omega)) hs
end

section
variable {W w : World} {a b : Nat} {A B : Te} {G : List (Value × List Bd)} {P Q O : List Orow} {o o' : Orow}
theorem St.pull (h : St W a b A B G (P ++ o :: Q) w) : St W a b A B G (o :: (P ++ Q)) w := h.perm List.perm_middle
theorem St.put (h : St W a b A B G (o :: (P ++ Q)) w) : St W a b A B G (P ++ o :: Q) w := h.perm List.perm_middle.symm
theorem St.sw (h : St W a b A B G (o :: o' :: O) w) : St W a b A B G (o' :: o :: O) w := h.perm (List.Perm.swap ..)
theorem St.drop (h : St W a b A B G (P ++ o :: Q) w) : St W a b A B G (P ++ Q) w := h.sub ((List.sublist_cons_self o Q).append_left P) (fun _ h => h)
theorem St.noG (h : St W a b A B G O w) : St W a b A B [] O w := h.sub (List.Sublist.refl _) (fun _ h => by cases h)
end

theorem len_M : ∀ M : List Ms, M.length = (dM M).length + (aM M).length
  | [] => rfl
  | m :: t => by
    have h := len_M t
    obtain ⟨a, k, s⟩ := m
    cases a
    · show t.length + 1 = (dM t).length + 1 + (aM t).length
      omega
    · show t.length + 1 = (dM t).length + ((aM t).length + 1)
      omega

end Go.Proofs.Ytfbojcaedcimcaa

/-
  The first of a row lost, doubled, held back.
-/
namespace Go.Proofs.Ytfbojcaedcimcaa
open Go.RowKit

/-- The row, turned: by the pick's rest. -/
def turnL {α : Type} (p : Int) : List α → List α
  | [] => []
  | x :: t => if p.tmod 4 = 1 then t else if p.tmod 4 = 2 then (x :: t) ++ [x] else if p.tmod 4 = 3 then t ++ [x] else x :: t
theorem turnL_cons {α : Type} (p : Int) (x : α) (t : List α) : turnL p (x :: t) = if p.tmod 4 = 1 then t else if p.tmod 4 = 2 then (x :: t) ++ [x] else if p.tmod 4 = 3 then t ++ [x] else x :: t := rfl
theorem turnL_map {α β : Type} (f : α → β) (p : Int) : ∀ l : List α, (turnL p l).map f = turnL p (l.map f)
  | [] => rfl
  | x :: t => by
    rw [List.map_cons, turnL_cons, turnL_cons]
    split
    · rfl
    · split
      · rw [List.map_append]; rfl
      · split
        · rw [List.map_append]; rfl
        · rfl
theorem turnL_mem {α : Type} {p : Int} {y : α} : ∀ {l : List α}, y ∈ turnL p l → y ∈ l
  | [], h => h
  | x :: t, h => by
    rw [turnL_cons] at h
    split at h
    · exact List.mem_cons_of_mem _ h
    · split at h
      · rcases List.mem_append.1 h with h | h
        · exact h
        · rw [List.mem_singleton.1 h]; exact List.mem_cons_self ..
      · split at h
        · rcases List.mem_append.1 h with h | h
          · exact List.mem_cons_of_mem _ h
          · rw [List.mem_singleton.1 h]; exact List.mem_cons_self ..
        · exact h
theorem turnL_len {α : Type} (p : Int) : ∀ l : List α, (turnL p l).length ≤ l.length + 1
  | [] => Nat.zero_le _
  | x :: t => by
    rw [turnL_cons]
    split
    · simp; omega
    · split
      · simp
      · split
        · simp
        · simp
theorem turnL_none {α : Type} {p : Int} (h : p.tmod 4 = 0) : ∀ l : List α, turnL p l = l
  | [] => rfl
  | x :: t => by
    rw [turnL_cons, h]
    rfl

/-- What turn leaves. -/
def TurnPost (W : World) (N : Nat) (v : Value) (L : List Bd) (e : Ending) (w : World) : Prop :=
  ∃ a cap, e = .returned (.slice a L.length cap) ∧ OwnAt w N 30 (.slice a L.length cap) L.length (L.map bdV) ∧ Below W.heap.size W w ∧ ∀ k, (Value.slice a L.length cap).ownBlock = some k → v.ownBlock = some k ∨ W.heap.size ≤ k

theorem emp_own {w : World} {e : TypeId} {g N : Nat} (h : w.heap[g]? = some (.cells #[] e (0, 0))) (hN : N ≤ g) : OwnAt w N e (.slice (some ⟨g, 0, none⟩) 0 0) 0 [] :=
  ⟨rfl, Or.inr ⟨g, 0, 0, #[], rfl, hN, h, Nat.le_refl _, by unfold maxLen; omega, Nat.le_refl _, rfl⟩⟩

theorem OwnAt.base {w : World} {base base' n : Nat} {e : TypeId} {v : Value} {xs : List Value} (h : OwnAt w base e v n xs) (hb : base' ≤ base) : OwnAt w base' e v n xs :=
  ⟨h.1, h.2.imp id fun ⟨g, off, cap, cur, h1, h2, h3⟩ => ⟨g, off, cap, cur, h1, Nat.le_trans hb h2, h3⟩⟩
theorem turn_done {W w3 : World} {N n : Nat} {v : Value} {L : List Bd} {a3 : Option Addr} {cap3 : Nat} {xs : List Value} (hN : N ≤ W.heap.size) (hown : OwnAt w3 W.heap.size 30 (.slice a3 n cap3) n xs) (hb : Below W.heap.size W w3) (hl : L.length = n) (hx : L.map bdV = xs) :
    TurnPost W N v L (.returned (.slice a3 n cap3)) w3 := by
  subst hl hx
  exact ⟨a3, cap3, rfl, hown.base hN, hb, fun k hk => Or.inr (hown.lt k hk).1⟩

set_option maxRecDepth 20000 in
set_option maxHeartbeats 8000000 in
theorem turn_any {W : World} {N : Nat} {v : Value} {L : List Bd} (p : Int) (h : OwnAt W N 30 v L.length (L.map bdV)) (hl : L.length ≤ 100000) (hN : N ≤ W.heap.size) :
    Calls Try.prog 14 #[v, .int .i64 p] W (TurnPost W N v (turnL p L)) := by
  obtain ⟨i0, hi0, hz0, hz1, hz2⟩ := info_g Try.infoBs
  obtain ⟨a, cap, rfl, hf, hm, hc⟩ := h.form2
  have H := Lib.hid h
  cases L with
  | nil =>
    have P := Lib.hid (show TurnPost W N (.slice a 0 cap) [] (.returned (.slice a 0 cap)) W from ⟨a, cap, rfl, h, Below.refl _ _, fun k hk => Or.inl hk⟩)
    clear h hc
    go_enter Try.func14, Try.ntmps14
    go_wp2_with fail
    go_ret
    exact P.out
  | cons x t =>
    obtain ⟨g, off, rfl, c0⟩ := hc 0 (bdV x) rfl
    obtain ⟨n, hn⟩ : ∃ n, (x :: t).length = n := ⟨_, rfl⟩
    have hn1 : t.length + 1 = n := hn
    have e0 : ((n : Int) == 0) = false := by simp; omega
    have e0' : (n == 0) = false := by simp; omega
    have hc0 : W.cell? ⟨g, off, none⟩ = some (.slice x.a x.s.size x.c) := c0
    obtain ⟨k, hk⟩ : ∃ k, t.length = k := ⟨_, rfl⟩
    obtain rfl : k + 1 = n := by omega
    rw [hn] at H h hf ⊢
    obtain ⟨z, hz⟩ : ∃ z, p.tmod 4 = z := ⟨_, rfl⟩
    have hkl : k ≤ 99999 := by have : (x :: t).length ≤ 100000 := hl; omega
    have hT : turnL p (x :: t) = if z = 1 then t else if z = 2 then (x :: t) ++ [x] else if z = 3 then t ++ [x] else x :: t := by unfold turnL; rw [hz]
    have hr : OwnAt W N 30 (.slice (some ⟨g, if cap = 1 then off else off + 1, none⟩) k (cap - 1)) k (t.map bdV) := OwnAt.tail (n := k) h
    have c1 : (0 : Int) < ((k + 1 : Nat) : Int) := by omega
    have d1 : (1 : Int) ≤ ((k + 1 : Nat) : Int) := by omega
    have d1' : (1 : Int) ≤ (k : Int) + 1 := by omega
    have EA := Lib.hid (show OwnAt (W.alloc (.cells #[] 30)).drew W.heap.size 30 (.slice (some ⟨W.heap.size, 0, none⟩) 0 0) 0 [] from emp_own (heap_alloc_new W _) (Nat.le_refl _))
    have EB := Lib.hid (show OwnAt ((W.alloc (.cells #[] 30)).alloc (.cells #[.slice x.a x.s.size x.c] 30)).drew W.heap.size 30 (.slice (some ⟨W.heap.size, 0, none⟩) 0 0) 0 [] from emp_own ((Below.heap_alloc _ _ _ (by simp)).trans (heap_alloc_new W _)) (Nat.le_refl _))
    have EC := Lib.hid (show OwnAt ((W.alloc (.cells #[.slice x.a x.s.size x.c] 30)).alloc (.cells #[] 30)).drew W.heap.size 30 (.slice (some ⟨W.heap.size + 1, 0, none⟩) 0 0) 0 [] from emp_own (by have := heap_alloc_new (W.alloc (.cells #[.slice x.a x.s.size x.c] 30)) (.cells #[] 30); rw [World.size_alloc] at this; exact this) (Nat.le_succ _))
    have BA := Lib.hid (show Below W.heap.size W (W.alloc (.cells #[] 30)).drew from ((Below.refl _ _).alloc (Nat.le_refl _) _).drew)
    have BB := Lib.hid (show Below W.heap.size W ((W.alloc (.cells #[] 30)).alloc (.cells #[.slice x.a x.s.size x.c] 30)).drew from (((Below.refl _ _).alloc (Nat.le_refl _) _).alloc (by simp) _).drew)
    have BC := Lib.hid (show Below W.heap.size W ((W.alloc (.cells #[.slice x.a x.s.size x.c] 30)).alloc (.cells #[] 30)).drew from (((Below.refl _ _).alloc (Nat.le_refl _) _).alloc (by simp) _).drew)
    have XB := Lib.hid (show ∀ (j : Nat) (u : Value), [Value.slice x.a x.s.size x.c][j]? = some u → ((W.alloc (.cells #[] 30)).alloc (.cells #[.slice x.a x.s.size x.c] 30)).drew.cell? (Addr.add ⟨W.heap.size + 1, 0, none⟩ j) = some u from fun j u hu => by have := World.news_of_block (cs := #[.slice x.a x.s.size x.c]) (fr := (0, 0)) (heap_alloc_new (W.alloc (.cells #[] 30)) (.cells #[.slice x.a x.s.size x.c] 30)) j u (by simpa using hu); rw [World.size_alloc] at this; exact this)
    have XC := Lib.hid (show ∀ (j : Nat) (u : Value), [Value.slice x.a x.s.size x.c][j]? = some u → ((W.alloc (.cells #[.slice x.a x.s.size x.c] 30)).alloc (.cells #[] 30)).drew.cell? (Addr.add ⟨W.heap.size, 0, none⟩ j) = some u from fun j u hu => (World.cell?_of_block (w := W.alloc (.cells #[.slice x.a x.s.size x.c] 30)) (a := Addr.add ⟨W.heap.size, 0, none⟩ j) (Below.heap_alloc _ _ _ (by rw [Addr.add_lit]; simp))).trans (World.news_of_block (cs := #[.slice x.a x.s.size x.c]) (fr := (0, 0)) (heap_alloc_new W (.cells #[.slice x.a x.s.size x.c] 30)) j u (by simpa using hu)))
    have CE := Lib.hid (fun (w' : World) (hb : Below W.heap.size W w') => (h.carry (w' := w') (fun k hk => hb.block k (h.lt k hk).2)).cells)
    have CT := Lib.hid (fun (w' : World) (hb : Below W.heap.size W w') (A : Nat) (hA : A = (if cap = 1 then off else off + 1)) => (show ∀ j u, (t.map bdV)[j]? = some u → w'.cell? (Addr.add ⟨g, A, none⟩ j) = some u from by subst hA; exact (hr.carry (w' := w') (fun k hk => hb.block k (hr.lt k hk).2)).cells))
    have z0 : ∀ w', Below W.heap.size W w' → w'.cell? ⟨g, off, none⟩ = some (.slice x.a x.s.size x.c) := fun w' hb => cell_go hc0 hb
    have q1 : (W.drew).cell? ⟨g, off, none⟩ = some (.slice x.a x.s.size x.c) := hc0
    have q2 : (W.alloc (.cells #[] 30)).cell? ⟨g, off, none⟩ = some (.slice x.a x.s.size x.c) := z0 _ ((Below.refl _ _).alloc (Nat.le_refl _) _)
    have q3 : (W.alloc (.cells #[] 30)).drew.cell? ⟨g, off, none⟩ = some (.slice x.a x.s.size x.c) := q2
    have LN0 := hn
    clear hl hn H z0
    by_cases h1 : z = 1
    · subst h1
      rw [hT, if_pos rfl]
      by_cases hc1 : cap = 1
      · subst hc1
        obtain rfl : k = 0 := by omega
        have P := Lib.hid (show TurnPost W N (.slice (some ⟨g, off, none⟩) 1 1) t (.returned (.slice (some ⟨g, off, none⟩) 0 0)) W from ⟨some ⟨g, off, none⟩, 0, by rw [hk], by rw [hk]; exact hr, Below.refl _ _, fun k hk => Or.inl hk⟩)
        clear hr h hc LN0 EA EB EC BA BB BC XB XC CE CT
        go_enter Try.func14, Try.ntmps14
        go_wp2_with fail
        go_ret
        exact P.out
      · rw [if_neg hc1] at hr
        have P := Lib.hid (show TurnPost W N (.slice (some ⟨g, off, none⟩) (k + 1) cap) t (.returned (.slice (some ⟨g, off + 1, none⟩) k (cap - 1))) W from ⟨some ⟨g, off + 1, none⟩, cap - 1, by rw [hk], by rw [hk]; exact hr, Below.refl _ _, fun k hk => Or.inl hk⟩)
        clear hr h hc LN0 EA EB EC BA BB BC XB XC CE CT
        go_enter Try.func14, Try.ntmps14
        go_wp2_with fail
        go_ret
        simpa using P.out
    have z1 : (z == 1) = false := by simp; exact h1
    by_cases h2 : z = 2
    · subst h2
      rw [hT, if_neg (by decide), if_pos rfl]
      have LN := Lib.hid (show ((x :: t).map bdV).length = k + 1 by rw [List.length_map, LN0])
      clear hr hT CT
      go_enter Try.func14, Try.ntmps14
      have DN := Lib.hid (fun (a3 : Option Addr) (cap3 : Nat) (w3 : World) (hown : OwnAt w3 W.heap.size 30 (.slice a3 (0 + (k + 1) + 1) cap3) (0 + (k + 1) + 1) ([] ++ ((x :: t).map bdV) ++ [.slice x.a x.s.size x.c])) (hb : Below W.heap.size W w3) => turn_done (v := .slice (some ⟨g, off, none⟩) (k + 1) cap) (L := (x :: t) ++ [x]) hN hown hb (by rw [List.length_append, List.length_singleton]; have := LN.out; simp only [List.length_cons, List.length_map] at this ⊢; omega) (by rw [List.map_append]; rfl))
      go_wp2_with fail
      go_region_law (first
        | (refine step_append_off rfl (.tmp 17) (.tmp 18) 27 rfl i0 _ 24 Try.underlying27 hi0 hz0 hz1 hz2 rfl (by simp [Act.eval]) EA.out (some ⟨g, off, none⟩) (k + 1) cap ((x :: t).map bdV) (by simp [Act.eval]) LN.out (fun e => by cases e) (fun ad e => by cases e; exact CE.out _ BA.out) (one_bdV (x :: t)) (by unfold maxLen; omega) (by omega) BA.out.size ?_; intro a2 cap2 w2 hown2 hgr2 hat2; have B2 := Lib.hid (BA.out.grown hgr2 BA.out.size (fun k e => (EA.out.lt k e).1)); have y2 : w2.cell? ⟨g, off, none⟩ = some (.slice x.a x.s.size x.c) := cell_go hc0 B2.out; have OA2 := Lib.hid (hown2.carry (w' := w2.alloc (.cells #[.slice x.a x.s.size x.c] 30)) (fun k hk => Below.heap_alloc _ _ _ (hown2.lt k hk).2)); have NA2 := Lib.hid (show ∀ ad : Addr, some (⟨w2.heap.size, 0, none⟩ : Addr) = some ad → ∀ j u, [Value.slice x.a x.s.size x.c][j]? = some u → (w2.alloc (.cells #[.slice x.a x.s.size x.c] 30)).cell? (ad.add j) = some u from fun ad e => by cases e; exact World.news_of_block (heap_alloc_new _ _)); clear hown2 hgr2 hat2)
        | (refine step_append_off rfl (.tmp 17) (.tmp 18) 27 rfl i0 _ 24 Try.underlying27 hi0 hz0 hz1 hz2 rfl (by simp [Act.eval]) EB.out (some ⟨g, off, none⟩) (k + 1) cap ((x :: t).map bdV) (by simp [Act.eval]) LN.out (fun e => by cases e) (fun ad e => by cases e; exact CE.out _ BB.out) (one_bdV (x :: t)) (by unfold maxLen; omega) (by omega) BB.out.size ?_; intro a2 cap2 w2 hown2 hgr2 hat2; have B2 := Lib.hid (BB.out.grown hgr2 BB.out.size (fun k e => (EB.out.lt k e).1)); have y2 : w2.cell? ⟨g, off, none⟩ = some (.slice x.a x.s.size x.c) := cell_go hc0 B2.out; have OB2 := Lib.hid hown2; have NB2 := Lib.hid (show ∀ ad : Addr, some (⟨W.heap.size + 1, 0, none⟩ : Addr) = some ad → ∀ j u, [Value.slice x.a x.s.size x.c][j]? = some u → w2.cell? (ad.add j) = some u from fun ad e j u hu => by cases e; have q := XB.out j u hu; rw [Addr.add_lit] at q ⊢; exact (World.cell?_of_block (a := ⟨W.heap.size + 1, 0 + j, none⟩) (hgr2.block (W.heap.size + 1) (by simp; try omega) (fun e => by simp [Value.ownBlock] at e))).trans q); clear hown2 hgr2 hat2)
        | (refine step_append_off rfl (.tmp 17) (.tmp 18) 27 rfl i0 _ 24 Try.underlying27 hi0 hz0 hz1 hz2 rfl (by simp [Act.eval]) EC.out (some ⟨g, off, none⟩) (k + 1) cap ((x :: t).map bdV) (by simp [Act.eval]) LN.out (fun e => by cases e) (fun ad e => by cases e; exact CE.out _ BC.out) (one_bdV (x :: t)) (by unfold maxLen; omega) (by omega) BC.out.size ?_; intro a2 cap2 w2 hown2 hgr2 hat2; have B2 := Lib.hid (BC.out.grown hgr2 BC.out.size (fun k e => (EC.out.lt k e).1)); have y2 : w2.cell? ⟨g, off, none⟩ = some (.slice x.a x.s.size x.c) := cell_go hc0 B2.out; have OC2 := Lib.hid hown2; have NC2 := Lib.hid (show ∀ ad : Addr, some (⟨W.heap.size, 0, none⟩ : Addr) = some ad → ∀ j u, [Value.slice x.a x.s.size x.c][j]? = some u → w2.cell? (ad.add j) = some u from fun ad e j u hu => by cases e; have q := XC.out j u hu; rw [Addr.add_lit] at q ⊢; exact (World.cell?_of_block (a := ⟨W.heap.size, 0 + j, none⟩) (hgr2.block (W.heap.size) (by simp; try omega) (fun e => by simp [Value.ownBlock] at e))).trans q); clear hown2 hgr2 hat2)
        | (refine step_append_off rfl (.tmp 19) (.tmp 23) 27 rfl i0 _ 24 Try.underlying27 hi0 hz0 hz1 hz2 rfl (by simp [Act.eval]) OA2.out (some ⟨w2.heap.size, 0, none⟩) 1 1 [.slice x.a x.s.size x.c] (by simp [Act.eval]) rfl (fun e => by cases e) NA2.out (by simp [Value.oneCell']) (by unfold maxLen; omega) (by omega) (by have := B2.out.size; simp; omega) ?_; intro a3 cap3 w3 hown3 hgr3 hat3; have PP := Lib.hid (DN.out a3 cap3 w3 hown3 ((B2.out.alloc B2.out.size (.cells #[.slice x.a x.s.size x.c] 30)).grown hgr3 (by have := B2.out.size; simp; omega) (fun k e => (OA2.out.lt k e).1))); clear hown3 hgr3 hat3)
        | (refine step_append_off rfl (.tmp 19) (.tmp 23) 27 rfl i0 _ 24 Try.underlying27 hi0 hz0 hz1 hz2 rfl (by simp [Act.eval]) OB2.out (some ⟨W.heap.size + 1, 0, none⟩) 1 1 [.slice x.a x.s.size x.c] (by simp [Act.eval]) rfl (fun e => by cases e) NB2.out (by simp [Value.oneCell']) (by unfold maxLen; omega) (by omega) B2.out.size ?_; intro a3 cap3 w3 hown3 hgr3 hat3; have PP := Lib.hid (DN.out a3 cap3 w3 hown3 (B2.out.grown hgr3 B2.out.size (fun k e => (OB2.out.lt k e).1))); clear hown3 hgr3 hat3)
        | (refine step_append_off rfl (.tmp 19) (.tmp 23) 27 rfl i0 _ 24 Try.underlying27 hi0 hz0 hz1 hz2 rfl (by simp [Act.eval]) OC2.out (some ⟨W.heap.size, 0, none⟩) 1 1 [.slice x.a x.s.size x.c] (by simp [Act.eval]) rfl (fun e => by cases e) NC2.out (by simp [Value.oneCell']) (by unfold maxLen; omega) (by omega) B2.out.size ?_; intro a3 cap3 w3 hown3 hgr3 hat3; have PP := Lib.hid (DN.out a3 cap3 w3 hown3 (B2.out.grown hgr3 B2.out.size (fun k e => (OC2.out.lt k e).1))); clear hown3 hgr3 hat3))
      all_goals go_wp2_with fail
      all_goals (try go_simp)
      all_goals go_wp2_with fail
      all_goals go_ret
      all_goals (have q := PP.out; simp only [Nat.zero_add] at q; exact q)
    have z2 : (z == 2) = false := by simp; exact h2
    by_cases h3 : z = 3
    · subst h3
      rw [hT, if_neg (by decide), if_neg (by decide), if_pos rfl]
      by_cases hc1 : cap = 1
      · subst hc1
        obtain rfl : k = 0 := by omega
        have LN := Lib.hid (show (t.map bdV).length = 0 by rw [List.length_map, hk])
        have CT2 := Lib.hid (fun (w' : World) (hb : Below W.heap.size W w') => CT.out w' hb off rfl)
        clear hr hT CT CE
        go_enter Try.func14, Try.ntmps14
        have DN := Lib.hid (fun (a3 : Option Addr) (cap3 : Nat) (w3 : World) (hown : OwnAt w3 W.heap.size 30 (.slice a3 (0 + 0 + 1) cap3) (0 + 0 + 1) ([] ++ (t.map bdV) ++ [.slice x.a x.s.size x.c])) (hb : Below W.heap.size W w3) => turn_done (v := .slice (some ⟨g, off, none⟩) 1 1) (L := t ++ [x]) hN hown hb (by rw [List.length_append, List.length_singleton]; have := LN.out; simp only [List.length_map] at this ⊢; omega) (by rw [List.map_append]; rfl))
        go_wp2_with fail
        go_region_law (first
          | (refine step_append_off rfl (.tmp 27) (.tmp 29) 27 rfl i0 _ 24 Try.underlying27 hi0 hz0 hz1 hz2 rfl (by simp [Act.eval]) EA.out (some ⟨g, off, none⟩) 0 0 (t.map bdV) (by simp [Act.eval]) LN.out (fun e => by cases e) (fun ad e => by cases e; exact CT2.out _ BA.out) (one_bdV t) (by unfold maxLen; omega) (by omega) BA.out.size ?_; intro a2 cap2 w2 hown2 hgr2 hat2; have B2 := Lib.hid (BA.out.grown hgr2 BA.out.size (fun k e => (EA.out.lt k e).1)); have y2 : w2.cell? ⟨g, off, none⟩ = some (.slice x.a x.s.size x.c) := cell_go hc0 B2.out; have OA2 := Lib.hid (hown2.carry (w' := w2.alloc (.cells #[.slice x.a x.s.size x.c] 30)) (fun k hk => Below.heap_alloc _ _ _ (hown2.lt k hk).2)); have NA2 := Lib.hid (show ∀ ad : Addr, some (⟨w2.heap.size, 0, none⟩ : Addr) = some ad → ∀ j u, [Value.slice x.a x.s.size x.c][j]? = some u → (w2.alloc (.cells #[.slice x.a x.s.size x.c] 30)).cell? (ad.add j) = some u from fun ad e => by cases e; exact World.news_of_block (heap_alloc_new _ _)); clear hown2 hgr2 hat2)
          | (refine step_append_off rfl (.tmp 27) (.tmp 29) 27 rfl i0 _ 24 Try.underlying27 hi0 hz0 hz1 hz2 rfl (by simp [Act.eval]) EB.out (some ⟨g, off, none⟩) 0 0 (t.map bdV) (by simp [Act.eval]) LN.out (fun e => by cases e) (fun ad e => by cases e; exact CT2.out _ BB.out) (one_bdV t) (by unfold maxLen; omega) (by omega) BB.out.size ?_; intro a2 cap2 w2 hown2 hgr2 hat2; have B2 := Lib.hid (BB.out.grown hgr2 BB.out.size (fun k e => (EB.out.lt k e).1)); have y2 : w2.cell? ⟨g, off, none⟩ = some (.slice x.a x.s.size x.c) := cell_go hc0 B2.out; have OB2 := Lib.hid hown2; have NB2 := Lib.hid (show ∀ ad : Addr, some (⟨W.heap.size + 1, 0, none⟩ : Addr) = some ad → ∀ j u, [Value.slice x.a x.s.size x.c][j]? = some u → w2.cell? (ad.add j) = some u from fun ad e j u hu => by cases e; have q := XB.out j u hu; rw [Addr.add_lit] at q ⊢; exact (World.cell?_of_block (a := ⟨W.heap.size + 1, 0 + j, none⟩) (hgr2.block (W.heap.size + 1) (by simp; try omega) (fun e => by simp [Value.ownBlock] at e))).trans q); clear hown2 hgr2 hat2)
          | (refine step_append_off rfl (.tmp 27) (.tmp 29) 27 rfl i0 _ 24 Try.underlying27 hi0 hz0 hz1 hz2 rfl (by simp [Act.eval]) EC.out (some ⟨g, off, none⟩) 0 0 (t.map bdV) (by simp [Act.eval]) LN.out (fun e => by cases e) (fun ad e => by cases e; exact CT2.out _ BC.out) (one_bdV t) (by unfold maxLen; omega) (by omega) BC.out.size ?_; intro a2 cap2 w2 hown2 hgr2 hat2; have B2 := Lib.hid (BC.out.grown hgr2 BC.out.size (fun k e => (EC.out.lt k e).1)); have y2 : w2.cell? ⟨g, off, none⟩ = some (.slice x.a x.s.size x.c) := cell_go hc0 B2.out; have OC2 := Lib.hid hown2; have NC2 := Lib.hid (show ∀ ad : Addr, some (⟨W.heap.size, 0, none⟩ : Addr) = some ad → ∀ j u, [Value.slice x.a x.s.size x.c][j]? = some u → w2.cell? (ad.add j) = some u from fun ad e j u hu => by cases e; have q := XC.out j u hu; rw [Addr.add_lit] at q ⊢; exact (World.cell?_of_block (a := ⟨W.heap.size, 0 + j, none⟩) (hgr2.block (W.heap.size) (by simp; try omega) (fun e => by simp [Value.ownBlock] at e))).trans q); clear hown2 hgr2 hat2)
          | (refine step_append_off rfl (.tmp 30) (.tmp 34) 27 rfl i0 _ 24 Try.underlying27 hi0 hz0 hz1 hz2 rfl (by simp [Act.eval]) OA2.out (some ⟨w2.heap.size, 0, none⟩) 1 1 [.slice x.a x.s.size x.c] (by simp [Act.eval]) rfl (fun e => by cases e) NA2.out (by simp [Value.oneCell']) (by unfold maxLen; omega) (by omega) (by have := B2.out.size; simp; omega) ?_; intro a3 cap3 w3 hown3 hgr3 hat3; have PP := Lib.hid (DN.out a3 cap3 w3 hown3 ((B2.out.alloc B2.out.size (.cells #[.slice x.a x.s.size x.c] 30)).grown hgr3 (by have := B2.out.size; simp; omega) (fun k e => (OA2.out.lt k e).1))); clear hown3 hgr3 hat3)
          | (refine step_append_off rfl (.tmp 30) (.tmp 34) 27 rfl i0 _ 24 Try.underlying27 hi0 hz0 hz1 hz2 rfl (by simp [Act.eval]) OB2.out (some ⟨W.heap.size + 1, 0, none⟩) 1 1 [.slice x.a x.s.size x.c] (by simp [Act.eval]) rfl (fun e => by cases e) NB2.out (by simp [Value.oneCell']) (by unfold maxLen; omega) (by omega) B2.out.size ?_; intro a3 cap3 w3 hown3 hgr3 hat3; have PP := Lib.hid (DN.out a3 cap3 w3 hown3 (B2.out.grown hgr3 B2.out.size (fun k e => (OB2.out.lt k e).1))); clear hown3 hgr3 hat3)
          | (refine step_append_off rfl (.tmp 30) (.tmp 34) 27 rfl i0 _ 24 Try.underlying27 hi0 hz0 hz1 hz2 rfl (by simp [Act.eval]) OC2.out (some ⟨W.heap.size, 0, none⟩) 1 1 [.slice x.a x.s.size x.c] (by simp [Act.eval]) rfl (fun e => by cases e) NC2.out (by simp [Value.oneCell']) (by unfold maxLen; omega) (by omega) B2.out.size ?_; intro a3 cap3 w3 hown3 hgr3 hat3; have PP := Lib.hid (DN.out a3 cap3 w3 hown3 (B2.out.grown hgr3 B2.out.size (fun k e => (OC2.out.lt k e).1))); clear hown3 hgr3 hat3))
        all_goals go_wp2_with fail
        all_goals (try go_simp)
        all_goals go_wp2_with fail
        all_goals go_ret
        all_goals (have q := PP.out; simp only [Nat.zero_add] at q; exact q)
      · have LN := Lib.hid (show (t.map bdV).length = k by rw [List.length_map, hk])
        have CT2 := Lib.hid (fun (w' : World) (hb : Below W.heap.size W w') => CT.out w' hb (off + 1) (by rw [if_neg hc1]))
        clear hr hT CT CE
        go_enter Try.func14, Try.ntmps14
        have DN := Lib.hid (fun (a3 : Option Addr) (cap3 : Nat) (w3 : World) (hown : OwnAt w3 W.heap.size 30 (.slice a3 (0 + k + 1) cap3) (0 + k + 1) ([] ++ (t.map bdV) ++ [.slice x.a x.s.size x.c])) (hb : Below W.heap.size W w3) => turn_done (v := .slice (some ⟨g, off, none⟩) (k + 1) cap) (L := t ++ [x]) hN hown hb (by rw [List.length_append, List.length_singleton]; have := LN.out; simp only [List.length_map] at this ⊢; omega) (by rw [List.map_append]; rfl))
        go_wp2_with fail
        go_region_law (first
          | (refine step_append_off rfl (.tmp 27) (.tmp 29) 27 rfl i0 _ 24 Try.underlying27 hi0 hz0 hz1 hz2 rfl (by simp [Act.eval]) EA.out (some ⟨g, off + 1, none⟩) k (cap - 1) (t.map bdV) (by simp [Act.eval]) LN.out (fun e => by cases e) (fun ad e => by cases e; exact CT2.out _ BA.out) (one_bdV t) (by unfold maxLen; omega) (by omega) BA.out.size ?_; intro a2 cap2 w2 hown2 hgr2 hat2; have B2 := Lib.hid (BA.out.grown hgr2 BA.out.size (fun k e => (EA.out.lt k e).1)); have y2 : w2.cell? ⟨g, off, none⟩ = some (.slice x.a x.s.size x.c) := cell_go hc0 B2.out; have OA2 := Lib.hid (hown2.carry (w' := w2.alloc (.cells #[.slice x.a x.s.size x.c] 30)) (fun k hk => Below.heap_alloc _ _ _ (hown2.lt k hk).2)); have NA2 := Lib.hid (show ∀ ad : Addr, some (⟨w2.heap.size, 0, none⟩ : Addr) = some ad → ∀ j u, [Value.slice x.a x.s.size x.c][j]? = some u → (w2.alloc (.cells #[.slice x.a x.s.size x.c] 30)).cell? (ad.add j) = some u from fun ad e => by cases e; exact World.news_of_block (heap_alloc_new _ _)); clear hown2 hgr2 hat2)
          | (refine step_append_off rfl (.tmp 27) (.tmp 29) 27 rfl i0 _ 24 Try.underlying27 hi0 hz0 hz1 hz2 rfl (by simp [Act.eval]) EB.out (some ⟨g, off + 1, none⟩) k (cap - 1) (t.map bdV) (by simp [Act.eval]) LN.out (fun e => by cases e) (fun ad e => by cases e; exact CT2.out _ BB.out) (one_bdV t) (by unfold maxLen; omega) (by omega) BB.out.size ?_; intro a2 cap2 w2 hown2 hgr2 hat2; have B2 := Lib.hid (BB.out.grown hgr2 BB.out.size (fun k e => (EB.out.lt k e).1)); have y2 : w2.cell? ⟨g, off, none⟩ = some (.slice x.a x.s.size x.c) := cell_go hc0 B2.out; have OB2 := Lib.hid hown2; have NB2 := Lib.hid (show ∀ ad : Addr, some (⟨W.heap.size + 1, 0, none⟩ : Addr) = some ad → ∀ j u, [Value.slice x.a x.s.size x.c][j]? = some u → w2.cell? (ad.add j) = some u from fun ad e j u hu => by cases e; have q := XB.out j u hu; rw [Addr.add_lit] at q ⊢; exact (World.cell?_of_block (a := ⟨W.heap.size + 1, 0 + j, none⟩) (hgr2.block (W.heap.size + 1) (by simp; try omega) (fun e => by simp [Value.ownBlock] at e))).trans q); clear hown2 hgr2 hat2)
          | (refine step_append_off rfl (.tmp 27) (.tmp 29) 27 rfl i0 _ 24 Try.underlying27 hi0 hz0 hz1 hz2 rfl (by simp [Act.eval]) EC.out (some ⟨g, off + 1, none⟩) k (cap - 1) (t.map bdV) (by simp [Act.eval]) LN.out (fun e => by cases e) (fun ad e => by cases e; exact CT2.out _ BC.out) (one_bdV t) (by unfold maxLen; omega) (by omega) BC.out.size ?_; intro a2 cap2 w2 hown2 hgr2 hat2; have B2 := Lib.hid (BC.out.grown hgr2 BC.out.size (fun k e => (EC.out.lt k e).1)); have y2 : w2.cell? ⟨g, off, none⟩ = some (.slice x.a x.s.size x.c) := cell_go hc0 B2.out; have OC2 := Lib.hid hown2; have NC2 := Lib.hid (show ∀ ad : Addr, some (⟨W.heap.size, 0, none⟩ : Addr) = some ad → ∀ j u, [Value.slice x.a x.s.size x.c][j]? = some u → w2.cell? (ad.add j) = some u from fun ad e j u hu => by cases e; have q := XC.out j u hu; rw [Addr.add_lit] at q ⊢; exact (World.cell?_of_block (a := ⟨W.heap.size, 0 + j, none⟩) (hgr2.block (W.heap.size) (by simp; try omega) (fun e => by simp [Value.ownBlock] at e))).trans q); clear hown2 hgr2 hat2)
          | (refine step_append_off rfl (.tmp 30) (.tmp 34) 27 rfl i0 _ 24 Try.underlying27 hi0 hz0 hz1 hz2 rfl (by simp [Act.eval]) OA2.out (some ⟨w2.heap.size, 0, none⟩) 1 1 [.slice x.a x.s.size x.c] (by simp [Act.eval]) rfl (fun e => by cases e) NA2.out (by simp [Value.oneCell']) (by unfold maxLen; omega) (by omega) (by have := B2.out.size; simp; omega) ?_; intro a3 cap3 w3 hown3 hgr3 hat3; have PP := Lib.hid (DN.out a3 cap3 w3 hown3 ((B2.out.alloc B2.out.size (.cells #[.slice x.a x.s.size x.c] 30)).grown hgr3 (by have := B2.out.size; simp; omega) (fun k e => (OA2.out.lt k e).1))); clear hown3 hgr3 hat3)
          | (refine step_append_off rfl (.tmp 30) (.tmp 34) 27 rfl i0 _ 24 Try.underlying27 hi0 hz0 hz1 hz2 rfl (by simp [Act.eval]) OB2.out (some ⟨W.heap.size + 1, 0, none⟩) 1 1 [.slice x.a x.s.size x.c] (by simp [Act.eval]) rfl (fun e => by cases e) NB2.out (by simp [Value.oneCell']) (by unfold maxLen; omega) (by omega) B2.out.size ?_; intro a3 cap3 w3 hown3 hgr3 hat3; have PP := Lib.hid (DN.out a3 cap3 w3 hown3 (B2.out.grown hgr3 B2.out.size (fun k e => (OB2.out.lt k e).1))); clear hown3 hgr3 hat3)
          | (refine step_append_off rfl (.tmp 30) (.tmp 34) 27 rfl i0 _ 24 Try.underlying27 hi0 hz0 hz1 hz2 rfl (by simp [Act.eval]) OC2.out (some ⟨W.heap.size, 0, none⟩) 1 1 [.slice x.a x.s.size x.c] (by simp [Act.eval]) rfl (fun e => by cases e) NC2.out (by simp [Value.oneCell']) (by unfold maxLen; omega) (by omega) B2.out.size ?_; intro a3 cap3 w3 hown3 hgr3 hat3; have PP := Lib.hid (DN.out a3 cap3 w3 hown3 (B2.out.grown hgr3 B2.out.size (fun k e => (OC2.out.lt k e).1))); clear hown3 hgr3 hat3))
        all_goals go_wp2_with fail
        all_goals (try go_simp)
        all_goals go_wp2_with fail
        all_goals go_ret
        all_goals (have q := PP.out; simp only [Nat.zero_add] at q; exact q)
    have z3 : (z == 3) = false := by simp; exact h3
    have P := Lib.hid (show TurnPost W N (.slice (some ⟨g, off, none⟩) (k + 1) cap) (x :: t) (.returned (.slice (some ⟨g, off, none⟩) (k + 1) cap)) W from ⟨_, cap, by rw [LN0], by rw [LN0]; exact h, Below.refl _ _, fun k hk => Or.inl hk⟩)
    rw [hT, if_neg h1, if_neg h2, if_neg h3]
    clear hr h hc LN0 EA EB EC BA BB BC XB XC CE CT
    go_enter Try.func14, Try.ntmps14
    go_wp2_with fail
    go_ret
    exact P.out

end Go.Proofs.Ytfbojcaedcimcaa

/-
  Two ties over a bad net: the calls, as the walk asks for them.
-/
namespace Go.Proofs.Ytfbojcaedcimcaa
open Go.RowKit

/-- The sender, the hearer, the net; few were pushed. -/
structure Car (S : Sh) (D : Dk) (X : List (Nat × ByteArray)) (K : List Nat) (got : List ByteArray) (n : Nat) : Prop where
  net : Net S D X K got n
  f : S.pa.f = 1
  m : S.pa.m = 4
  few : S.all.length ≤ 12
section
variable {S : Sh} {D : Dk} {X Y : List (Nat × ByteArray)} {K L : List Nat} {got : List ByteArray} {n k : Nat}
theorem Car.more (h : Car S D X K got n) (hk : n ≤ k) (h5 : k ≤ 500) : Car S D X K got k := ⟨h.net.more hk h5, h.f, h.m, h.few⟩
theorem Car.sub (h : Car S D X K got n) (hx : ∀ x ∈ Y, x ∈ X) (hk : ∀ k ∈ L, k ∈ K) : Car S D Y L got n := ⟨h.net.sub hx hk, h.f, h.m, h.few⟩
theorem Net.gotLe (h : Net S D X K got n) : got.length ≤ S.all.length := by
  rw [h.link.got, List.length_take]
  exact Nat.min_le_right _ _
theorem crp_start (P : Pa) : P.start.f = P.f ∧ P.start.m = P.m := by
  unfold Pa.start
  split <;> exact ⟨rfl, rfl⟩
theorem crp_tick (P : Pa) : P.tick.f = P.f ∧ P.tick.m = P.m := by
  unfold Pa.tick
  split
  · exact ⟨rfl, rfl⟩
  · split <;> exact ⟨rfl, rfl⟩
theorem pa_pushed (S : Sh) (r : Bool) (s : ByteArray) : (S.pushed r s).pa.f = S.pa.f ∧ (S.pushed r s).pa.m = S.pa.m := by
  unfold Sh.pushed
  split
  · exact crp_start S.pa
  · exact ⟨rfl, rfl⟩
theorem pa_acked (S : Sh) (k : Nat) : (S.acked k).pa.m = S.pa.m := by
  unfold Sh.acked
  split
  · unfold Sh.ack
    dsimp only
    split
    · rfl
    · exact (crp_start S.pa.stop).2
  · rfl
end

section
variable {W w : World} {a b n c : Nat} {A B : Te} {S U : Sh} {D D0 : Dk} {X H : List (Nat × ByteArray)} {K J : List Nat} {got : List ByteArray} {G : List (Value × List Bd)} {O P Q : List Orow} {v : Value} {L : List Bd} {s : ByteArray} {d : Bd}
theorem St.gnil (h : St W a b A B G O w) : St W a b A B ((.slice none 0 0, []) :: G) O w := by
  obtain ⟨X, Fa, Fb, Na, Nb, h⟩ := h
  refine ⟨X, Fa, Fb, Na, Nb, h.ta, h.tb, h.ab, h.x, h.be, h.own, h.ap, fun x hx => ?_⟩
  rcases List.mem_cons.1 hx with rfl | hx
  · exact ⟨none, 0, rfl, RowV.none _ _ _, fun b hb => by cases hb⟩
  · exact h.giv x hx
theorem St.p3 {o1 o2 o3 o4 : Orow} (h : St W a b A B G [o1, o2, o3, o4] w) : St W a b A B G [o3, o2, o1, o4] w := h.perm ((List.reverse_perm [o1, o2, o3]).symm.append_right [o4])
theorem cr_push (h : St W a b ⟨S, D0⟩ B G O w) (hc : Car S D X K got n) (hn : n < 500) (h11 : S.all.length < 12) :
    Calls Try.prog 9 #[.pointer (some ⟨a, 0, none⟩), .slice (some ⟨w.heap.size, 0, none⟩) s.size (grownCap w s.size 0 5), .bool false] (Lib.bytesWorld w 5 s) fun E w' => ∃ a' cap L S' X' ok, E = .returned (.tuple #[.slice a' L.length cap, .bool ok]) ∧ L.map Bd.s = X'.map wireD ∧
      Car S' D (X ++ X') K got (n + 1) ∧ S'.all = (if ok then S.all ++ [s] else S.all) ∧ L.length ≤ 500 ∧ St W a b ⟨S', D0⟩ B ((.slice a' L.length cap, L) :: G) O w' := by
  by_cases hs : s.size ≤ 30000
  · refine (st_pushs (r := false) h hc.net.s hc.net.n hs).mono fun E w' hp => ?_
    obtain ⟨a', cap, L, rfl, hL, hS⟩ := hp
    have e : ((⟨S, D0⟩ : Te).pushO false s).length = L.length := by rw [← hL, List.length_map]
    rw [e] at hS ⊢
    have hg := (goes_pushed (r := false) (s := s) hc.net.s hs).1
    have hla := (hc.net.s.pushed (r := false) (s := s) hs).last_le
    have hl : L.length ≤ 500 := by
      rw [← e]
      show ((numd S.last (S.pushI false s)).map wireD).length ≤ 500
      rw [numd_map]
      omega
    refine ⟨a', cap, L, S.pushed false s, numd S.last (S.pushI false s), S.room false, rfl, hL, ⟨net_push hc.net hn hs, (pa_pushed ..).1.trans hc.f, (pa_pushed ..).2.trans hc.m, ?_⟩, all_pushed, hl, hS⟩
    rw [all_pushed]
    split
    · rw [List.length_append]
      show S.all.length + 1 ≤ 12
      omega
    · exact hc.few
  · refine (tie_long (by omega)).mono fun E w' hp => ?_
    obtain ⟨rfl, rfl⟩ := hp
    refine ⟨none, 0, [], S, [], false, rfl, rfl, ?_, rfl, Nat.zero_le _, (h.below (below_new w s)).gnil⟩
    rw [List.append_nil]
    exact hc.more (Nat.le_succ n) hn
theorem cr_tick (h : St W a b ⟨S, D0⟩ B G O w) (hc : Car S D X K got n) (hn : n < 500) :
    Calls Try.prog 13 #[.pointer (some ⟨a, 0, none⟩)] w fun E w' => ∃ a' cap L, E = .returned (.slice a' L.length cap) ∧ L.map Bd.s = (numd S.g S.tickI).map wireD ∧ Car S.tick D (X ++ numd S.g S.tickI) K got (n + 1) ∧ L.length ≤ 500 ∧
      St W a b ⟨S.tick, D0⟩ B ((.slice a' L.length cap, L) :: G) O w' := by
  refine (st_tick h hc.net.s hc.net.n).mono fun E w' hp => ?_
  obtain ⟨a', cap, L, rfl, hL, hS⟩ := hp
  have e : (⟨S, D0⟩ : Te).tickO.length = L.length := by rw [← hL, List.length_map]
  rw [e] at hS ⊢
  have hl : L.length ≤ 500 := by
    rw [← e]
    show ((numd S.g S.tickI).map wireD).length ≤ 500
    rw [numd_map]
    unfold Sh.tickI
    split
    · have h1 := S.out_len
      have h2 := S.n_le
      have h3 := hc.few
      omega
    · exact Nat.zero_le _
  exact ⟨a', cap, L, rfl, hL, ⟨net_tick hc.net hn, (crp_tick _).1.trans hc.f, (crp_tick _).2.trans hc.m, hc.few⟩, hl, hS⟩
theorem cr_turn (p : Int) (h : St W a b A B G (P ++ frO v L :: Q) w) (hl : L.length ≤ 100000) :
    Calls Try.prog 14 #[v, .int .i64 p] w fun E w' => ∃ a' cap L', E = .returned (.slice a' L'.length cap) ∧ L'.length ≤ L.length + 1 ∧
      (∀ (α : Type) (f : α → ByteArray) (X : List α), L.map Bd.s = X.map f → ∃ X', L'.map Bd.s = X'.map f ∧ (∀ x ∈ X', x ∈ X) ∧ (p = 0 → X' = X)) ∧ St W a b A B G (P ++ frO (.slice a' L'.length cap) L' :: Q) w' := by
  refine (turn_any p (h.fr (by simp)) hl h.nle).mono fun E w' hp => ?_
  obtain ⟨a', cap, rfl, hown, hb, hat⟩ := hp
  refine ⟨a', cap, turnL p L, rfl, turnL_len p L, fun α f X hX => ⟨turnL p X, by rw [turnL_map, hX, ← turnL_map], fun x hx => turnL_mem hx, fun e => by subst e; exact turnL_none (by decide) X⟩, h.repl (o := frO v L) (v' := .slice a' (turnL p L).length cap) (xs := (turnL p L).map bdV) (bs := turnL p L) (by rw [List.length_map]; exact hown) (Keep.ofBelow hb) hat (fun c hc => Or.inl (turnL_mem hc))⟩
/-- The hearer hears a frame. -/
theorem cr_hearD {Z : Nat → Prop} {x : Nat × ByteArray} (h : St W b a ⟨U, D⟩ A G O w) (hU : U.ok 0) (hH : Heard S D X K got n H) (hx : x ∈ X) (hd : d.s = wireD x) (hb : BodyV Z w d) :
    Calls Try.prog 8 #[.pointer (some ⟨b, 0, none⟩), bdV d] w fun E w' => ∃ au cu Lu ad cd Ld D' k up nu, E = .returned (.tuple #[.slice au nu cu, .slice ad 1 cd, .int .i64 0]) ∧ up.length = nu ∧ Lu.map Bd.s = up ∧ Ld.map Bd.s = [wireA k] ∧
      Heard S D' X (K ++ [k]) (got ++ up) n (H ++ [x]) ∧ St W b a ⟨U, D'⟩ A ((.slice au nu cu, Lu) :: (.slice ad 1 cd, Ld) :: G) O w' := by
  have hk := (hH.net.x _ hx).size hH.net.s
  have hn := hH.net.n
  have hlt : x.1 < 18446744073709551616 := by have := hk.2.1; omega
  obtain ⟨e1, e2, e3⟩ := Te.hear_data ⟨U, D⟩ hk.1 hlt hk.2.2
  have hok := (wire_data hk.1 hlt hk.2.2).1
  refine (st_hear h hU (by omega) hH.net.d (by omega) hb (by rw [hd]; exact wire_len (f := dataFm x) hlt)).mono fun E w' hp => ?_
  obtain ⟨au, cu, Lu, ad, cd, Ld, rfl, hLu, hLd, hS⟩ := hp
  rw [hd] at hLu hLd hS ⊢
  rw [e2] at hLu hS ⊢
  rw [e3] at hLd hS ⊢
  rw [e1] at hS
  exact ⟨au, cu, Lu, ad, cd, Ld, D.came x.1 x.2, (D.came x.1 x.2).next - 1, D.gave x.1 x.2, _, by rw [hok]; rfl, rfl, hLu, hLd, heard_one hH hx, hS⟩
/-- The sender hears how far it has come. -/
theorem cr_hearA {Z : Nat → Prop} {S1 : Sh} {k : Nat} (h : St W a b ⟨S, D0⟩ B G O w) (hD : D0.ok 600) (hT : Told S1 S D X K got n J) (hk : k ∈ K) (hd : d.s = wireA k) (hb : BodyV Z w d) :
    Calls Try.prog 8 #[.pointer (some ⟨a, 0, none⟩), bdV d] w fun E w' => ∃ au cu Lu ad cd Ld S' X', E = .returned (.tuple #[.slice au Lu.length cu, .slice ad Ld.length cd, .int .i64 0]) ∧ Ld.map Bd.s = List.map wireD X' ∧ Ld.length ≤ 500 ∧
      Told S1 S' D (X ++ X') K got n (J ++ [k]) ∧ S'.pa.m = S.pa.m ∧ St W a b ⟨S', D0⟩ B ((.slice au Lu.length cu, Lu) :: (.slice ad Ld.length cd, Ld) :: G) O w' := by
  have hk2 := hT.net.ackle hk
  have hn := hT.net.n
  have hlt : k < 18446744073709551616 := by omega
  obtain ⟨e1, e2, e3⟩ := Te.hear_ack ⟨S, D0⟩ hlt
  have hok := (wire_ack hlt).1
  refine (st_hear h hT.net.s hn hD (by omega) hb (by rw [hd]; exact wire_len (f := ackFm k) hlt)).mono fun E w' hp => ?_
  obtain ⟨au, cu, Lu, ad, cd, Ld, rfl, hLu, hLd, hS⟩ := hp
  rw [hd] at hLu hLd hS ⊢
  rw [e2] at hLu hS ⊢
  rw [e3] at hLd hS ⊢
  rw [e1] at hS
  have l1 : ([] : List ByteArray).length = Lu.length := by rw [← hLu, List.length_map]
  have l2 : ((numd S.last (S.ackI k)).map wireD).length = Ld.length := by rw [← hLd, List.length_map]
  have hl : Ld.length ≤ 500 := by
    have hg := (goes_acked (k := k) hT.net.s).1
    have := (told_one hT hk).net.s.last_le
    rw [← l2, numd_map]
    omega
  rw [l1, l2] at hS ⊢
  exact ⟨au, cu, Lu, ad, cd, Ld, S.acked k, numd S.last (S.ackI k), by rw [hok]; rfl, hLd, hl, told_one hT hk, pa_acked S k, hS⟩
end

/-- A good round. -/
theorem car_round {S S3 : Sh} {D2 : Dk} {X X3 : List (Nat × ByteArray)} {K2 : List Nat} {got2 : List ByteArray} {n i m : Nat} (ho : S.ok n) (hf : S.pa.f = 1) (hN : m ≤ i → Need S X (m + 80 - i)) (hi : i < m + 80)
    (hH : Heard S.tick D2 (X ++ numd S.g S.tickI) K2 got2 (n + 1) (X ++ numd S.g S.tickI)) (hT : Told S.tick S3 D2 X3 K2 got2 (n + 1) K2) (hm : m ≤ i) : Need S3 X3 (m + 80 - (i + 1)) := by
  refine round_need (m := m + 80 - (i + 1)) ?_ ho hf hH hT
  rw [show m + 80 - (i + 1) + 1 = m + 80 - i by omega]
  exact hN hm
end Go.Proofs.Ytfbojcaedcimcaa
