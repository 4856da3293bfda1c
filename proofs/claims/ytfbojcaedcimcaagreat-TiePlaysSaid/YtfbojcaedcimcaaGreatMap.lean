/-
  Texts of this claim, put together.
-/
import Derived.Test.YtfbojcaedcimcaaGreatTtiem
import Derived.Test.YtfbojcaedcimcaaGreatMak
import Derived.Deep.RegionLaw
import Derived.Deep.RegionHeld3

/-
  A tie's State, Quiet, ack.
-/
namespace Go.Proofs.YtfbojcaedcimcaaGreat
open Go.RowKit

theorem results_five {fn : Func} {a b c d e : Tmp} (h : fn.results = #[.tmp a, .tmp b, .tmp c, .tmp d, .tmp e]) (tmps : Array Value) (P : Program) (w : World) :
    (results fn tmps).run P w = .ok (.tuple #[tmps.getD a undef, tmps.getD b undef, tmps.getD c undef, tmps.getD d undef, tmps.getD e undef]) w := by
  simp [results, h]

section
variable {F X : Nat → Prop} {W : World} {N t n c : Nat} {T : Te}
def stV (T : Te) : Value := .tuple #[.int .i64 ((T.s.out.length : Nat) : Int), .int .i64 ((T.s.waits.length : Nat) : Int), .int .i64 ((T.d.held.length : Nat) : Int), .int .u64 ((T.d.next : Nat) : Int), .int .u64 ((T.s.last : Nat) : Int)]

set_option maxRecDepth 20000 in
set_option maxHeartbeats 4000000 in
theorem tie_state (h : TieAt F X W N t T) (ho : T.s.ok n) (hn : n ≤ 500) (hd : T.d.ok c) :
    Calls Tryz.prog 21 #[.pointer (some ⟨t, 0, none⟩)] W fun E w' => E = .returned (stV T) ∧ Below W.heap.size W w' := by
  obtain ⟨p, q, rr, M, Fs, hR, rfl, c0, c1⟩ := tie_cells h
  have SH := Lib.hid (fun (w' : World) (hb : Below W.heap.size W w') => hR.s.below hb)
  have DK := Lib.hid (fun (w' : World) (hb : Below W.heap.size W w') => hR.d.below hb)
  have SS := Lib.hid (fun (w' : World) (hb : Below W.heap.size W w') => (show w'.cell? ⟨t, 0, none⟩ = some (.pointer (some ⟨p, 0, none⟩)) ∧ w'.cell? ⟨t, 1, none⟩ = some (.pointer (some ⟨q, 0, none⟩)) ∧ Hid (Below W.heap.size W w') from ⟨cell_go c0 hb, cell_go c1 hb, Lib.hid hb⟩))
  have HO := Lib.hid ho
  have HD := Lib.hid hd
  clear h hR ho hd
  go_enter Tryz.func21, Tryz.ntmps21
  go_upto_region 1 with fail
  refine wp_region_noPanic ?_
  refine wp_region_held_drew (S := (fun w' => w'.cell? ⟨t, 0, none⟩ = some (.pointer (some ⟨p, 0, none⟩)) ∧ w'.cell? ⟨t, 1, none⟩ = some (.pointer (some ⟨q, 0, none⟩)) ∧ Hid (Below W.heap.size W w'))) (by kernel_rfl) ?_ (fun hHeld => ?_)
  · exact ⟨c0, c1, Lib.hid (drew_below W)⟩
  refine wpAnyH_take (i := 0) (oi := { dst := some 7, op := Op.move (Operand.tmp 0), type := 24, pos := "tie.go:70", after := #[], guard := none }) (v := ?_) rfl (by kernel_rfl) (by kernel_rfl) (by kernel_rfl) (fun _ _ _ h => h) (Or.inl ⟨by rfl, ?_⟩) (by assumption) ?_
  rotate_left
  · (intro w hSw; (try dsimp only at hSw); go_simp; try with_reducible rfl)
  ((try simp only [Act.put]); (try simp only [List.setIfInBounds_toArray]); (try simp only [List.set_cons_succ]); (try simp only [List.set_cons_zero]))
  refine wpAnyH_take (i := 1) (oi := { dst := some 8, op := Op.nilCheck (Operand.tmp 7), type := 0, pos := "tie.go:70", after := #[{ on := 0, ground := Ground.data }], guard := none }) (v := ?_) rfl (by kernel_rfl) (by kernel_rfl) (by kernel_rfl) (fun _ _ _ h => h) (Or.inl ⟨by rfl, ?_⟩) (by assumption) ?_
  rotate_left
  · (intro w hSw; (try dsimp only at hSw); go_simp; try with_reducible rfl)
  ((try simp only [Act.put]); (try simp only [List.setIfInBounds_toArray]); (try simp only [List.set_cons_succ]); (try simp only [List.set_cons_zero]))
  refine wpAnyH_take (i := 2) (oi := { dst := some 9, op := Op.fieldAddr 73 (Operand.tmp 8) 0, type := 0, pos := "tie.go:70", after := #[{ on := 1, ground := Ground.data }], guard := none }) (v := ?_) rfl (by kernel_rfl) (by kernel_rfl) (by kernel_rfl) (fun _ _ _ h => h) (Or.inl ⟨by rfl, ?_⟩) (by assumption) ?_
  rotate_left
  · (intro w hSw; (try dsimp only at hSw); go_simp; try with_reducible rfl)
  ((try simp only [Act.put]); (try simp only [List.setIfInBounds_toArray]); (try simp only [List.set_cons_succ]); (try simp only [List.set_cons_zero]))
  refine wpAnyH_take (i := 3) (oi := { dst := some 10, op := Op.load 66 (Operand.tmp 9), type := 66, pos := "tie.go:70", after := #[{ on := 2, ground := Ground.data }], guard := none }) (v := ?_) rfl (by kernel_rfl) (by kernel_rfl) (by kernel_rfl) (fun _ _ _ h => h) (Or.inl ⟨by rfl, ?_⟩) (by assumption) ?_
  rotate_left
  · (intro w hSw; (try dsimp only at hSw); go_simp; try with_reducible rfl)
  ((try simp only [Act.put]); (try simp only [List.setIfInBounds_toArray]); (try simp only [List.set_cons_succ]); (try simp only [List.set_cons_zero]))
  refine wpAnyH_take (i := 6) (oi := { dst := some 13, op := Op.move (Operand.tmp 0), type := 24, pos := "tie.go:70", after := #[], guard := none }) (v := ?_) rfl (by kernel_rfl) (by kernel_rfl) (by kernel_rfl) (fun _ _ _ h => h) (Or.inl ⟨by rfl, ?_⟩) (by assumption) ?_
  rotate_left
  · (intro w hSw; (try dsimp only at hSw); go_simp; try with_reducible rfl)
  ((try simp only [Act.put]); (try simp only [List.setIfInBounds_toArray]); (try simp only [List.set_cons_succ]); (try simp only [List.set_cons_zero]))
  refine wpAnyH_take (i := 7) (oi := { dst := some 14, op := Op.nilCheck (Operand.tmp 13), type := 0, pos := "tie.go:70", after := #[{ on := 6, ground := Ground.data }], guard := none }) (v := ?_) rfl (by kernel_rfl) (by kernel_rfl) (by kernel_rfl) (fun _ _ _ h => h) (Or.inl ⟨by rfl, ?_⟩) (by assumption) ?_
  rotate_left
  · (intro w hSw; (try dsimp only at hSw); go_simp; try with_reducible rfl)
  ((try simp only [Act.put]); (try simp only [List.setIfInBounds_toArray]); (try simp only [List.set_cons_succ]); (try simp only [List.set_cons_zero]))
  refine wpAnyH_take (i := 8) (oi := { dst := some 15, op := Op.fieldAddr 73 (Operand.tmp 14) 0, type := 0, pos := "tie.go:70", after := #[{ on := 7, ground := Ground.data }], guard := none }) (v := ?_) rfl (by kernel_rfl) (by kernel_rfl) (by kernel_rfl) (fun _ _ _ h => h) (Or.inl ⟨by rfl, ?_⟩) (by assumption) ?_
  rotate_left
  · (intro w hSw; (try dsimp only at hSw); go_simp; try with_reducible rfl)
  ((try simp only [Act.put]); (try simp only [List.setIfInBounds_toArray]); (try simp only [List.set_cons_succ]); (try simp only [List.set_cons_zero]))
  refine wpAnyH_take (i := 9) (oi := { dst := some 16, op := Op.load 66 (Operand.tmp 15), type := 66, pos := "tie.go:70", after := #[{ on := 8, ground := Ground.data }], guard := none }) (v := ?_) rfl (by kernel_rfl) (by kernel_rfl) (by kernel_rfl) (fun _ _ _ h => h) (Or.inl ⟨by rfl, ?_⟩) (by assumption) ?_
  rotate_left
  · (intro w hSw; (try dsimp only at hSw); go_simp; try with_reducible rfl)
  ((try simp only [Act.put]); (try simp only [List.setIfInBounds_toArray]); (try simp only [List.set_cons_succ]); (try simp only [List.set_cons_zero]))
  refine wpAnyH_take (i := 12) (oi := { dst := some 19, op := Op.move (Operand.tmp 0), type := 24, pos := "tie.go:70", after := #[], guard := none }) (v := ?_) rfl (by kernel_rfl) (by kernel_rfl) (by kernel_rfl) (fun _ _ _ h => h) (Or.inl ⟨by rfl, ?_⟩) (by assumption) ?_
  rotate_left
  · (intro w hSw; (try dsimp only at hSw); go_simp; try with_reducible rfl)
  ((try simp only [Act.put]); (try simp only [List.setIfInBounds_toArray]); (try simp only [List.set_cons_succ]); (try simp only [List.set_cons_zero]))
  refine wpAnyH_take (i := 13) (oi := { dst := some 20, op := Op.nilCheck (Operand.tmp 19), type := 0, pos := "tie.go:70", after := #[{ on := 12, ground := Ground.data }], guard := none }) (v := ?_) rfl (by kernel_rfl) (by kernel_rfl) (by kernel_rfl) (fun _ _ _ h => h) (Or.inl ⟨by rfl, ?_⟩) (by assumption) ?_
  rotate_left
  · (intro w hSw; (try dsimp only at hSw); go_simp; try with_reducible rfl)
  ((try simp only [Act.put]); (try simp only [List.setIfInBounds_toArray]); (try simp only [List.set_cons_succ]); (try simp only [List.set_cons_zero]))
  refine wpAnyH_take (i := 14) (oi := { dst := some 21, op := Op.fieldAddr 73 (Operand.tmp 20) 1, type := 0, pos := "tie.go:70", after := #[{ on := 13, ground := Ground.data }], guard := none }) (v := ?_) rfl (by kernel_rfl) (by kernel_rfl) (by kernel_rfl) (fun _ _ _ h => h) (Or.inl ⟨by rfl, ?_⟩) (by assumption) ?_
  rotate_left
  · (intro w hSw; (try dsimp only at hSw); go_simp; try with_reducible rfl)
  ((try simp only [Act.put]); (try simp only [List.setIfInBounds_toArray]); (try simp only [List.set_cons_succ]); (try simp only [List.set_cons_zero]))
  refine wpAnyH_take (i := 15) (oi := { dst := some 22, op := Op.load 69 (Operand.tmp 21), type := 69, pos := "tie.go:70", after := #[{ on := 14, ground := Ground.data }], guard := none }) (v := ?_) rfl (by kernel_rfl) (by kernel_rfl) (by kernel_rfl) (fun _ _ _ h => h) (Or.inl ⟨by rfl, ?_⟩) (by assumption) ?_
  rotate_left
  · (intro w hSw; (try dsimp only at hSw); go_simp; try with_reducible rfl)
  ((try simp only [Act.put]); (try simp only [List.setIfInBounds_toArray]); (try simp only [List.set_cons_succ]); (try simp only [List.set_cons_zero]))
  refine wpAnyH_take (i := 18) (oi := { dst := some 25, op := Op.move (Operand.tmp 0), type := 24, pos := "tie.go:70", after := #[], guard := none }) (v := ?_) rfl (by kernel_rfl) (by kernel_rfl) (by kernel_rfl) (fun _ _ _ h => h) (Or.inl ⟨by rfl, ?_⟩) (by assumption) ?_
  rotate_left
  · (intro w hSw; (try dsimp only at hSw); go_simp; try with_reducible rfl)
  ((try simp only [Act.put]); (try simp only [List.setIfInBounds_toArray]); (try simp only [List.set_cons_succ]); (try simp only [List.set_cons_zero]))
  refine wpAnyH_take (i := 19) (oi := { dst := some 26, op := Op.nilCheck (Operand.tmp 25), type := 0, pos := "tie.go:70", after := #[{ on := 18, ground := Ground.data }], guard := none }) (v := ?_) rfl (by kernel_rfl) (by kernel_rfl) (by kernel_rfl) (fun _ _ _ h => h) (Or.inl ⟨by rfl, ?_⟩) (by assumption) ?_
  rotate_left
  · (intro w hSw; (try dsimp only at hSw); go_simp; try with_reducible rfl)
  ((try simp only [Act.put]); (try simp only [List.setIfInBounds_toArray]); (try simp only [List.set_cons_succ]); (try simp only [List.set_cons_zero]))
  refine wpAnyH_take (i := 20) (oi := { dst := some 27, op := Op.fieldAddr 73 (Operand.tmp 26) 1, type := 0, pos := "tie.go:70", after := #[{ on := 19, ground := Ground.data }], guard := none }) (v := ?_) rfl (by kernel_rfl) (by kernel_rfl) (by kernel_rfl) (fun _ _ _ h => h) (Or.inl ⟨by rfl, ?_⟩) (by assumption) ?_
  rotate_left
  · (intro w hSw; (try dsimp only at hSw); go_simp; try with_reducible rfl)
  ((try simp only [Act.put]); (try simp only [List.setIfInBounds_toArray]); (try simp only [List.set_cons_succ]); (try simp only [List.set_cons_zero]))
  refine wpAnyH_take (i := 21) (oi := { dst := some 28, op := Op.load 69 (Operand.tmp 27), type := 69, pos := "tie.go:70", after := #[{ on := 20, ground := Ground.data }], guard := none }) (v := ?_) rfl (by kernel_rfl) (by kernel_rfl) (by kernel_rfl) (fun _ _ _ h => h) (Or.inl ⟨by rfl, ?_⟩) (by assumption) ?_
  rotate_left
  · (intro w hSw; (try dsimp only at hSw); go_simp; try with_reducible rfl)
  ((try simp only [Act.put]); (try simp only [List.setIfInBounds_toArray]); (try simp only [List.set_cons_succ]); (try simp only [List.set_cons_zero]))
  refine wpAnyH_take (i := 23) (oi := { dst := some 30, op := Op.move (Operand.tmp 0), type := 24, pos := "tie.go:70", after := #[], guard := none }) (v := ?_) rfl (by kernel_rfl) (by kernel_rfl) (by kernel_rfl) (fun _ _ _ h => h) (Or.inl ⟨by rfl, ?_⟩) (by assumption) ?_
  rotate_left
  · (intro w hSw; (try dsimp only at hSw); go_simp; try with_reducible rfl)
  ((try simp only [Act.put]); (try simp only [List.setIfInBounds_toArray]); (try simp only [List.set_cons_succ]); (try simp only [List.set_cons_zero]))
  refine wpAnyH_take (i := 24) (oi := { dst := some 31, op := Op.nilCheck (Operand.tmp 30), type := 0, pos := "tie.go:70", after := #[{ on := 23, ground := Ground.data }], guard := none }) (v := ?_) rfl (by kernel_rfl) (by kernel_rfl) (by kernel_rfl) (fun _ _ _ h => h) (Or.inl ⟨by rfl, ?_⟩) (by assumption) ?_
  rotate_left
  · (intro w hSw; (try dsimp only at hSw); go_simp; try with_reducible rfl)
  ((try simp only [Act.put]); (try simp only [List.setIfInBounds_toArray]); (try simp only [List.set_cons_succ]); (try simp only [List.set_cons_zero]))
  refine wpAnyH_take (i := 25) (oi := { dst := some 32, op := Op.fieldAddr 73 (Operand.tmp 31) 0, type := 0, pos := "tie.go:70", after := #[{ on := 24, ground := Ground.data }], guard := none }) (v := ?_) rfl (by kernel_rfl) (by kernel_rfl) (by kernel_rfl) (fun _ _ _ h => h) (Or.inl ⟨by rfl, ?_⟩) (by assumption) ?_
  rotate_left
  · (intro w hSw; (try dsimp only at hSw); go_simp; try with_reducible rfl)
  ((try simp only [Act.put]); (try simp only [List.setIfInBounds_toArray]); (try simp only [List.set_cons_succ]); (try simp only [List.set_cons_zero]))
  refine wpAnyH_take (i := 26) (oi := { dst := some 33, op := Op.load 66 (Operand.tmp 32), type := 66, pos := "tie.go:70", after := #[{ on := 25, ground := Ground.data }], guard := none }) (v := ?_) rfl (by kernel_rfl) (by kernel_rfl) (by kernel_rfl) (fun _ _ _ h => h) (Or.inl ⟨by rfl, ?_⟩) (by assumption) ?_
  rotate_left
  · (intro w hSw; (try dsimp only at hSw); go_simp; try with_reducible rfl)
  ((try simp only [Act.put]); (try simp only [List.setIfInBounds_toArray]); (try simp only [List.set_cons_succ]); (try simp only [List.set_cons_zero]))
  refine wpAnyH_ready (rs := [4]) (by kernel_rfl) (by simp) ?_
  refine AllReadyH.cons (o := { dst := some 11, op := Op.call { callee := Callee.value (Operand.func 43), args := #[Operand.tmp 10], argTypes := #[66] }, type := 75, pos := "tie.go:70", after := #[{ on := 3, ground := Ground.data }], guard := none }) rfl (fun K hK => ?_) AllReadyH.nil
  go_simp
  refine (out_any (SH.out W.drew (drew_below W)) HO.out hn).mono ?_
  rintro e w1 ⟨a1, k1, rfl, -, hb1⟩
  have B1 := Lib.hid (show Below W.heap.size W w1 from ⟨hb1.os, hb1.tape, hb1.output, hb1.size, hb1.block⟩)
  clear hb1
  try go_wp2_with fail
  refine hK.out _ _ ?_ (fun hNew => ?_)
  · first | exact hHeld | exact SS.out _ B1.out | exact SS.out _ B2.out | exact SS.out _ B3.out
  clear hK K
  replace hHeld := hNew
  clear hNew
  ((try simp only [Act.put]); (try simp only [List.setIfInBounds_toArray]); (try simp only [List.set_cons_succ]); (try simp only [List.set_cons_zero]))
  refine wpAnyH_take (i := 5) (oi := { dst := some 12, op := Op.call { callee := Callee.builtin Builtin.len, args := #[Operand.tmp 11], argTypes := #[75] }, type := 3, pos := "tie.go:70", after := #[{ on := 4, ground := Ground.data }], guard := none }) (v := ?_) rfl (by kernel_rfl) (by kernel_rfl) (by kernel_rfl) (fun _ _ _ h => h) (Or.inl ⟨by rfl, ?_⟩) (by assumption) ?_
  rotate_left
  · (intro w hSw; (try dsimp only at hSw); go_simp; try with_reducible rfl)
  ((try simp only [Act.put]); (try simp only [List.setIfInBounds_toArray]); (try simp only [List.set_cons_succ]); (try simp only [List.set_cons_zero]))
  refine wpAnyH_ready (rs := [10]) (by kernel_rfl) (by simp) ?_
  refine AllReadyH.cons (o := { dst := some 17, op := Op.call { callee := Callee.value (Operand.func 44), args := #[Operand.tmp 16], argTypes := #[66] }, type := 36, pos := "tie.go:70", after := #[{ on := 9, ground := Ground.data }, { on := 4, ground := Ground.chain }], guard := none }) rfl (fun K hK => ?_) AllReadyH.nil
  go_simp
  refine (waits_any (SH.out w1 B1.out) HO.out hn).mono ?_
  rintro e w2 ⟨a2, k2, rfl, -, hb2⟩
  have B2 := Lib.hid (B1.out.trans (hb2.mono B1.out.size))
  clear hb2
  try go_wp2_with fail
  refine hK.out _ _ ?_ (fun hNew => ?_)
  · first | exact hHeld | exact SS.out _ B1.out | exact SS.out _ B2.out | exact SS.out _ B3.out
  clear hK K
  replace hHeld := hNew
  clear hNew
  ((try simp only [Act.put]); (try simp only [List.setIfInBounds_toArray]); (try simp only [List.set_cons_succ]); (try simp only [List.set_cons_zero]))
  refine wpAnyH_take (i := 11) (oi := { dst := some 18, op := Op.call { callee := Callee.builtin Builtin.len, args := #[Operand.tmp 17], argTypes := #[36] }, type := 3, pos := "tie.go:70", after := #[{ on := 10, ground := Ground.data }], guard := none }) (v := ?_) rfl (by kernel_rfl) (by kernel_rfl) (by kernel_rfl) (fun _ _ _ h => h) (Or.inl ⟨by rfl, ?_⟩) (by assumption) ?_
  rotate_left
  · (intro w hSw; (try dsimp only at hSw); go_simp; try with_reducible rfl)
  ((try simp only [Act.put]); (try simp only [List.setIfInBounds_toArray]); (try simp only [List.set_cons_succ]); (try simp only [List.set_cons_zero]))
  refine wpAnyH_ready (rs := [16]) (by kernel_rfl) (by simp) ?_
  refine AllReadyH.cons (o := { dst := some 23, op := Op.call { callee := Callee.value (Operand.func 45), args := #[Operand.tmp 22], argTypes := #[69] }, type := 98, pos := "tie.go:70", after := #[{ on := 15, ground := Ground.data }, { on := 10, ground := Ground.chain }], guard := none }) rfl (fun K hK => ?_) AllReadyH.nil
  go_simp
  refine (held_any (DK.out w2 B2.out) HD.out).mono ?_
  rintro e w3 ⟨a3, k3, rfl, -, -, hb3⟩
  have B3 := Lib.hid (B2.out.trans (hb3.mono B2.out.size))
  clear hb3
  try go_wp2_with fail
  refine hK.out _ _ ?_ (fun hNew => ?_)
  · first | exact hHeld | exact SS.out _ B1.out | exact SS.out _ B2.out | exact SS.out _ B3.out
  clear hK K
  replace hHeld := hNew
  clear hNew
  ((try simp only [Act.put]); (try simp only [List.setIfInBounds_toArray]); (try simp only [List.set_cons_succ]); (try simp only [List.set_cons_zero]))
  refine wpAnyH_take (i := 17) (oi := { dst := some 24, op := Op.call { callee := Callee.builtin Builtin.len, args := #[Operand.tmp 23], argTypes := #[98] }, type := 3, pos := "tie.go:70", after := #[{ on := 16, ground := Ground.data }], guard := none }) (v := ?_) rfl (by kernel_rfl) (by kernel_rfl) (by kernel_rfl) (fun _ _ _ h => h) (Or.inl ⟨by rfl, ?_⟩) (by assumption) ?_
  rotate_left
  · (intro w hSw; (try dsimp only at hSw); go_simp; try with_reducible rfl)
  ((try simp only [Act.put]); (try simp only [List.setIfInBounds_toArray]); (try simp only [List.set_cons_succ]); (try simp only [List.set_cons_zero]))
  refine wpAnyH_ready (rs := [22]) (by kernel_rfl) (by simp) ?_
  refine AllReadyH.cons (o := { dst := some 29, op := Op.call { callee := Callee.value (Operand.func 46), args := #[Operand.tmp 28], argTypes := #[69] }, type := 47, pos := "tie.go:70", after := #[{ on := 21, ground := Ground.data }, { on := 16, ground := Ground.chain }], guard := none }) rfl (fun K hK => ?_) AllReadyH.nil
  go_simp
  refine (next_any (DK.out w3 B3.out)).mono ?_
  rintro e w4 ⟨rfl, hw⟩
  have hw2 := hw.symm
  clear hw
  subst hw2
  try go_wp2_with fail
  refine hK.out _ _ ?_ (fun hNew => ?_)
  · first | exact hHeld | exact SS.out _ B1.out | exact SS.out _ B2.out | exact SS.out _ B3.out
  clear hK K
  replace hHeld := hNew
  clear hNew
  ((try simp only [Act.put]); (try simp only [List.setIfInBounds_toArray]); (try simp only [List.set_cons_succ]); (try simp only [List.set_cons_zero]))
  refine wpAnyH_ready (rs := [27]) (by kernel_rfl) (by simp) ?_
  refine AllReadyH.cons (o := { dst := some 34, op := Op.call { callee := Callee.value (Operand.func 47), args := #[Operand.tmp 33], argTypes := #[66] }, type := 47, pos := "tie.go:70", after := #[{ on := 26, ground := Ground.data }, { on := 22, ground := Ground.chain }], guard := none }) rfl (fun K hK => ?_) AllReadyH.nil
  go_simp
  refine (last_any (SH.out w3 B3.out)).mono ?_
  rintro e w4 ⟨rfl, hw⟩
  have hw2 := hw.symm
  clear hw
  subst hw2
  try go_wp2_with fail
  refine hK.out _ _ ?_ (fun hNew => ?_)
  · first | exact hHeld | exact SS.out _ B1.out | exact SS.out _ B2.out | exact SS.out _ B3.out
  clear hK K
  replace hHeld := hNew
  clear hNew
  ((try simp only [Act.put]); (try simp only [List.setIfInBounds_toArray]); (try simp only [List.set_cons_succ]); (try simp only [List.set_cons_zero]))
  refine wpAnyH_take (i := 28) (oi := { dst := some 2, op := Op.assign (Operand.tmp 12), type := 3, pos := "tie.go:70", after := #[{ on := 5, ground := Ground.data }, { on := 27, ground := Ground.chain }, { on := 0, ground := Ground.phase }, { on := 1, ground := Ground.phase }, { on := 2, ground := Ground.phase }, { on := 3, ground := Ground.phase }, { on := 4, ground := Ground.phase }, { on := 5, ground := Ground.phase }, { on := 6, ground := Ground.textOnly Departure.lateStores }, { on := 7, ground := Ground.textOnly Departure.lateStores }, { on := 8, ground := Ground.textOnly Departure.lateStores }, { on := 9, ground := Ground.textOnly Departure.lateStores }, { on := 10, ground := Ground.textOnly Departure.lateStoresUnsure }, { on := 11, ground := Ground.textOnly Departure.lateStoresUnsure }, { on := 12, ground := Ground.textOnly Departure.lateStores }, { on := 13, ground := Ground.textOnly Departure.lateStores }, { on := 14, ground := Ground.textOnly Departure.lateStores }, { on := 15, ground := Ground.textOnly Departure.lateStores }, { on := 16, ground := Ground.textOnly Departure.lateStoresUnsure }, { on := 17, ground := Ground.textOnly Departure.lateStoresUnsure }, { on := 18, ground := Ground.textOnly Departure.lateStores }, { on := 19, ground := Ground.textOnly Departure.lateStores }, { on := 20, ground := Ground.textOnly Departure.lateStores }, { on := 21, ground := Ground.textOnly Departure.lateStores }, { on := 22, ground := Ground.textOnly Departure.lateStoresUnsure }, { on := 23, ground := Ground.textOnly Departure.lateStores }, { on := 24, ground := Ground.textOnly Departure.lateStores }, { on := 25, ground := Ground.textOnly Departure.lateStores }, { on := 26, ground := Ground.textOnly Departure.lateStores }, { on := 27, ground := Ground.textOnly Departure.lateStoresUnsure }], guard := none }) (v := ?_) rfl (by kernel_rfl) (by kernel_rfl) (by kernel_rfl) (fun _ _ _ h => h) (Or.inl ⟨by rfl, ?_⟩) (by assumption) ?_
  rotate_left
  · (intro w hSw; (try dsimp only at hSw); go_simp; try with_reducible rfl)
  ((try simp only [Act.put]); (try simp only [List.setIfInBounds_toArray]); (try simp only [List.set_cons_succ]); (try simp only [List.set_cons_zero]))
  refine wpAnyH_take (i := 29) (oi := { dst := some 3, op := Op.assign (Operand.tmp 18), type := 3, pos := "tie.go:70", after := #[{ on := 11, ground := Ground.data }, { on := 28, ground := Ground.chain }, { on := 0, ground := Ground.phase }, { on := 1, ground := Ground.phase }, { on := 2, ground := Ground.phase }, { on := 3, ground := Ground.phase }, { on := 4, ground := Ground.phase }, { on := 5, ground := Ground.phase }, { on := 6, ground := Ground.phase }, { on := 7, ground := Ground.phase }, { on := 8, ground := Ground.phase }, { on := 9, ground := Ground.phase }, { on := 10, ground := Ground.phase }, { on := 11, ground := Ground.phase }, { on := 12, ground := Ground.textOnly Departure.lateStores }, { on := 13, ground := Ground.textOnly Departure.lateStores }, { on := 14, ground := Ground.textOnly Departure.lateStores }, { on := 15, ground := Ground.textOnly Departure.lateStores }, { on := 16, ground := Ground.textOnly Departure.lateStoresUnsure }, { on := 17, ground := Ground.textOnly Departure.lateStoresUnsure }, { on := 18, ground := Ground.textOnly Departure.lateStores }, { on := 19, ground := Ground.textOnly Departure.lateStores }, { on := 20, ground := Ground.textOnly Departure.lateStores }, { on := 21, ground := Ground.textOnly Departure.lateStores }, { on := 22, ground := Ground.textOnly Departure.lateStoresUnsure }, { on := 23, ground := Ground.textOnly Departure.lateStores }, { on := 24, ground := Ground.textOnly Departure.lateStores }, { on := 25, ground := Ground.textOnly Departure.lateStores }, { on := 26, ground := Ground.textOnly Departure.lateStores }, { on := 27, ground := Ground.textOnly Departure.lateStoresUnsure }, { on := 28, ground := Ground.phase }], guard := none }) (v := ?_) rfl (by kernel_rfl) (by kernel_rfl) (by kernel_rfl) (fun _ _ _ h => h) (Or.inl ⟨by rfl, ?_⟩) (by assumption) ?_
  rotate_left
  · (intro w hSw; (try dsimp only at hSw); go_simp; try with_reducible rfl)
  ((try simp only [Act.put]); (try simp only [List.setIfInBounds_toArray]); (try simp only [List.set_cons_succ]); (try simp only [List.set_cons_zero]))
  refine wpAnyH_take (i := 30) (oi := { dst := some 4, op := Op.assign (Operand.tmp 24), type := 3, pos := "tie.go:70", after := #[{ on := 17, ground := Ground.data }, { on := 29, ground := Ground.chain }, { on := 0, ground := Ground.phase }, { on := 1, ground := Ground.phase }, { on := 2, ground := Ground.phase }, { on := 3, ground := Ground.phase }, { on := 4, ground := Ground.phase }, { on := 5, ground := Ground.phase }, { on := 6, ground := Ground.phase }, { on := 7, ground := Ground.phase }, { on := 8, ground := Ground.phase }, { on := 9, ground := Ground.phase }, { on := 10, ground := Ground.phase }, { on := 11, ground := Ground.phase }, { on := 12, ground := Ground.phase }, { on := 13, ground := Ground.phase }, { on := 14, ground := Ground.phase }, { on := 15, ground := Ground.phase }, { on := 16, ground := Ground.phase }, { on := 17, ground := Ground.phase }, { on := 18, ground := Ground.textOnly Departure.lateStores }, { on := 19, ground := Ground.textOnly Departure.lateStores }, { on := 20, ground := Ground.textOnly Departure.lateStores }, { on := 21, ground := Ground.textOnly Departure.lateStores }, { on := 22, ground := Ground.textOnly Departure.lateStoresUnsure }, { on := 23, ground := Ground.textOnly Departure.lateStores }, { on := 24, ground := Ground.textOnly Departure.lateStores }, { on := 25, ground := Ground.textOnly Departure.lateStores }, { on := 26, ground := Ground.textOnly Departure.lateStores }, { on := 27, ground := Ground.textOnly Departure.lateStoresUnsure }, { on := 28, ground := Ground.phase }, { on := 29, ground := Ground.phase }], guard := none }) (v := ?_) rfl (by kernel_rfl) (by kernel_rfl) (by kernel_rfl) (fun _ _ _ h => h) (Or.inl ⟨by rfl, ?_⟩) (by assumption) ?_
  rotate_left
  · (intro w hSw; (try dsimp only at hSw); go_simp; try with_reducible rfl)
  ((try simp only [Act.put]); (try simp only [List.setIfInBounds_toArray]); (try simp only [List.set_cons_succ]); (try simp only [List.set_cons_zero]))
  refine wpAnyH_take (i := 31) (oi := { dst := some 5, op := Op.assign (Operand.tmp 29), type := 47, pos := "tie.go:70", after := #[{ on := 22, ground := Ground.data }, { on := 30, ground := Ground.chain }, { on := 0, ground := Ground.phase }, { on := 1, ground := Ground.phase }, { on := 2, ground := Ground.phase }, { on := 3, ground := Ground.phase }, { on := 4, ground := Ground.phase }, { on := 5, ground := Ground.phase }, { on := 6, ground := Ground.phase }, { on := 7, ground := Ground.phase }, { on := 8, ground := Ground.phase }, { on := 9, ground := Ground.phase }, { on := 10, ground := Ground.phase }, { on := 11, ground := Ground.phase }, { on := 12, ground := Ground.phase }, { on := 13, ground := Ground.phase }, { on := 14, ground := Ground.phase }, { on := 15, ground := Ground.phase }, { on := 16, ground := Ground.phase }, { on := 17, ground := Ground.phase }, { on := 18, ground := Ground.phase }, { on := 19, ground := Ground.phase }, { on := 20, ground := Ground.phase }, { on := 21, ground := Ground.phase }, { on := 22, ground := Ground.phase }, { on := 23, ground := Ground.textOnly Departure.lateStores }, { on := 24, ground := Ground.textOnly Departure.lateStores }, { on := 25, ground := Ground.textOnly Departure.lateStores }, { on := 26, ground := Ground.textOnly Departure.lateStores }, { on := 27, ground := Ground.textOnly Departure.lateStoresUnsure }, { on := 28, ground := Ground.phase }, { on := 29, ground := Ground.phase }, { on := 30, ground := Ground.phase }], guard := none }) (v := ?_) rfl (by kernel_rfl) (by kernel_rfl) (by kernel_rfl) (fun _ _ _ h => h) (Or.inl ⟨by rfl, ?_⟩) (by assumption) ?_
  rotate_left
  · (intro w hSw; (try dsimp only at hSw); go_simp; try with_reducible rfl)
  ((try simp only [Act.put]); (try simp only [List.setIfInBounds_toArray]); (try simp only [List.set_cons_succ]); (try simp only [List.set_cons_zero]))
  refine wpAnyH_take (i := 32) (oi := { dst := some 6, op := Op.assign (Operand.tmp 34), type := 47, pos := "tie.go:70", after := #[{ on := 27, ground := Ground.data }, { on := 31, ground := Ground.chain }, { on := 0, ground := Ground.phase }, { on := 1, ground := Ground.phase }, { on := 2, ground := Ground.phase }, { on := 3, ground := Ground.phase }, { on := 4, ground := Ground.phase }, { on := 5, ground := Ground.phase }, { on := 6, ground := Ground.phase }, { on := 7, ground := Ground.phase }, { on := 8, ground := Ground.phase }, { on := 9, ground := Ground.phase }, { on := 10, ground := Ground.phase }, { on := 11, ground := Ground.phase }, { on := 12, ground := Ground.phase }, { on := 13, ground := Ground.phase }, { on := 14, ground := Ground.phase }, { on := 15, ground := Ground.phase }, { on := 16, ground := Ground.phase }, { on := 17, ground := Ground.phase }, { on := 18, ground := Ground.phase }, { on := 19, ground := Ground.phase }, { on := 20, ground := Ground.phase }, { on := 21, ground := Ground.phase }, { on := 22, ground := Ground.phase }, { on := 23, ground := Ground.phase }, { on := 24, ground := Ground.phase }, { on := 25, ground := Ground.phase }, { on := 26, ground := Ground.phase }, { on := 27, ground := Ground.phase }, { on := 28, ground := Ground.phase }, { on := 29, ground := Ground.phase }, { on := 30, ground := Ground.phase }, { on := 31, ground := Ground.phase }], guard := none }) (v := ?_) rfl (by kernel_rfl) (by kernel_rfl) (by kernel_rfl) (fun _ _ _ h => h) (Or.inl ⟨by rfl, ?_⟩) (by assumption) ?_
  rotate_left
  · (intro w hSw; (try dsimp only at hSw); go_simp; try with_reducible rfl)
  ((try simp only [Act.put]); (try simp only [List.setIfInBounds_toArray]); (try simp only [List.set_cons_succ]); (try simp only [List.set_cons_zero]))
  refine wpAnyH_done (by kernel_rfl) ?_ _
  refine NoPanic.normal ?_
  go_wp2_with fail
  ((try simp only [Exit.inBlock, Exit.then]); refine bodyPost_ret (results_five rfl _ _ _) rfl ?_)
  exact ⟨by simp [Dk.nums, stV], B3.out⟩

theorem tie_quiet (h : TieAt F X W N t T) (ho : T.s.ok n) (hn : n ≤ 500) (hd : T.d.ok c) {b : Bool} (hb : decide (T.s.out.length = 0 ∧ T.s.waits.length = 0 ∧ T.d.held.length = 0) = b) :
    Calls Tryz.prog 22 #[.pointer (some ⟨t, 0, none⟩)] W fun E w' => E = .returned (.bool b) ∧ Below W.heap.size W w' := by
  have C := Lib.hid (tie_state h ho hn hd)
  clear h ho hd
  unfold stV at C
  generalize T.s.out.length = x at *
  generalize T.s.waits.length = y at *
  generalize T.d.held.length = z at *
  go_enter Tryz.func22, Tryz.ntmps22
  by_cases hx : x = 0
  · subst hx
    by_cases hy : y = 0
    · subst hy
      by_cases hz : z = 0
      · subst hz
        have hb2 : b = true := by rw [← hb]; decide
        subst hb2
        go_wp2_with (go_at_call 21; refine C.out.mono ?_; rintro e w1 ⟨rfl, hb1⟩; have B1 := Lib.hid hb1; clear hb1)
        go_ret
        exact ⟨rfl, B1.out⟩
      · have d : ((z : Int) == 0) = false := by simp; omega
        have d2 : (z == 0) = false := by simp; omega
        have hb2 : b = false := by rw [← hb]; exact decide_eq_false (fun h => hz h.2.2)
        subst hb2
        clear hz hb
        go_wp2_with (go_at_call 21; refine C.out.mono ?_; rintro e w1 ⟨rfl, hb1⟩; have B1 := Lib.hid hb1; clear hb1)
        go_ret
        exact ⟨rfl, B1.out⟩
    · have d : ((y : Int) == 0) = false := by simp; omega
      have d2 : (y == 0) = false := by simp; omega
      have hb2 : b = false := by rw [← hb]; exact decide_eq_false (fun h => hy h.2.1)
      subst hb2
      clear hy hb
      go_wp2_with (go_at_call 21; refine C.out.mono ?_; rintro e w1 ⟨rfl, hb1⟩; have B1 := Lib.hid hb1; clear hb1)
      go_ret
      exact ⟨rfl, B1.out⟩
  · have d : ((x : Int) == 0) = false := by simp; omega
    have d2 : (x == 0) = false := by simp; omega
    have hb2 : b = false := by rw [← hb]; exact decide_eq_false (fun h => hx h.1)
    subst hb2
    clear hx hb
    go_wp2_with (go_at_call 21; refine C.out.mono ?_; rintro e w1 ⟨rfl, hb1⟩; have B1 := Lib.hid hb1; clear hb1)
    go_ret
    exact ⟨rfl, B1.out⟩

/-- Word of what has come. -/
theorem tie_ack (h : TieAt F X W N t T) (hd : T.d.ok c) (hc : c ≤ 1000) : Calls Tryz.prog 34 #[.pointer (some ⟨t, 0, none⟩)] W (PutPost W (wireA (T.d.next - 1))) := by
  obtain ⟨p, q, rr, M, Fs, hR, rfl, c0, c1⟩ := tie_cells h
  have hnx := hd.next
  obtain ⟨m, hm⟩ : ∃ m, T.d.next - 1 = m := ⟨_, rfl⟩
  have ND := Lib.hid (fun w (hb : Below W.heap.size W w) => next_any (hR.d.below hb))
  have w1 : IntKind.u64.wrap ((T.d.next : Int) - 1) = (m : Int) := by rw [wrap_q (by omega)]; omega
  have PA := Lib.hid (fun w => put_ack (W := w) (k := m) (by omega))
  rw [hm]
  clear h hR hd hm c0
  go_enter Tryz.func34, Tryz.ntmps34
  go_wp2_with (first
    | (go_at_call 46; refine (ND.out W (Below.refl _ _)).mono ?_; rintro e w1 ⟨rfl, hw⟩; have hw2 := hw.symm; clear hw; subst hw2)
    | (go_at_call 51; refine (PA.out W).mono ?_; rintro e w2 ⟨d, he, h1, h2, h3⟩; have PP := Lib.hid (show PutPost W (wireA m) e w2 from ⟨d, he, h1, h2, h3⟩); unfold bdV at he; subst he; clear h1 h2 h3))
  go_ret
  exact PP.out
end

end Go.Proofs.YtfbojcaedcimcaaGreat

/-
  A tie's Hear.
-/
namespace Go.Proofs.YtfbojcaedcimcaaGreat
open Go.RowKit

/-- What Hear leaves. -/
def HearPost (W : World) (N t : Nat) (F X : Nat → Prop) (T : Te) (up down : List ByteArray) (err : Int) (E : Ending) (w' : World) : Prop :=
  ∃ F' au cu ad cd, E = .returned (.tuple #[.slice au up.length cu, .slice ad down.length cd, .int .i64 err]) ∧ TieAt F' (fun k => X k ∨ F' k) w' N t T ∧ Keep F W w' ∧ (∀ k, F' k → F k ∨ W.heap.size ≤ k) ∧
    WtR (fun k => ¬ (X k ∨ F' k)) w' (.slice au up.length cu) up ∧ WtR (fun k => ¬ (X k ∨ F' k)) w' (.slice ad down.length cd) down

theorem gotB_len (s : ByteArray) : (gotB s).bod.length ≤ 30000 := by
  unfold gotB gotF
  split
  · rename_i h
    unfold okF at h
    have h2 := (Bool.and_eq_true _ _ ▸ h).2
    unfold goodF at h2
    split at h2
    · have := of_decide_eq_true h2
      rw [this]
      exact Nat.zero_le _
    · exact (of_decide_eq_true h2).2
  · exact Nat.zero_le _
theorem lit1_row (w : World) (u : Value) (t : TypeId) : RowV (fun k => k = w.heap.size) (w.alloc (.cells #[u] t)) (some ⟨w.heap.size, 0, none⟩) 1 1 1 [u] := by
  refine ⟨rfl, Nat.le_refl _, by unfold maxLen; omega, (fun e => by cases e), fun j x hj => ⟨w.heap.size, 0, rfl, by simp, rfl, ?_⟩⟩
  have h := World.news_of_block (cs := #[u]) (fr := (0, 0)) (heap_alloc_new w (.cells #[u] t)) j x hj
  rw [Addr.add_lit] at h
  exact h
theorem up_form {Z : Nat → Prop} {M : Nat} {w : World} {v : Value} {ss : List ByteArray} (h : UpR Z M w v ss) : ∃ a cap, v = .slice a ss.length cap ∧ WtR Z w (.slice a ss.length cap) ss := by
  obtain ⟨a, cap, L, rfl, e, hr, hB⟩ := h
  have hl : L.length = ss.length := by rw [← e, List.length_map]
  rw [hl] at hr ⊢
  exact ⟨a, cap, rfl, a, cap, L, by rw [hl], e, by rw [hl]; exact hr.mono (fun k _ h => h.2), fun b hb => (hB b hb).mono (fun k _ h => h.2)⟩

section
variable {F X : Nat → Prop} {W W2 w3 w4 : World} {N t p q rr M n c : Nat} {Fs Fs3 : Nat → Prop} {T : Te} {S' : Sh} {D' : Dk}
/-- Behind an ack. -/
theorem hear_ack {g : Nat} {is : List ByteArray} {v : Value} (h : TieR X W N t p q rr M Fs T) (hX : ∀ k, X k → k < W.heap.size) (hb2 : Below W.heap.size W W2) (hA : ShAt w3 N p Fs3 S') (hK : Keep Fs W2 w3) (hF : ∀ j, Fs3 j → Fs j ∨ W2.heap.size ≤ j)
    (hb : Below w3.heap.size w3 w4) (hv : WtR (fun k => w3.heap.size ≤ k) w4 v ((numd g is).map wireD)) (a : Option Addr) (cap : Nat) (e : v = .slice a is.length cap) :
    HearPost W N t (TieF t q rr Fs) X ⟨S', T.d⟩ [] ((numd g is).map wireD) 0 (.returned (.tuple #[.slice none 0 0, v, .int .i64 0])) w4 := by
  obtain ⟨F', a', cap', e2, hT, hK', hF', hW⟩ := tie_sent (ret := fun v => v) (h.below hb2) (fun k hk => Nat.lt_of_lt_of_le (hX k hk) hb2.size) hA hK hF hb hv rfl a cap e
  cases e2
  have hs := hb2.size
  exact ⟨F', none, 0, a', cap', rfl, hT, (Keep.ofBelow (F := TieF t q rr Fs) hb2).trans hK' (fun _ _ f => f), fun k hk => (hF' k hk).imp id (fun l => by omega), WtR.none _ _, hW⟩
/-- Behind data. -/
theorem hear_data {up : List ByteArray} {a : Option Addr} {cap : Nat} {d : Bd} {s : ByteArray} {ty : TypeId} (h : TieR X w3 N t p q rr M Fs ⟨T.s, D'⟩) (hk : Keep (TieF t q rr Fs) W w3) (hu : WtR (fun k => ¬ X k) w3 (.slice a up.length cap) up) (hX : ∀ k, X k → k < W.heap.size)
    (hs : d.s = s) (hB : BodyV (fun j => w3.heap.size ≤ j) w4 d) (hb : Below w3.heap.size w3 w4) :
    HearPost W N t (TieF t q rr Fs) X ⟨T.s, D'⟩ up [s] 0 (.returned (.tuple #[.slice a up.length cap, .slice (some ⟨w4.heap.size, 0, none⟩) 1 1, .int .i64 0])) (w4.alloc (.cells #[.slice d.a d.s.size d.c] ty)) := by
  have hb5 : Below w4.heap.size w4 (w4.alloc (.cells #[.slice d.a d.s.size d.c] ty)) := (Below.refl _ _).alloc (Nat.le_refl _) _
  have hs3 := hk.size
  have hs4 := hb.size
  have hlt := h.lt
  have hn : ∀ k, W.heap.size ≤ k → ¬ (X k ∨ TieF t q rr Fs k) := fun k hk f => by
    rcases f with f | f
    · have := hX k f; omega
    · have := hX k (h.x k f); omega
  refine ⟨TieF t q rr Fs, a, cap, _, _, rfl, ⟨p, q, rr, M, Fs, ((h.below hb).below hb5).wide (fun k f => Or.inr f) (fun k _ f => f.elim id (h.x k)), rfl⟩, (hk.trans (Keep.ofBelow (F := fun _ => False) hb) (fun _ _ f => f.elim)).trans (Keep.ofBelow (F := fun _ => False) hb5) (fun _ _ f => f.elim), fun k f => Or.inl f, ?_, ?_⟩
  · exact ((hu.mono (fun k _ hx f => f.elim hx (fun f => hx (h.x k f)))).below hb).below hb5
  · refine ⟨_, 1, [d], rfl, by rw [← hs]; rfl, (lit1_row w4 (bdV d) ty).mono (fun k _ e => by subst e; exact hn _ (by omega)), fun b hb' => ?_⟩
    obtain rfl := List.mem_singleton.1 hb'
    exact (hB.below hb5).mono (fun k _ hk => hn k (by omega))

set_option maxRecDepth 20000 in
set_option maxHeartbeats 4000000 in
theorem tie_hear {A : Nat → Prop} {b : Bd} (h : TieAt F X W N t T) (hX : ∀ k, X k → k < W.heap.size) (ho : T.s.ok n) (hn : n ≤ 500) (hd : T.d.ok c) (hc : c < 1000) (hb : BodyV A W b) (hl : b.s.size ≤ 1000000) :
    Calls Tryz.prog 14 #[.pointer (some ⟨t, 0, none⟩), bdV b] W (HearPost W N t F X (T.hear (okB b.s) (gotB b.s)) (T.up (okB b.s) (gotB b.s)) (T.down (okB b.s) (gotB b.s)) (if okB b.s then 0 else 2)) := by
  obtain ⟨p, q, rr, M, Fs, hR, rfl, c0, c1⟩ := tie_cells h
  have GT := Lib.hid (get_body hb hl)
  have hlt := gotF_lt (bsN b.s)
  have hbl := gotB_len b.s
  have hlast := ho.last_le
  obtain ⟨ok, hok⟩ : ∃ x, okB b.s = x := ⟨_, rfl⟩
  obtain ⟨g, hg⟩ : ∃ x, gotB b.s = x := ⟨_, rfl⟩
  change (gotB b.s).num < _ at hlt
  unfold BodGot at GT
  rw [hok, hg] at GT ⊢
  rw [hg] at hlt hbl
  have hltR := hR.lt
  have tl := (hltR t (Or.inl rfl)).2
  have qi := hltR q (Or.inr (Or.inl rfl))
  have ri := hltR rr (Or.inr (Or.inr (Or.inl rfl)))
  unfold bdV at GT ⊢
  clear hb hl hok hg
  cases hok : ok
  · subst hok
    have PP := Lib.hid (fun w' (hb : Below W.heap.size W w') => (show HearPost W N t (TieF t q rr Fs) X T [] [] 2 (.returned (.tuple #[.slice none 0 0, .slice none 0 0, .int .i64 2])) w' from
      ⟨TieF t q rr Fs, none, 0, none, 0, rfl, ⟨p, q, rr, M, Fs, (hR.below hb).wide (fun k f => Or.inr f) (fun k _ f => f.elim id (hR.x k)), rfl⟩, Keep.ofBelow hb, fun k f => Or.inl f, WtR.none _ _, WtR.none _ _⟩))
    have e : (if false = true then (0 : Int) else 2) = 2 := rfl
    rw [e] at GT ⊢
    unfold Te.hear Te.up Te.down
    simp only [Bool.false_eq_true, if_false]
    clear h hR ho hd hlt hbl hlast hltR tl qi ri c0 c1 hX e
    go_enter Tryz.func14, Tryz.ntmps14
    go_wp2_with (go_at_call 31; refine GT.out.mono ?_; rintro e w1 ⟨d, rfl, -, -, hb1⟩; have B1 := Lib.hid (hb1.alloc hb1.size (.cells #[.bool g.ack, .int .u64 (g.num : Int), .slice d.a d.s.size d.c] 81)); clear hb1)
    go_ret3
    exact PP.out _ B1.out
  subst hok
  have e : (if true = true then (0 : Int) else 2) = 0 := rfl
  rw [e] at GT ⊢
  unfold Te.hear Te.up Te.down
  simp only [if_true]
  obtain ⟨ga, nm, bod⟩ := g
  dsimp only at *
  cases hga : ga
  · subst hga
    simp only [Bool.false_eq_true, if_false]
    have hmx := (hd.came (n := nm) (strB bod))
    have TK := Lib.hid (fun (w : World) (hb : Below W.heap.size W w) (d : Bd) (hs : d.s = strB bod) (hB : BodyV (fun j => W.heap.size ≤ j) w d) => (show Calls Tryz.prog 33 #[.pointer (some ⟨q, 0, none⟩), .int .u64 (nm : Nat), .slice d.a d.s.size d.c] w (TakePost (fun k => ¬ X k) w q rr M T.d nm (strB bod)) from by
      have := take_any (hR.d.below hb) hd (Nat.le_of_lt hc) hlt hB (by rw [hs, strB_len]; omega) (fun k hk f => by have := hX k f; have := hb.size; omega)
      rwa [hs] at this ⊢))
    have DR := Lib.hid (fun (w : World) (hb : Below W.heap.size W w) (w3 : World) (hA : DkAt (fun k => ¬ X k) w3 q rr M (T.d.came nm (strB bod))) (hK : Keep (PQ q rr) w w3) => (show TieR X w3 N t p q rr M Fs ⟨T.s, T.d.came nm (strB bod)⟩ ∧ Keep (TieF t q rr Fs) W w3 from by
      obtain ⟨r1, r2⟩ := (hR.below hb).dock hA hK
      exact ⟨r1, (Keep.ofBelow (F := TieF t q rr Fs) hb).trans r2 (fun _ _ f => f)⟩))
    have AK := Lib.hid (fun (w : World) (h : TieR X w N t p q rr M Fs ⟨T.s, T.d.came nm (strB bod)⟩) => tie_ack (c := c + 1) ⟨p, q, rr, M, Fs, h, rfl⟩ hmx hc)
    have DN := Lib.hid (fun (w3 w4 : World) (h3 : TieR X w3 N t p q rr M Fs ⟨T.s, T.d.came nm (strB bod)⟩) (hk : Keep (TieF t q rr Fs) W w3) (a : Option Addr) (cap : Nat) (hu : WtR (fun k => ¬ X k) w3 (.slice a (T.d.gave nm (strB bod)).length cap) (T.d.gave nm (strB bod))) (d : Bd) (hs : d.s = wireA ((T.d.came nm (strB bod)).next - 1)) (hB : BodyV (fun j => w3.heap.size ≤ j) w4 d) (hb : Below w3.heap.size w3 w4) =>
      hear_data (ty := 32) h3 hk hu hX hs hB hb)
    have ht : t < W.heap.size := tl
    have htq : t ≠ q ∧ t ≠ rr := ⟨hR.tq, hR.tr⟩
    clear h hR ho hd hlt hbl hlast hltR hX e
    go_enter Tryz.func14, Tryz.ntmps14
    go_upto_region 6 with (go_at_call 31; refine GT.out.mono ?_; rintro e w1 ⟨d, rfl, hs1, hB1, hb1⟩; have BW := Lib.hid hb1; have HB1 := Lib.hid hB1; have HS1 := Lib.hid hs1; clear hb1 hB1 hs1)
    try unfold bdV
    have b2 : Below W.heap.size W (w1.alloc (.cells #[.bool false, .int .u64 (nm : Int), .slice d.a d.s.size d.c] 81)) := BW.out.alloc BW.out.size _
    have f1 : (w1.alloc (.cells #[.bool false, .int .u64 (nm : Int), .slice d.a d.s.size d.c] 81)).cell? ⟨w1.heap.size, 1, none⟩ = some (.int .u64 (nm : Int)) := by simp
    have f2 : (w1.alloc (.cells #[.bool false, .int .u64 (nm : Int), .slice d.a d.s.size d.c] 81)).cell? ⟨w1.heap.size, 2, none⟩ = some (.slice d.a d.s.size d.c) := by simp
    have BD0 : BodyV (fun j => W.heap.size ≤ j) (w1.alloc (.cells #[.bool false, .int .u64 (nm : Int), .slice d.a d.s.size d.c] 81)) d := HB1.out.below ((Below.refl _ _).alloc (Nat.le_refl _) _)
    have l2 : w1.heap.size < (w1.alloc (.cells #[.bool false, .int .u64 (nm : Int), .slice d.a d.s.size d.c] 81)).heap.size := by simp
    generalize w1.alloc (.cells #[.bool false, .int .u64 (nm : Int), .slice d.a d.s.size d.c] 81) = W2 at *
    have BW2 := Lib.hid (show Below W.heap.size W W2.drew from b2.drew)
    have BD := Lib.hid (show BodyV (fun j => W.heap.size ≤ j) W2.drew d from BD0.below (drew_below W2))
    have e0 : W2.drew.cell? ⟨t, 1, none⟩ = some (.pointer (some ⟨q, 0, none⟩)) := cell_go c1 BW2.out
    have e1 : W2.drew.cell? ⟨w1.heap.size, 1, none⟩ = some (.int .u64 (nm : Int)) := f1
    have e2 : W2.drew.cell? ⟨w1.heap.size, 2, none⟩ = some (.slice d.a d.s.size d.c) := f2
    have LT := Lib.hid (show t < W2.drew.heap.size ∧ ¬ PQ q rr t ∧ w1.heap.size < W2.drew.heap.size ∧ ¬ PQ q rr w1.heap.size from ⟨Nat.lt_of_lt_of_le ht b2.size, fun f => f.elim htq.1 htq.2, l2, fun f => by have := BW.out.size; rcases f with f | f <;> omega⟩)
    clear b2 f1 f2 l2 BD0 c0 c1 GT
    have TKd := Lib.hid (TK.out W2.drew BW2.out d HS1.out BD.out)
    refine wp_region_noPanic ?_
    refine wp_region_held_drew (S := (fun w' => w'.cell? ⟨t, 1, none⟩ = some (.pointer (some ⟨q, 0, none⟩)) ∧ w'.cell? ⟨w1.heap.size, 1, none⟩ = some (.int .u64 (nm : Int)) ∧ w'.cell? ⟨w1.heap.size, 2, none⟩ = some (.slice d.a d.s.size d.c))) (by kernel_rfl) ?_ (fun hHeld => ?_)
    · exact ⟨e0, e1, e2⟩
    refine wpAnyH_take (i := 0) (oi := { dst := some 27, op := Op.move (Operand.tmp 0), type := 24, pos := "tie.go:54", after := #[], guard := none }) (v := ?_) rfl (by kernel_rfl) (by kernel_rfl) (by kernel_rfl) (fun _ _ _ h => h) (Or.inl ⟨by rfl, ?_⟩) (by assumption) ?_
    rotate_left
    · (intro w hSw; (try dsimp only at hSw); go_simp; try with_reducible rfl)
    ((try simp only [Act.put]); (try simp only [List.setIfInBounds_toArray]); (try simp only [List.set_cons_succ]); (try simp only [List.set_cons_zero]))
    refine wpAnyH_take (i := 1) (oi := { dst := some 28, op := Op.nilCheck (Operand.tmp 27), type := 0, pos := "tie.go:54", after := #[{ on := 0, ground := Ground.data }], guard := none }) (v := ?_) rfl (by kernel_rfl) (by kernel_rfl) (by kernel_rfl) (fun _ _ _ h => h) (Or.inl ⟨by rfl, ?_⟩) (by assumption) ?_
    rotate_left
    · (intro w hSw; (try dsimp only at hSw); go_simp; try with_reducible rfl)
    ((try simp only [Act.put]); (try simp only [List.setIfInBounds_toArray]); (try simp only [List.set_cons_succ]); (try simp only [List.set_cons_zero]))
    refine wpAnyH_take (i := 2) (oi := { dst := some 29, op := Op.fieldAddr 73 (Operand.tmp 28) 1, type := 0, pos := "tie.go:54", after := #[{ on := 1, ground := Ground.data }], guard := none }) (v := ?_) rfl (by kernel_rfl) (by kernel_rfl) (by kernel_rfl) (fun _ _ _ h => h) (Or.inl ⟨by rfl, ?_⟩) (by assumption) ?_
    rotate_left
    · (intro w hSw; (try dsimp only at hSw); go_simp; try with_reducible rfl)
    ((try simp only [Act.put]); (try simp only [List.setIfInBounds_toArray]); (try simp only [List.set_cons_succ]); (try simp only [List.set_cons_zero]))
    refine wpAnyH_take (i := 3) (oi := { dst := some 30, op := Op.load 69 (Operand.tmp 29), type := 69, pos := "tie.go:54", after := #[{ on := 2, ground := Ground.data }], guard := none }) (v := ?_) rfl (by kernel_rfl) (by kernel_rfl) (by kernel_rfl) (fun _ _ _ h => h) (Or.inl ⟨by rfl, ?_⟩) (by assumption) ?_
    rotate_left
    · (intro w hSw; (try dsimp only at hSw); go_simp; try with_reducible rfl)
    ((try simp only [Act.put]); (try simp only [List.setIfInBounds_toArray]); (try simp only [List.set_cons_succ]); (try simp only [List.set_cons_zero]))
    refine wpAnyH_take (i := 4) (oi := { dst := some 31, op := Op.fieldAddr 81 (Operand.tmp 7) 1, type := 0, pos := "tie.go:54", after := #[], guard := none }) (v := ?_) rfl (by kernel_rfl) (by kernel_rfl) (by kernel_rfl) (fun _ _ _ h => h) (Or.inl ⟨by rfl, ?_⟩) (by assumption) ?_
    rotate_left
    · (intro w hSw; (try dsimp only at hSw); go_simp; try with_reducible rfl)
    ((try simp only [Act.put]); (try simp only [List.setIfInBounds_toArray]); (try simp only [List.set_cons_succ]); (try simp only [List.set_cons_zero]))
    refine wpAnyH_take (i := 5) (oi := { dst := some 32, op := Op.load 47 (Operand.tmp 31), type := 47, pos := "tie.go:54", after := #[{ on := 4, ground := Ground.data }], guard := none }) (v := ?_) rfl (by kernel_rfl) (by kernel_rfl) (by kernel_rfl) (fun _ _ _ h => h) (Or.inl ⟨by rfl, ?_⟩) (by assumption) ?_
    rotate_left
    · (intro w hSw; (try dsimp only at hSw); go_simp; try with_reducible rfl)
    ((try simp only [Act.put]); (try simp only [List.setIfInBounds_toArray]); (try simp only [List.set_cons_succ]); (try simp only [List.set_cons_zero]))
    refine wpAnyH_take (i := 6) (oi := { dst := some 33, op := Op.fieldAddr 81 (Operand.tmp 7) 2, type := 0, pos := "tie.go:54", after := #[], guard := none }) (v := ?_) rfl (by kernel_rfl) (by kernel_rfl) (by kernel_rfl) (fun _ _ _ h => h) (Or.inl ⟨by rfl, ?_⟩) (by assumption) ?_
    rotate_left
    · (intro w hSw; (try dsimp only at hSw); go_simp; try with_reducible rfl)
    ((try simp only [Act.put]); (try simp only [List.setIfInBounds_toArray]); (try simp only [List.set_cons_succ]); (try simp only [List.set_cons_zero]))
    refine wpAnyH_take (i := 7) (oi := { dst := some 34, op := Op.load 32 (Operand.tmp 33), type := 32, pos := "tie.go:54", after := #[{ on := 6, ground := Ground.data }], guard := none }) (v := ?_) rfl (by kernel_rfl) (by kernel_rfl) (by kernel_rfl) (fun _ _ _ h => h) (Or.inl ⟨by rfl, ?_⟩) (by assumption) ?_
    rotate_left
    · (intro w hSw; (try dsimp only at hSw); go_simp; try with_reducible rfl)
    ((try simp only [Act.put]); (try simp only [List.setIfInBounds_toArray]); (try simp only [List.set_cons_succ]); (try simp only [List.set_cons_zero]))
    refine wpAnyH_ready (rs := [8]) (by kernel_rfl) (by simp) ?_
    refine AllReadyH.cons (o := { dst := some 35, op := Op.call { callee := Callee.value (Operand.func 33), args := #[Operand.tmp 30, Operand.tmp 32, Operand.tmp 34], argTypes := #[69, 47, 32] }, type := 37, pos := "tie.go:54", after := #[{ on := 3, ground := Ground.data }, { on := 5, ground := Ground.data }, { on := 7, ground := Ground.data }], guard := none }) rfl (fun K hK => ?_) AllReadyH.nil
    go_simp
    refine TKd.out.mono ?_
    rintro e w3 ⟨v, he, hu, hA, hK⟩
    obtain ⟨a3, k3, rfl, hu2⟩ := up_form hu
    subst he
    have S3 := Lib.hid (show w3.cell? ⟨t, 1, none⟩ = some (.pointer (some ⟨q, 0, none⟩)) ∧ w3.cell? ⟨w1.heap.size, 1, none⟩ = some (.int .u64 (nm : Int)) ∧ w3.cell? ⟨w1.heap.size, 2, none⟩ = some (.slice d.a d.s.size d.c) from ⟨(hK.cell (p := ⟨t, 1, none⟩) LT.out.1 LT.out.2.1).trans e0, (hK.cell (p := ⟨w1.heap.size, 1, none⟩) LT.out.2.2.1 LT.out.2.2.2).trans e1, (hK.cell (p := ⟨w1.heap.size, 2, none⟩) LT.out.2.2.1 LT.out.2.2.2).trans e2⟩)
    have R3 := Lib.hid (DR.out W2.drew BW2.out w3 hA hK)
    have U3 := Lib.hid hu2
    clear hu hA hK hu2
    try go_wp2_with fail
    refine hK.out _ _ ?_ (fun hNew => ?_)
    · first | exact hHeld | exact S3.out
    clear hK K
    replace hHeld := hNew
    clear hNew
    ((try simp only [Act.put]); (try simp only [List.setIfInBounds_toArray]); (try simp only [List.set_cons_succ]); (try simp only [List.set_cons_zero]))
    refine wpAnyH_take (i := 9) (oi := { dst := some 26, op := Op.move (Operand.tmp 35), type := 37, pos := "tie.go:54", after := #[{ on := 8, ground := Ground.data }], guard := none }) (v := ?_) rfl (by kernel_rfl) (by kernel_rfl) (by kernel_rfl) (fun _ _ _ h => h) (Or.inl ⟨by rfl, ?_⟩) (by assumption) ?_
    rotate_left
    · (intro w hSw; (try dsimp only at hSw); go_simp; try with_reducible rfl)
    ((try simp only [Act.put]); (try simp only [List.setIfInBounds_toArray]); (try simp only [List.set_cons_succ]); (try simp only [List.set_cons_zero]))
    refine wpAnyH_take (i := 10) (oi := { dst := some 36, op := Op.extract (Operand.tmp 26) 0, type := 36, pos := "tie.go:54", after := #[{ on := 9, ground := Ground.data }], guard := none }) (v := ?_) rfl (by kernel_rfl) (by kernel_rfl) (by kernel_rfl) (fun _ _ _ h => h) (Or.inl ⟨by rfl, ?_⟩) (by assumption) ?_
    rotate_left
    · (intro w hSw; (try dsimp only at hSw); go_simp; try with_reducible rfl)
    ((try simp only [Act.put]); (try simp only [List.setIfInBounds_toArray]); (try simp only [List.set_cons_succ]); (try simp only [List.set_cons_zero]))
    refine wpAnyH_take (i := 11) (oi := { dst := some 37, op := Op.extract (Operand.tmp 26) 1, type := 4, pos := "tie.go:54", after := #[{ on := 9, ground := Ground.data }, { on := 12, ground := Ground.gcOnly Departure.lateStores }], guard := none }) (v := ?_) rfl (by kernel_rfl) (by kernel_rfl) (by kernel_rfl) (fun _ _ _ h => h) (Or.inl ⟨by rfl, ?_⟩) (by assumption) ?_
    rotate_left
    · (intro w hSw; (try dsimp only at hSw); go_simp; try with_reducible rfl)
    ((try simp only [Act.put]); (try simp only [List.setIfInBounds_toArray]); (try simp only [List.set_cons_succ]); (try simp only [List.set_cons_zero]))
    refine wpAnyH_take (i := 12) (oi := { dst := some 4, op := Op.assign (Operand.tmp 36), type := 36, pos := "tie.go:54", after := #[{ on := 10, ground := Ground.data }, { on := 8, ground := Ground.chain }, { on := 0, ground := Ground.phase }, { on := 1, ground := Ground.phase }, { on := 2, ground := Ground.phase }, { on := 3, ground := Ground.phase }, { on := 4, ground := Ground.phase }, { on := 5, ground := Ground.phase }, { on := 6, ground := Ground.phase }, { on := 7, ground := Ground.phase }, { on := 8, ground := Ground.phase }, { on := 9, ground := Ground.phase }, { on := 10, ground := Ground.phase }, { on := 11, ground := Ground.textOnly Departure.lateStores }], guard := none }) (v := ?_) rfl (by kernel_rfl) (by kernel_rfl) (by kernel_rfl) (fun _ _ _ h => h) (Or.inl ⟨by rfl, ?_⟩) (by assumption) ?_
    rotate_left
    · (intro w hSw; (try dsimp only at hSw); go_simp; try with_reducible rfl)
    ((try simp only [Act.put]); (try simp only [List.setIfInBounds_toArray]); (try simp only [List.set_cons_succ]); (try simp only [List.set_cons_zero]))
    refine wpAnyH_done (by kernel_rfl) ?_ _
    refine NoPanic.normal ?_
    go_wp2_with (go_at_call 34; refine (AK.out w3 R3.out.1).mono ?_; rintro e w4 ⟨d4, he, hs4, hB4, hb4⟩; have PP := Lib.hid (DN.out w3 w4 R3.out.1 R3.out.2 _ _ U3.out d4 hs4 hB4 hb4); unfold bdV at he; subst he; clear hs4 hB4 hb4)
    go_ret3
    exact PP.out

  · subst hga
    simp only [if_true]
    have AC := Lib.hid (fun (w : World) (hb : Below W.heap.size W w) => ack_any (k := nm) (hR.s.below hb) ho hn)
    have hln : (T.s.ackI nm).length ≤ 1000 := by
      have h1 := (goes_acked (k := nm) ho).1
      have h2 := (ho.acked (k := nm)).last_le
      omega
    have FI := Lib.hid (fun (w1 : World) (v : Value) (A : Nat → Prop) (hi : ItR A w1 v T.s.last (T.s.ackI nm)) => framed_any hi hln (by omega))
    have DN := Lib.hid (fun (W2 : World) (hb2 : Below W.heap.size W W2) (w3 w4 : World) (Fs3 : Nat → Prop) (hA : ShAt w3 N p Fs3 (T.s.acked nm)) (hK : Keep Fs W2 w3) (hF : ∀ j, Fs3 j → Fs j ∨ W2.heap.size ≤ j) (hb : Below w3.heap.size w3 w4) (v : Value) (hv : WtR (fun k => w3.heap.size ≤ k) w4 v ((numd T.s.last (T.s.ackI nm)).map wireD)) (a : Option Addr) (cap : Nat) (e : v = .slice a (T.s.ackI nm).length cap) =>
      hear_ack hR hX hb2 hA hK hF hb hv a cap e)
    have ht : t < W.heap.size := tl
    have hst : ¬ Fs t := hR.st
    have HS := Lib.hid (fun k (h : Fs k) => (hltR k (Or.inr (Or.inr (Or.inr h)))).2)
    clear h hR ho hd hlt hbl hlast hltR hX e hln
    go_enter Tryz.func14, Tryz.ntmps14
    go_upto_region 5 with (go_at_call 31; refine GT.out.mono ?_; rintro e w1 ⟨d, rfl, hs1, hB1, hb1⟩; have BW := Lib.hid hb1; clear hb1 hB1 hs1)
    try unfold bdV
    have b2 : Below W.heap.size W (w1.alloc (.cells #[.bool true, .int .u64 (nm : Int), .slice d.a d.s.size d.c] 81)) := BW.out.alloc BW.out.size _
    have f1 : (w1.alloc (.cells #[.bool true, .int .u64 (nm : Int), .slice d.a d.s.size d.c] 81)).cell? ⟨w1.heap.size, 1, none⟩ = some (.int .u64 (nm : Int)) := by simp
    have l2 : w1.heap.size < (w1.alloc (.cells #[.bool true, .int .u64 (nm : Int), .slice d.a d.s.size d.c] 81)).heap.size := by simp
    generalize w1.alloc (.cells #[.bool true, .int .u64 (nm : Int), .slice d.a d.s.size d.c] 81) = W2 at *
    have BW2 := Lib.hid (show Below W.heap.size W W2.drew from b2.drew)
    have e0 : W2.drew.cell? ⟨t, 0, none⟩ = some (.pointer (some ⟨p, 0, none⟩)) := cell_go c0 BW2.out
    have e1 : W2.drew.cell? ⟨w1.heap.size, 1, none⟩ = some (.int .u64 (nm : Int)) := f1
    have LT := Lib.hid (show t < W2.drew.heap.size ∧ ¬ Fs t ∧ w1.heap.size < W2.drew.heap.size ∧ ¬ Fs w1.heap.size from ⟨Nat.lt_of_lt_of_le ht b2.size, hst, l2, fun f => by have := BW.out.size; have := HS.out _ f; omega⟩)
    clear b2 f1 l2 c0 c1 GT
    refine wp_region_noPanic ?_
    refine wp_region_held_drew (S := (fun w' => w'.cell? ⟨t, 0, none⟩ = some (.pointer (some ⟨p, 0, none⟩)) ∧ w'.cell? ⟨w1.heap.size, 1, none⟩ = some (.int .u64 (nm : Int)))) (by kernel_rfl) ?_ (fun hHeld => ?_)
    · exact ⟨e0, e1⟩
    refine wpAnyH_take (i := 0) (oi := { dst := some 18, op := Op.move (Operand.tmp 0), type := 24, pos := "tie.go:52", after := #[], guard := none }) (v := ?_) rfl (by kernel_rfl) (by kernel_rfl) (by kernel_rfl) (fun _ _ _ h => h) (Or.inl ⟨by rfl, ?_⟩) (by assumption) ?_
    rotate_left
    · (intro w hSw; (try dsimp only at hSw); go_simp; try with_reducible rfl)
    ((try simp only [Act.put]); (try simp only [List.setIfInBounds_toArray]); (try simp only [List.set_cons_succ]); (try simp only [List.set_cons_zero]))
    refine wpAnyH_take (i := 1) (oi := { dst := some 19, op := Op.nilCheck (Operand.tmp 18), type := 0, pos := "tie.go:52", after := #[{ on := 0, ground := Ground.data }], guard := none }) (v := ?_) rfl (by kernel_rfl) (by kernel_rfl) (by kernel_rfl) (fun _ _ _ h => h) (Or.inl ⟨by rfl, ?_⟩) (by assumption) ?_
    rotate_left
    · (intro w hSw; (try dsimp only at hSw); go_simp; try with_reducible rfl)
    ((try simp only [Act.put]); (try simp only [List.setIfInBounds_toArray]); (try simp only [List.set_cons_succ]); (try simp only [List.set_cons_zero]))
    refine wpAnyH_take (i := 2) (oi := { dst := some 20, op := Op.fieldAddr 73 (Operand.tmp 19) 0, type := 0, pos := "tie.go:52", after := #[{ on := 1, ground := Ground.data }], guard := none }) (v := ?_) rfl (by kernel_rfl) (by kernel_rfl) (by kernel_rfl) (fun _ _ _ h => h) (Or.inl ⟨by rfl, ?_⟩) (by assumption) ?_
    rotate_left
    · (intro w hSw; (try dsimp only at hSw); go_simp; try with_reducible rfl)
    ((try simp only [Act.put]); (try simp only [List.setIfInBounds_toArray]); (try simp only [List.set_cons_succ]); (try simp only [List.set_cons_zero]))
    refine wpAnyH_take (i := 3) (oi := { dst := some 21, op := Op.load 66 (Operand.tmp 20), type := 66, pos := "tie.go:52", after := #[{ on := 2, ground := Ground.data }], guard := none }) (v := ?_) rfl (by kernel_rfl) (by kernel_rfl) (by kernel_rfl) (fun _ _ _ h => h) (Or.inl ⟨by rfl, ?_⟩) (by assumption) ?_
    rotate_left
    · (intro w hSw; (try dsimp only at hSw); go_simp; try with_reducible rfl)
    ((try simp only [Act.put]); (try simp only [List.setIfInBounds_toArray]); (try simp only [List.set_cons_succ]); (try simp only [List.set_cons_zero]))
    refine wpAnyH_take (i := 4) (oi := { dst := some 22, op := Op.fieldAddr 81 (Operand.tmp 7) 1, type := 0, pos := "tie.go:52", after := #[], guard := none }) (v := ?_) rfl (by kernel_rfl) (by kernel_rfl) (by kernel_rfl) (fun _ _ _ h => h) (Or.inl ⟨by rfl, ?_⟩) (by assumption) ?_
    rotate_left
    · (intro w hSw; (try dsimp only at hSw); go_simp; try with_reducible rfl)
    ((try simp only [Act.put]); (try simp only [List.setIfInBounds_toArray]); (try simp only [List.set_cons_succ]); (try simp only [List.set_cons_zero]))
    refine wpAnyH_take (i := 5) (oi := { dst := some 23, op := Op.load 47 (Operand.tmp 22), type := 47, pos := "tie.go:52", after := #[{ on := 4, ground := Ground.data }], guard := none }) (v := ?_) rfl (by kernel_rfl) (by kernel_rfl) (by kernel_rfl) (fun _ _ _ h => h) (Or.inl ⟨by rfl, ?_⟩) (by assumption) ?_
    rotate_left
    · (intro w hSw; (try dsimp only at hSw); go_simp; try with_reducible rfl)
    ((try simp only [Act.put]); (try simp only [List.setIfInBounds_toArray]); (try simp only [List.set_cons_succ]); (try simp only [List.set_cons_zero]))
    refine wpAnyH_ready (rs := [6]) (by kernel_rfl) (by simp) ?_
    refine AllReadyH.cons (o := { dst := some 24, op := Op.call { callee := Callee.value (Operand.func 32), args := #[Operand.tmp 21, Operand.tmp 23], argTypes := #[66, 47] }, type := 75, pos := "tie.go:52", after := #[{ on := 3, ground := Ground.data }, { on := 5, ground := Ground.data }], guard := none }) rfl (fun K hK => ?_) AllReadyH.nil
    go_simp
    refine (AC.out W2.drew BW2.out).mono ?_
    rintro e w3 ⟨Fs3, a3, k3, rfl, hA, hK, hF, hi⟩
    have HA := Lib.hid hA
    have HK := Lib.hid hK
    have HF := Lib.hid hF
    have HI := Lib.hid hi
    have S3 := Lib.hid (show w3.cell? ⟨t, 0, none⟩ = some (.pointer (some ⟨p, 0, none⟩)) ∧ w3.cell? ⟨w1.heap.size, 1, none⟩ = some (.int .u64 (nm : Int)) from ⟨(hK.cell (p := ⟨t, 0, none⟩) LT.out.1 LT.out.2.1).trans e0, (hK.cell (p := ⟨w1.heap.size, 1, none⟩) LT.out.2.2.1 LT.out.2.2.2).trans e1⟩)
    clear hA hK hF hi
    try go_wp2_with fail
    refine hK.out _ _ ?_ (fun hNew => ?_)
    · first | exact hHeld | exact S4.out | exact S3.out
    clear hK K
    replace hHeld := hNew
    clear hNew
    ((try simp only [Act.put]); (try simp only [List.setIfInBounds_toArray]); (try simp only [List.set_cons_succ]); (try simp only [List.set_cons_zero]))
    refine wpAnyH_ready (rs := [7]) (by kernel_rfl) (by simp) ?_
    refine AllReadyH.cons (o := { dst := some 25, op := Op.call { callee := Callee.value (Operand.func 28), args := #[Operand.tmp 24], argTypes := #[75] }, type := 36, pos := "tie.go:52", after := #[{ on := 6, ground := Ground.data }, { on := 6, ground := Ground.chain }], guard := none }) rfl (fun K hK => ?_) AllReadyH.nil
    go_simp
    refine (FI.out w3 _ _ HI.out).mono ?_
    rintro e w4 ⟨a4, k4, he, hv, hb4⟩
    rw [numd_map] at he hv
    subst he
    have S4 := Lib.hid (show w4.cell? ⟨t, 0, none⟩ = some (.pointer (some ⟨p, 0, none⟩)) ∧ w4.cell? ⟨w1.heap.size, 1, none⟩ = some (.int .u64 (nm : Int)) from ⟨cell_go S3.out.1 hb4, cell_go S3.out.2 hb4⟩)
    have PP := Lib.hid (DN.out W2.drew BW2.out w3 w4 Fs3 HA.out HK.out HF.out hb4 _ hv a4 k4 rfl)
    clear hv hb4
    try go_wp2_with fail
    refine hK.out _ _ ?_ (fun hNew => ?_)
    · first | exact hHeld | exact S4.out | exact S3.out
    clear hK K
    replace hHeld := hNew
    clear hNew
    ((try simp only [Act.put]); (try simp only [List.setIfInBounds_toArray]); (try simp only [List.set_cons_succ]); (try simp only [List.set_cons_zero]))
    refine wpAnyH_take (i := 8) (oi := { dst := some 4, op := Op.assign (Operand.const (Value.slice none 0 0)), type := 36, pos := "tie.go:52", after := #[{ on := 7, ground := Ground.chain }, { on := 0, ground := Ground.textOnly Departure.lateStores }, { on := 1, ground := Ground.textOnly Departure.lateStores }, { on := 2, ground := Ground.textOnly Departure.lateStores }, { on := 3, ground := Ground.textOnly Departure.lateStores }, { on := 4, ground := Ground.textOnly Departure.lateStores }, { on := 5, ground := Ground.textOnly Departure.lateStores }, { on := 6, ground := Ground.textOnly Departure.lateStoresUnsure }, { on := 7, ground := Ground.textOnly Departure.lateStoresUnsure }], guard := none }) (v := ?_) rfl (by kernel_rfl) (by kernel_rfl) (by kernel_rfl) (fun _ _ _ h => h) (Or.inl ⟨by rfl, ?_⟩) (by assumption) ?_
    rotate_left
    · (intro w hSw; (try dsimp only at hSw); go_simp; try with_reducible rfl)
    ((try simp only [Act.put]); (try simp only [List.setIfInBounds_toArray]); (try simp only [List.set_cons_succ]); (try simp only [List.set_cons_zero]))
    refine wpAnyH_take (i := 9) (oi := { dst := some 5, op := Op.assign (Operand.tmp 25), type := 36, pos := "tie.go:52", after := #[{ on := 7, ground := Ground.data }, { on := 8, ground := Ground.chain }, { on := 0, ground := Ground.phase }, { on := 1, ground := Ground.phase }, { on := 2, ground := Ground.phase }, { on := 3, ground := Ground.phase }, { on := 4, ground := Ground.phase }, { on := 5, ground := Ground.phase }, { on := 6, ground := Ground.phase }, { on := 7, ground := Ground.phase }, { on := 8, ground := Ground.phase }], guard := none }) (v := ?_) rfl (by kernel_rfl) (by kernel_rfl) (by kernel_rfl) (fun _ _ _ h => h) (Or.inl ⟨by rfl, ?_⟩) (by assumption) ?_
    rotate_left
    · (intro w hSw; (try dsimp only at hSw); go_simp; try with_reducible rfl)
    ((try simp only [Act.put]); (try simp only [List.setIfInBounds_toArray]); (try simp only [List.set_cons_succ]); (try simp only [List.set_cons_zero]))
    refine wpAnyH_take (i := 10) (oi := { dst := some 6, op := Op.assign (Operand.const (Value.int IntKind.i64 0)), type := 25, pos := "tie.go:52", after := #[{ on := 9, ground := Ground.chain }, { on := 0, ground := Ground.phase }, { on := 1, ground := Ground.phase }, { on := 2, ground := Ground.phase }, { on := 3, ground := Ground.phase }, { on := 4, ground := Ground.phase }, { on := 5, ground := Ground.phase }, { on := 6, ground := Ground.phase }, { on := 7, ground := Ground.phase }, { on := 8, ground := Ground.phase }, { on := 9, ground := Ground.phase }], guard := none }) (v := ?_) rfl (by kernel_rfl) (by kernel_rfl) (by kernel_rfl) (fun _ _ _ h => h) (Or.inl ⟨by rfl, ?_⟩) (by assumption) ?_
    rotate_left
    · (intro w hSw; (try dsimp only at hSw); go_simp; try with_reducible rfl)
    ((try simp only [Act.put]); (try simp only [List.setIfInBounds_toArray]); (try simp only [List.set_cons_succ]); (try simp only [List.set_cons_zero]))
    refine wpAnyH_done (by kernel_rfl) ?_ _
    refine NoPanic.normal ?_
    go_wp2_with fail
    go_ret3
    exact PP.out

end

end Go.Proofs.YtfbojcaedcimcaaGreat

/-
  A tie's Tick, New, Room; data that is too long.
-/
namespace Go.Proofs.YtfbojcaedcimcaaGreat
open Go.RowKit

section
variable {F X : Nat → Prop} {W : World} {N t n c : Nat} {T : Te}
set_option maxHeartbeats 2000000 in
theorem tie_tick (h : TieAt F X W N t T) (hX : ∀ k, X k → k < W.heap.size) (ho : T.s.ok n) (hn : n ≤ 500) :
    Calls Tryz.prog 19 #[.pointer (some ⟨t, 0, none⟩)] W (TiePost W N t F X T.tick (fun v => v) T.tickO) := by
  obtain ⟨p, q, rr, M, Fs, hR, rfl, c0, -⟩ := tie_cells h
  have SP := Lib.hid (tick_any hR.s ho hn)
  have hln : T.s.tickI.length ≤ 1000 := by
    unfold Sh.tickI
    split
    · rw [T.s.out_len]
      have := T.s.n_le
      have := ho.all
      omega
    · exact Nat.zero_le _
  have hlg : T.s.g ≤ 1000000 := by have := ho.g; have := ho.all; omega
  have FI := Lib.hid (fun (w1 : World) (v : Value) (A : Nat → Prop) (hi : ItR A w1 v T.s.g T.s.tickI) => framed_any hi hln hlg)
  have DN := Lib.hid (fun (w1 w2 : World) (Fs' : Nat → Prop) (hA : ShAt w1 N p Fs' T.s.tick) (hK : Keep Fs W w1) (hF : ∀ j, Fs' j → Fs j ∨ W.heap.size ≤ j) (hb : Below w1.heap.size w1 w2) (v : Value) (hv : WtR (fun k => w1.heap.size ≤ k) w2 v ((numd T.s.g T.s.tickI).map wireD)) (k0 : Nat) (hk : k0 = T.s.tickI.length) (a : Option Addr) (cap : Nat) (e : v = .slice a k0 cap) =>
    tie_sent (ret := fun v => v) hR hX hA hK hF hb hv hk a cap e)
  show Calls _ _ _ _ (TiePost W N t (TieF t q rr Fs) X ⟨T.s.tick, T.d⟩ _ ((numd T.s.g T.s.tickI).map wireD))
  obtain ⟨is, his⟩ : ∃ is, T.s.tickI = is := ⟨_, rfl⟩
  rw [his] at SP DN FI ⊢
  clear h hR ho hln hlg hX his
  go_enter Tryz.func19, Tryz.ntmps19
  go_wp2_with (first
    | (go_at_call 41; refine SP.out.mono ?_
       rintro e w1 ⟨Fs', a, cap, rfl, hA, hK, hF, hi⟩
       have HA := Lib.hid hA
       have HK := Lib.hid hK
       have HF := Lib.hid hF
       have HI := Lib.hid hi
       clear hA hK hF hi)
    | (go_at_call 28; refine (FI.out w1 _ _ HI.out).mono ?_
       rintro e w2 ⟨a2, cap2, he, hv, hb2⟩
       rw [numd_map] at he hv
       subst he
       have PP := Lib.hid (DN.out w1 w2 Fs' HA.out HK.out HF.out hb2 _ hv _ rfl a2 cap2 rfl)
       clear hv hb2))
  go_ret
  exact PP.out

/-- Data that is too long is refused. -/
theorem tie_long {v : Value} {a : Option Addr} {len cap : Nat} {r : Bool} (hl : 30000 < len) :
    Calls Tryz.prog 10 #[v, .slice a len cap, .bool r] W fun E w' => E = .returned (.tuple #[.slice none 0 0, .bool false]) ∧ w' = W := by
  have d1 : decide ((len : Int) > 30000) = true := decide_eq_true (by omega)
  have d2 : decide (30000 < len) = true := decide_eq_true hl
  clear hl
  go_enter Tryz.func10, Tryz.ntmps10
  go_wp2_with fail
  go_ret2
  exact ⟨rfl, rfl⟩

theorem tie_room (h : TieAt F X W N t T) (ho : T.s.ok n) (r : Bool) : Calls Tryz.prog 8 #[.pointer (some ⟨t, 0, none⟩), .bool r] W fun E w' => E = .returned (.bool (T.s.room r)) ∧ ∃ n, w' = W.drewN n := by
  obtain ⟨p, q, rr, M, Fs, hR, rfl, c0, -⟩ := tie_cells h
  have RM := Lib.hid (room_any hR.s ho r)
  clear h hR ho
  generalize T.s.room r = b at *
  go_enter Tryz.func8, Tryz.ntmps8
  go_wp2_with (go_at_call 26; refine RM.out.mono ?_; rintro e w1 ⟨rfl, k, rfl⟩)
  go_ret
  exact ⟨rfl, _, rfl⟩

/-- A new one. -/
def TieNew (W : World) (T : Te) (E : Ending) (w' : World) : Prop :=
  ∃ t F, E = .returned (.tuple #[.pointer (some ⟨t, 0, none⟩), .int .i64 0]) ∧ (∀ X : Nat → Prop, (∀ k, F k → X k) → TieAt F X w' W.heap.size t T) ∧ Below W.heap.size W w'

theorem tie_fresh {w1 w2 : World} {p q r wi qu f m : Nat} {Fs : Nat → Prop} {ty : TypeId} (hA : ShAt w1 W.heap.size p Fs (Sh.new wi qu f m)) (hb1 : Below W.heap.size W w1) (hD : ∀ Z : Nat → Prop, DkAt Z w2 q r w2.heap.size (Dk.new wi))
    (hq : w1.heap.size ≤ q) (hr : w1.heap.size ≤ r) (hb2 : Below w1.heap.size w1 w2) :
    TieNew W (Te.new wi qu f m) (.returned (.tuple #[.pointer (some ⟨w2.heap.size, 0, none⟩), .int .i64 0])) (w2.alloc (.cells #[.pointer (some ⟨p, 0, none⟩), .pointer (some ⟨q, 0, none⟩)] ty)) := by
  have hc := (Cel.new w2 [.pointer (some ⟨p, 0, none⟩), .pointer (some ⟨q, 0, none⟩)] ty).conv (V2 := tiC p q) (fun o ho => by
    match o, ho with
    | 0, _ => rfl
    | 1, _ => rfl)
  have hb3 : Below w2.heap.size w2 (w2.alloc (.cells #[.pointer (some ⟨p, 0, none⟩), .pointer (some ⟨q, 0, none⟩)] ty)) := (Below.refl _ _).alloc (Nat.le_refl _) _
  have hlt := fun k h => (hA.size.2.2 k h)
  have hd := (hD (fun _ => True)).lt
  have h1 := hb1.size
  have h2 := hb2.size
  refine ⟨w2.heap.size, TieF w2.heap.size q r Fs, rfl, fun X hx => ⟨p, q, r, w2.heap.size, Fs, ⟨hc, (hA.below hb2).below hb3, (hD _).below hb3, fun e => ?_, fun e => ?_, fun e => ?_, by omega, by omega, by omega, hx⟩, rfl⟩, (hb1.trans (hb2.mono h1)).trans (hb3.mono (by omega))⟩
  · have := (hlt _ e).2; omega
  · have := (hlt _ e).2; omega
  · have := (hlt _ e).2; omega

theorem tie_new (wi qu f m : Nat) (W : World) (hw : 1 ≤ wi ∧ wi ≤ 16) (hq : 2 ≤ qu ∧ qu ≤ 32) (hf : 1 ≤ f ∧ f ≤ m ∧ m ≤ 1000) :
    Calls Tryz.prog 5 #[.int .i64 (wi : Int), .int .i64 (qu : Int), .int .i64 (f : Int), .int .i64 (m : Int)] W (TieNew W (Te.new wi qu f m)) := by
  have SN := Lib.hid (sh_new W W.heap.size wi qu f m (Nat.le_refl _) hw hq hf)
  have HW := Lib.hid hw
  have DN := Lib.hid (fun (w1 w2 : World) (p q r : Nat) (Fs : Nat → Prop) (hA : ShAt w1 W.heap.size p Fs (Sh.new wi qu f m)) (hb1 : Below W.heap.size W w1) (hD : ∀ Z : Nat → Prop, DkAt Z w2 q r w2.heap.size (Dk.new wi))
    (hq : w1.heap.size ≤ q) (hr : w1.heap.size ≤ r) (hb2 : Below w1.heap.size w1 w2) => tie_fresh (ty := 73) hA hb1 hD hq hr hb2)
  clear hw hq hf
  go_enter Tryz.func5, Tryz.ntmps5
  go_wp2_with (first
    | (go_at_call 23; refine SN.out.mono ?_; rintro e w1 ⟨p, Fs, rfl, hA, hb1, -⟩; have HA := Lib.hid hA; have B1 := Lib.hid hb1; clear hA hb1)
    | (go_at_call 24; refine (new_any wi w1 HW.out.1 HW.out.2).mono ?_; rintro e w2 ⟨q, r, rfl, hD, hq, hr, hb2⟩; have PP := Lib.hid (DN.out w1 w2 p q r Fs HA.out B1.out hD hq hr hb2); clear hD hq hr hb2))
  go_ret2
  exact PP.out

theorem tie_new_no (w q f m : Int) (W : World) (h : ¬ ((1 ≤ w ∧ w ≤ 16) ∧ (2 ≤ q ∧ q ≤ 32) ∧ 1 ≤ f ∧ f ≤ m ∧ m ≤ 1000)) :
    Calls Tryz.prog 5 #[.int .i64 w, .int .i64 q, .int .i64 f, .int .i64 m] W fun E w' => E = .returned (.tuple #[.pointer none, .int .i64 1]) ∧ w' = W := by
  have SN := Lib.hid (sh_new_no W w q f m h)
  clear h
  go_enter Tryz.func5, Tryz.ntmps5
  go_wp2_with (go_at_call 23; refine SN.out.mono ?_; rintro e w1 ⟨rfl, hw⟩; have hw2 := hw.symm; clear hw; subst hw2)
  go_ret2
  exact ⟨rfl, rfl⟩
end

end Go.Proofs.YtfbojcaedcimcaaGreat

/-
  Alike rows: bodies and strings.
-/
namespace Go.Proofs.YtfbojcaedcimcaaGreat
open Go.RowKit

def RowsRel (W : World) (n : Nat) (ss rs : List ByteArray) (i : Value) (wr : World) : Prop := ∃ k q, k ≤ n ∧ i = .int .i64 ((k : Nat) : Int) ∧ wr = W.drewN q ∧ ss.take k = rs.take k

theorem rows_more {ss rs : List ByteArray} {k : Nat} (h : ss.take k = rs.take k) (h1 : k < ss.length) (h2 : k < rs.length) (e : ss[k] = rs[k]) : ss.take (k + 1) = rs.take (k + 1) := by
  rw [List.take_succ_eq_append_getElem h1, List.take_succ_eq_append_getElem h2, h, e]

theorem str_ne {s r : ByteArray} (h : s ≠ r) : (s.toList == r.toList) = false := by
  rw [Lib.toList_data, Lib.toList_data]
  refine beq_eq_false_iff_ne.2 (fun e => h ?_)
  cases s
  cases r
  simpa using Array.toList_inj.1 e

set_option maxRecDepth 20000 in
set_option maxHeartbeats 4000000 in
theorem rows_any {W : World} {A : Nat → Prop} {a1 a2 : Option Addr} {n m c1 c2 : Nat} {ss rs : List ByteArray} (h1 : WtR A W (.slice a1 n c1) ss) (h2 : SlV W a2 c2 (rs.map Value.string)) (hm : rs.length = m) (b : Bool) (hb : decide (ss = rs) = b) :
    Calls Tryz.prog 12 #[.slice a1 n c1, .slice a2 m c2] W fun E w' => E = .returned (.bool b) ∧ ∃ q, w' = W.drewN q := by
  obtain ⟨a, cap, L, e1, e2, r1, bo⟩ := h1
  simp only [Value.slice.injEq] at e1
  obtain ⟨rfl, hn1, rfl⟩ := e1
  rw [← hn1] at r1
  have hfit := r1.fit
  have hmax := r1.max
  have hfit2 := h2.fit
  have hmax2 := h2.max
  unfold maxLen at hmax hmax2
  rw [List.length_map] at hfit2
  have hls : ss.length = n := by rw [← e2, List.length_map, hn1]
  have R1 := Lib.hid r1
  have R2 := Lib.hid h2
  have BO := Lib.hid bo
  have E2 := Lib.hid e2
  have N1 := Lib.hid hn1
  have NS := Lib.hid hls
  have NM := Lib.hid hm
  clear r1 h2 bo e2 hn1
  by_cases hnm : n = m
  · subst hnm
    have HB := Lib.hid hb
    clear hls hm hb
    go_enter Tryz.func12, Tryz.ntmps12
    go_wp2_with fail
    go_loopw [5] (fun i wr => RowsRel W n ss rs i wr) (fun i _ => n - (intOf i).toNat)
    case atStart => exact ⟨0, 0, Nat.zero_le _, rfl, rfl, rfl⟩
    case round =>
      obtain ⟨k, q, hk, rfl, rfl, hT⟩ := hrel
      by_cases hlt : k < n
      · have hk1 : k < L.length := by rw [← N1.out]; exact hlt
        have hk2 : k < ss.length := by rw [NS.out]; exact hlt
        have hk3 : k < rs.length := by rw [NM.out]; exact hlt
        obtain ⟨o1, f1, rfl, hb1, -, k0⟩ := R1.out.cell k (bdV L[k]) (by rw [List.getElem?_map, List.getElem?_eq_getElem hk1]; rfl)
        obtain ⟨o2, f2, rfl, hb2, m0⟩ := R2.out.at k hk3
        have hs : L[k].s = ss[k] := by
          have := E2.out
          subst this
          rw [List.getElem_map]
        have HT := Lib.hid (rows_more hT hk2 hk3)
        have HF := Lib.hid (show ss[k] ≠ rs[k] → b = false from fun h => by
          rw [← HB.out]
          exact decide_eq_false (fun e => h (by subst e; rfl)))
        have hB := BO.out L[k] (List.getElem_mem _)
        generalize L[k] = bd at *
        generalize hsx : ss[k] = sx at *
        generalize rs[k] = rx at *
        obtain ⟨ab, cb, sb⟩ := bd
        have hs' : sb = sx := hs
        subst hs'
        have y1 : (W.drewN q).cell? ⟨o1, f1 + k, none⟩ = some (.slice ab sb.size cb) := k0
        have y2 : (W.drewN q).cell? ⟨o2, f2 + k, none⟩ = some (.string rx) := m0
        have cv : ∀ j, (convert 32 9 (.slice ab sb.size cb)).run Tryz.prog ((W.drewN q).drewN j) = .ok (.string sb) ((W.drewN q).drewN j) := fun j => by
          have := conv_any (w := (W.drewN q).drewN j) (hB.1.below ⟨rfl, rfl, rfl, Nat.le_refl _, fun _ _ => rfl⟩) (bsN_len sb)
          rw [strB_bsN] at this
          exact this
        have cv0 := cv 0
        have i0 : (0 : Int) ≤ (k : Int) := by omega
        have i1 : (k : Int) < (n : Int) := by omega
        have hQ := Lib.hid (fun j => (show ∃ q', (W.drewN q).drewN j = W.drewN q' from ⟨q + j, by rw [World.drewN_drewN]⟩))
        clear k0 m0 hs hsx hB hk1 hk2 hk3 hT
        by_cases he : sb = rx
        · have HT2 := Lib.hid (HT.out he)
          subst he
          clear HT HF
          generalize W.drewN q = ww at *
          go_wp2_with fail
          go_quiet (fail)
          go_wp2_with fail
          go_roundw
          case rel => exact (hQ.out _).elim fun q' e => ⟨k + 1, q', by omega, by go_num, e, HT2.out⟩
          case measure => simp only [intOf]; omega
        · have hF := HF.out he
          have hne := str_ne he
          subst hF
          clear HF HT HB he
          generalize W.drewN q = ww at *
          go_wp2_with fail
          go_quiet (fail)
          go_wp2_with fail
          go_ret
          exact ⟨rfl, hQ.out _⟩
      · obtain rfl : k = n := by omega
        have dk : decide ((k : Int) < (k : Int)) = false := decide_eq_false (by omega)
        have HR := Lib.hid (show b = true from by
          rw [← HB.out]
          refine decide_eq_true ?_
          rw [List.take_of_length_le (by rw [NS.out]; exact Nat.le_refl _), List.take_of_length_le (by rw [NM.out]; exact Nat.le_refl _)] at hT
          exact hT)
        clear hT
        have hR := HR.out
        subst hR
        go_wp2_with fail
        go_ret
        exact ⟨rfl, _, rfl⟩
  · have HF := Lib.hid (show b = false from by
      rw [← hb]
      refine decide_eq_false (fun e => hnm ?_)
      rw [← hls, ← hm, e])
    have dn : ((n : Int) != (m : Int)) = true := by simp; omega
    clear hb hls hm
    have hF := HF.out
    subst hF
    go_enter Tryz.func12, Tryz.ntmps12
    go_wp2_with fail
    go_ret
    exact ⟨rfl, 0, rfl⟩

end Go.Proofs.YtfbojcaedcimcaaGreat

/-
  One tie, made by the call itself, and the rows that it gave.
-/
namespace Go.Proofs.YtfbojcaedcimcaaGreat
open Go.RowKit

/-- One tie, all else below as it was; rows that it gave. -/
def TiOn (W : World) (N t : Nat) (T : Te) (L : List (Value × List ByteArray)) (w : World) : Prop :=
  ∃ F X : Nat → Prop, TieAt F X w N t T ∧ (∀ k, X k → N ≤ k ∧ k < w.heap.size) ∧ W.heap.size ≤ N ∧ Below W.heap.size W w ∧ ∀ x ∈ L, WtR (fun k => ¬ X k) w x.1 x.2

section
variable {F X : Nat → Prop} {W w w' : World} {N t n c : Nat} {T T' : Te} {L : List (Value × List ByteArray)}
theorem TiOn.below (h : TiOn W N t T L w) (hb : Below w.heap.size w w') : TiOn W N t T L w' := by
  obtain ⟨F, X, hA, hX, hN, hB, hL⟩ := h
  have := hb.size
  exact ⟨F, X, hA.below hb, fun k hk => ⟨(hX k hk).1, Nat.lt_of_lt_of_le (hX k hk).2 hb.size⟩, hN, hB.trans (hb.mono hB.size), fun x hx => (hL x hx).below hb⟩
theorem TiOn.drewN (h : TiOn W N t T L w) (k : Nat) : TiOn W N t T L (w.drewN k) := h.below ⟨rfl, rfl, rfl, Nat.le_refl _, fun _ _ => rfl⟩
theorem TiOn.be (h : TiOn W N t T L w) : Below W.heap.size W w := by
  obtain ⟨F, X, hA, hX, hN, hB, hL⟩ := h
  exact hB
theorem TiOn.get (h : TiOn W N t T L w) {x : Value × List ByteArray} (hx : x ∈ L) : WtR (fun _ => True) w x.1 x.2 := by
  obtain ⟨F, X, hA, hX, hN, hB, hL⟩ := h
  exact (hL x hx).mono (fun _ _ _ => trivial)
theorem wider {F' : Nat → Prop} {v : Value} {ss : List ByteArray} (h : WtR (fun k => ¬ X k) w v ss) (hK : Keep F w w') (hx : ∀ k, F k → X k) (hF : ∀ k, F' k → F k ∨ w.heap.size ≤ k) : WtR (fun k => ¬ (X k ∨ F' k)) w' v ss := by
  refine (h.mono (fun k hk hn f => ?_)).keep hK (fun k _ hA f => hA (Or.inl (hx k f)))
  rcases f with f | f
  · exact hn f
  · rcases hF k f with f | f
    · exact hn (hx k f)
    · omega
theorem TiOn.next {F' : Nat → Prop} (hA : TieAt F X w N t T) (hX : ∀ k, X k → N ≤ k ∧ k < w.heap.size) (hN : W.heap.size ≤ N) (hB : Below W.heap.size W w) (hL : ∀ x ∈ L, WtR (fun k => ¬ X k) w x.1 x.2)
    (hT : TieAt F' (fun k => X k ∨ F' k) w' N t T') (hK : Keep F w w') (hF : ∀ k, F' k → F k ∨ w.heap.size ≤ k) : TiOn W N t T' L w' := by
  have hs := hK.size
  refine ⟨F', fun k => X k ∨ F' k, hT, fun k hk => ?_, hN, hB.trans (hK.below hB.size (fun k f => Nat.le_trans hN (hA.lt k f).1)), fun x hx => wider (hL x hx) hK hA.x hF⟩
  rcases hk with hk | hk
  · exact ⟨(hX k hk).1, Nat.lt_of_lt_of_le (hX k hk).2 hs⟩
  · exact hT.lt k hk

theorem ti_op {ret : Value → Value} {ss : List ByteArray} {E : Ending} (hA : TieAt F X w N t T) (hX : ∀ k, X k → N ≤ k ∧ k < w.heap.size) (hN : W.heap.size ≤ N) (hB : Below W.heap.size W w) (hL : ∀ x ∈ L, WtR (fun k => ¬ X k) w x.1 x.2) (h : TiePost w N t F X T' ret ss E w') :
    ∃ a cap, E = .returned (ret (.slice a ss.length cap)) ∧ TiOn W N t T' ((.slice a ss.length cap, ss) :: L) w' := by
  obtain ⟨F', a, cap, he, hT, hK, hF, hW⟩ := h
  have hs := hK.size
  refine ⟨a, cap, he, F', fun k => X k ∨ F' k, hT, fun k hk => ?_, hN, hB.trans (hK.below hB.size (fun k f => Nat.le_trans hN (hA.lt k f).1)), fun x hx => ?_⟩
  · rcases hk with hk | hk
    · exact ⟨(hX k hk).1, Nat.lt_of_lt_of_le (hX k hk).2 hs⟩
    · exact hT.lt k hk
  · rcases List.mem_cons.1 hx with rfl | hx
    · exact hW
    · exact wider (hL x hx) hK hA.x hF

theorem ti_push {A : Nat → Prop} {b : Bd} {r : Bool} (h : TiOn W N t T L w) (ho : T.s.ok n) (hn : n ≤ 500) (hb : BodyV A w b) (hbs : b.s.size ≤ 30000) :
    Calls Tryz.prog 10 #[.pointer (some ⟨t, 0, none⟩), .slice b.a b.s.size b.c, .bool r] w fun E w' => ∃ a cap, E = .returned (.tuple #[.slice a (T.pushO r b.s).length cap, .bool (T.s.room r)]) ∧ TiOn W N t (T.push r b.s) ((.slice a (T.pushO r b.s).length cap, T.pushO r b.s) :: L) w' := by
  obtain ⟨F, X, hA, hX, hN, hB, hL⟩ := h
  exact (tie_push hA (fun k hk => (hX k hk).2) ho hn hb hbs).mono fun E w' hp => ti_op hA hX hN hB hL hp
theorem ti_hear {A : Nat → Prop} {b : Bd} (h : TiOn W N t T L w) (ho : T.s.ok n) (hn : n ≤ 500) (hd : T.d.ok c) (hc : c < 1000) (hb : BodyV A w b) (hl : b.s.size ≤ 1000000) :
    Calls Tryz.prog 14 #[.pointer (some ⟨t, 0, none⟩), bdV b] w fun E w' => ∃ au cu ad cd, E = .returned (.tuple #[.slice au (T.up (okB b.s) (gotB b.s)).length cu, .slice ad (T.down (okB b.s) (gotB b.s)).length cd, .int .i64 (if okB b.s then 0 else 2)]) ∧
      TiOn W N t (T.hear (okB b.s) (gotB b.s)) ((.slice au (T.up (okB b.s) (gotB b.s)).length cu, T.up (okB b.s) (gotB b.s)) :: (.slice ad (T.down (okB b.s) (gotB b.s)).length cd, T.down (okB b.s) (gotB b.s)) :: L) w' := by
  obtain ⟨F, X, hA, hX, hN, hB, hL⟩ := h
  refine (tie_hear hA (fun k hk => (hX k hk).2) ho hn hd hc hb hl).mono fun E w' hp => ?_
  obtain ⟨F', au, cu, ad, cd, he, hT, hK, hF, hU, hD⟩ := hp
  have hs := hK.size
  refine ⟨au, cu, ad, cd, he, F', fun k => X k ∨ F' k, hT, fun k hk => ?_, hN, hB.trans (hK.below hB.size (fun k f => Nat.le_trans hN (hA.lt k f).1)), fun x hx => ?_⟩
  · rcases hk with hk | hk
    · exact ⟨(hX k hk).1, Nat.lt_of_lt_of_le (hX k hk).2 hs⟩
    · exact hT.lt k hk
  · rcases List.mem_cons.1 hx with rfl | hx
    · exact hU
    · rcases List.mem_cons.1 hx with rfl | hx
      · exact hD
      · exact wider (hL x hx) hK hA.x hF
theorem ti_state {s : Value} (h : TiOn W N t T L w) (ho : T.s.ok n) (hn : n ≤ 500) (hd : T.d.ok c) (hs : stV T = s) :
    Calls Tryz.prog 21 #[.pointer (some ⟨t, 0, none⟩)] w fun E w' => E = .returned s ∧ TiOn W N t T L w' := by
  subst hs
  have h0 := h
  obtain ⟨F, X, hA, hX, hN, hB, hL⟩ := h
  exact (tie_state hA ho hn hd).mono fun E w' hp => ⟨hp.1, h0.below hp.2⟩
theorem ti_quiet {b : Bool} (h : TiOn W N t T L w) (ho : T.s.ok n) (hn : n ≤ 500) (hd : T.d.ok c) (hb : decide (T.s.out.length = 0 ∧ T.s.waits.length = 0 ∧ T.d.held.length = 0) = b) :
    Calls Tryz.prog 22 #[.pointer (some ⟨t, 0, none⟩)] w fun E w' => E = .returned (.bool b) ∧ TiOn W N t T L w' := by
  have h0 := h
  obtain ⟨F, X, hA, hX, hN, hB, hL⟩ := h
  exact (tie_quiet hA ho hn hd hb).mono fun E w' hp => ⟨hp.1, h0.below hp.2⟩
theorem ti_new {wi qu f m : Nat} {za zq zf zm : Int} (ha : (wi : Int) = za) (hq' : (qu : Int) = zq) (hf' : (f : Int) = zf) (hm' : (m : Int) = zm) (hw : 1 ≤ wi ∧ wi ≤ 16) (hq : 2 ≤ qu ∧ qu ≤ 32) (hf : 1 ≤ f ∧ f ≤ m ∧ m ≤ 1000) (hB : Below W.heap.size W w) :
    Calls Tryz.prog 5 #[.int .i64 za, .int .i64 zq, .int .i64 zf, .int .i64 zm] w fun E w' => ∃ N t, E = .returned (.tuple #[.pointer (some ⟨t, 0, none⟩), .int .i64 0]) ∧ TiOn W N t (Te.new wi qu f m) [] w' := by
  subst ha hq' hf' hm'
  refine (tie_new wi qu f m w hw hq hf).mono fun E w' hp => ?_
  obtain ⟨t, F, he, hT, hb⟩ := hp
  have hA := hT F (fun k hk => hk)
  exact ⟨w.heap.size, t, he, F, F, hA, hA.lt, hB.size, hB.trans (hb.mono hB.size), fun x hx => by cases hx⟩

/-- Bytes written out in the text are heard, pushed. -/
theorem lit_body (w : World) (l : List Nat) (s : ByteArray) (hs : bsN s = l) (n : Nat) (hn : l.length = n) (cs : Array Value) (ty : TypeId) (fr : Nat × Nat) (hcs : cs = (l.map bV).toArray) (hm : n ≤ maxLen) :
    BodyV (fun _ => True) (w.alloc (.cells cs ty fr)) ⟨some ⟨w.heap.size, 0, none⟩, n, s⟩ ∧ s.size = n := by
  subst hs
  have hsz : s.size = n := by rw [← bsN_len, hn]
  have hl := sl_lit bV 256 w (bsN s) cs ty fr n hcs hn (bsN_lt s) hm
  exact ⟨⟨hl, fun _ _ _ => trivial⟩, hsz⟩
theorem ti_lit {l : List Nat} {s : ByteArray} {k ku kd : Nat} {z : Int} {cs : Array Value} {ty : TypeId} {fr : Nat × Nat} {ok : Bool} {g : Frm} {up down : List ByteArray} (h : TiOn W N t T L w) (ho : T.s.ok n) (hn : n ≤ 500) (hd : T.d.ok c) (hc : c < 1000) (hs : bsN s = l) (hk : l.length = k) (hk2 : k ≤ 1000) (hcs : cs = (l.map bV).toArray)
    (hok : okF l = ok) (hg : gotF l = g) (hT : T.hear ok g = T') (hu : T.up ok g = up) (hd2 : T.down ok g = down) (hku : up.length = ku) (hkd : down.length = kd) (hz : (if ok then (0 : Int) else 2) = z) :
    Calls Tryz.prog 14 #[.pointer (some ⟨t, 0, none⟩), .slice (some ⟨w.heap.size, 0, none⟩) k k] (w.alloc (.cells cs ty fr)) fun E w' => ∃ au cu ad cd, E = .returned (.tuple #[.slice au ku cu, .slice ad kd cd, .int .i64 z]) ∧
      TiOn W N t T' ((.slice au ku cu, up) :: (.slice ad kd cd, down) :: L) w' := by
  obtain ⟨hB, hsz⟩ := lit_body w l s hs k hk cs ty fr hcs (by unfold maxLen; omega)
  have := ti_hear (h.below ((Below.refl _ _).alloc (Nat.le_refl _) (.cells cs ty fr))) ho hn hd hc hB (by show s.size ≤ 1000000; omega)
  have e1 : okB s = ok := by unfold okB; rw [hs]; exact hok
  have e2 : gotB s = g := by unfold gotB; rw [hs]; exact hg
  dsimp only at this
  rw [e1, e2, hT, hu, hd2, hku, hkd, hz] at this
  unfold bdV at this
  dsimp only at this
  rw [hsz] at this
  exact this
theorem ti_litp {l : List Nat} {s : ByteArray} {k ko : Nat} {cs : Array Value} {ty : TypeId} {fr : Nat × Nat} {r b : Bool} {out : List ByteArray} (h : TiOn W N t T L w) (ho : T.s.ok n) (hn : n ≤ 500) (hs : bsN s = l) (hk : l.length = k) (hk2 : k ≤ 1000) (hcs : cs = (l.map bV).toArray)
    (hT : T.push r s = T') (hu : T.pushO r s = out) (hko : out.length = ko) (hb : T.s.room r = b) :
    Calls Tryz.prog 10 #[.pointer (some ⟨t, 0, none⟩), .slice (some ⟨w.heap.size, 0, none⟩) k k, .bool r] (w.alloc (.cells cs ty fr)) fun E w' => ∃ a cap, E = .returned (.tuple #[.slice a ko cap, .bool b]) ∧
      TiOn W N t T' ((.slice a ko cap, out) :: L) w' := by
  obtain ⟨hB, hsz⟩ := lit_body w l s hs k hk cs ty fr hcs (by unfold maxLen; omega)
  have := ti_push (r := r) (h.below ((Below.refl _ _).alloc (Nat.le_refl _) (.cells cs ty fr))) ho hn hB (by show s.size ≤ 30000; omega)
  dsimp only at this
  rw [hT, hu, hko, hb, hsz] at this
  exact this
end

end Go.Proofs.YtfbojcaedcimcaaGreat

/-
  What the statements of the tie look at first; TieKnown.
-/
namespace Go.Proofs.YtfbojcaedcimcaaGreat
open Go.RowKit

abbrev Sh.okP (S : Sh) (n : Nat) : Prop := (1 ≤ S.win ∧ S.win ≤ 16) ∧ (2 ≤ S.que ∧ S.que ≤ 32) ∧ S.g ≤ S.all.length ∧ S.all.length ≤ n ∧ S.waits.length ≤ S.que ∧ (1 ≤ S.pa.f ∧ S.pa.f ≤ S.pa.s) ∧ (S.pa.s ≤ S.pa.m ∧ S.pa.m ≤ 1000) ∧ S.pa.l ≤ S.pa.s ∧ S.pa.r ≤ n ∧ (0 < S.pa.l ↔ S.g < S.all.length) ∧ ∀ s ∈ S.all, s.size ≤ 30000
theorem Sh.ok_of {S : Sh} {n : Nat} (h : S.okP n) : S.ok n := by
  obtain ⟨h1, h2, h3, h4, h5, h6, h7, h8, h9, h10, h11⟩ := h
  exact ⟨h1, h2, h3, h4, h5, ⟨h6, h7, h8, h9⟩, h10, h11⟩
abbrev Dk.okP (S : Dk) (c : Nat) : Prop := (1 ≤ S.win ∧ S.win ≤ 16) ∧ (1 ≤ S.next ∧ S.next + S.held.length ≤ c + 1) ∧ S.held.Pairwise (fun x y => x.1 < y.1) ∧ ∀ x ∈ S.held, S.next + 1 ≤ x.1 ∧ x.1 < S.next + S.win
theorem Dk.ok_of {S : Dk} {c : Nat} (h : S.okP c) : S.ok c := ⟨h.1, h.2.1, h.2.2.1, h.2.2.2⟩

/-- True, and all below as it was. -/
def TiOk (W : World) (E : Ending) (w' : World) : Prop := E = .returned (.bool true) ∧ Below W.heap.size W w'

def sA : ByteArray := ⟨#[97]⟩
def sX : ByteArray := ⟨#[120]⟩
theorem got_of {f : Frm} {l : List Nat} (hn : f.num < 18446744073709551616) (hg : goodF f = true) (e : putF f = l) : okF l = true ∧ gotF l = f := e ▸ gotF_put hn hg
theorem got_1a : okF [0, 1, 1, 97] = true ∧ gotF [0, 1, 1, 97] = ⟨false, 1, [97]⟩ := got_of (f := ⟨false, 1, [97]⟩) (by decide) rfl (by simp [putF, lebL_lo])
theorem got_9a : okF [0, 9, 1, 97] = true ∧ gotF [0, 9, 1, 97] = ⟨false, 9, [97]⟩ := got_of (f := ⟨false, 9, [97]⟩) (by decide) rfl (by simp [putF, lebL_lo])
theorem got_11 : okF [1, 1] = true ∧ gotF [1, 1] = ⟨true, 1, []⟩ := got_of (f := ⟨true, 1, []⟩) (by decide) rfl (by simp [putF, lebL_lo])
theorem got_7 : okF [7] = false := by decide +kernel
theorem wireA_1 : wireA 1 = ⟨#[1, 1]⟩ := by
  have : bytesF (ackFm 1) = [1, 1] := by
    unfold bytesF
    rw [show goodF (ackFm 1) = true from rfl, if_pos rfl]
    simp [putF, ackFm, lebL_lo]
  unfold wireA
  rw [this]
  rfl
theorem wireA_0 : wireA 0 = ⟨#[1, 0]⟩ := by
  have : bytesF (ackFm 0) = [1, 0] := by
    unfold bytesF
    rw [show goodF (ackFm 0) = true from rfl, if_pos rfl]
    simp [putF, ackFm, lebL_lo]
  unfold wireA
  rw [this]
  rfl
theorem wireD_x : wireD (1, sX) = ⟨#[0, 1, 1, 120]⟩ := by
  have e : dataFm (1, sX) = ⟨false, 1, [120]⟩ := rfl
  have : bytesF (dataFm (1, sX)) = [0, 1, 1, 120] := by
    rw [e]
    unfold bytesF
    rw [show goodF ⟨false, 1, [120]⟩ = true from rfl, if_pos rfl]
    simp [putF, lebL_lo]
  unfold wireD
  rw [this]
  rfl

set_option maxRecDepth 20000 in
set_option maxHeartbeats 8000000 in
theorem ti_awake (W : World) : Calls Tryz.prog 4 #[] W (TiOk W) := by
  go_enter Tryz.func4, Tryz.ntmps4
  go_wp2_with fail
  refine (ti_new (W := W) (wi := 2) (qu := 3) (f := 2) (m := 8) rfl rfl rfl rfl (by decide) (by decide) (by decide) (Below.refl _ _)).mono ?_
  rintro e w1 ⟨N, t, rfl, h1⟩
  have L1 := Lib.hid h1
  clear h1
  go_wp2_with fail
  refine (ti_lit (n := 10) (c := 10) (l := [0, 1, 1, 97]) (s := ⟨#[0, 1, 1, 97]⟩) (k := 4) (ok := true) (g := ⟨false, 1, [97]⟩) (T' := ⟨Sh.new 2 3 2 8, ⟨2, 2, []⟩⟩) (up := [sA]) (down := [wireA 1]) (ku := 1) (kd := 1) (z := 0) L1.out (Sh.ok_of (by decide)) (by decide) (Dk.ok_of (by decide)) (by decide) rfl rfl (by decide) rfl got_1a.1 got_1a.2 rfl rfl rfl rfl rfl rfl).mono ?_
  rintro e w2 ⟨au, cu, ad, cd, rfl, h2⟩
  have L2 := Lib.hid h2
  clear h2 L1
  have B3 : Below w2.heap.size w2 (w2.alloc (.cells #[.string ⟨#[97]⟩] 9)) := (Below.refl _ _).alloc (Nat.le_refl _) _
  have L3 := Lib.hid (L2.out.below B3)
  have I3 := Lib.hid (slv_lit w2 [.string ⟨#[97]⟩] #[.string ⟨#[97]⟩] 9 1 rfl rfl (by unfold maxLen; omega))
  clear B3
  go_wp2_with fail
  refine (rows_any (ss := [sA]) (rs := [sA]) (L3.out.get (x := (.slice au 1 cu, [sA])) (by simp)) I3.out rfl true (by decide)).mono ?_
  rintro e w4 ⟨rfl, q4, rfl⟩
  have L4 := Lib.hid (L3.out.drewN q4)
  clear L2 L3 I3
  generalize (w2.alloc (.cells #[.string ⟨#[97]⟩] 9)).drewN q4 = w5 at *
  have B5 : Below w5.heap.size w5 (w5.alloc (.cells #[.string ⟨#[1, 1]⟩] 9)) := (Below.refl _ _).alloc (Nat.le_refl _) _
  have L5 := Lib.hid (L4.out.below B5)
  have I5 := Lib.hid (slv_lit w5 [.string ⟨#[1, 1]⟩] #[.string ⟨#[1, 1]⟩] 9 1 rfl rfl (by unfold maxLen; omega))
  clear B5
  go_wp2_with fail
  refine (rows_any (ss := [wireA 1]) (rs := [⟨#[1, 1]⟩]) (L5.out.get (x := (.slice ad 1 cd, [wireA 1])) (by simp)) I5.out rfl true (decide_eq_true (by rw [wireA_1]))).mono ?_
  rintro e w6 ⟨rfl, q6, rfl⟩
  have L6 := Lib.hid (L5.out.drewN q6)
  clear L4 L5 I5
  generalize (w5.alloc (.cells #[.string ⟨#[1, 1]⟩] 9)).drewN q6 = w7 at *
  go_wp2_with fail
  refine (ti_quiet (n := 10) (c := 10) (b := true) L6.out (Sh.ok_of (by decide)) (by decide) (Dk.ok_of (by decide)) rfl).mono ?_
  rintro e w8 ⟨rfl, h8⟩
  have L8 := Lib.hid h8
  clear h8 L6
  go_wp2_with fail
  go_ret
  exact ⟨rfl, L8.out.be⟩

end Go.Proofs.YtfbojcaedcimcaaGreat
