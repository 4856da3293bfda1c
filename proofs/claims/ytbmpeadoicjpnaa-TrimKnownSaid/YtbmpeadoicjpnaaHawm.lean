import Derived.Test.YtbmpeadoicjpnaaMak
import Derived.Test.YtbmpeadoicjpnaaIqsm
import Derived.Deep.RegionHeld3

/-
  The laws' own: awake.
-/
namespace Go.Proofs.Ytbmpeadoicjpnaa
open Go.RowKit Go.Sort

theorem drewN_below (w : World) (q : Nat) : Below w.heap.size w (w.drewN q) := ⟨rfl, rfl, rfl, Nat.le_refl _, fun _ _ => rfl⟩
/-- A log of one, written out in the text. -/
theorem lit_one (W : World) (x : Le) (hx : OkX x) : OwnLg 26 W.heap.size (W.alloc (.cells #[.int .i64 x.f, .int .u64 (x.n : Int), .int .u64 (x.t : Int)] 26)) (.slice (some ⟨W.heap.size, 0, none⟩) 1 1) [x] :=
  ⟨World.ownsRow_lit (size := 3) W #[.int .i64 x.f, .int .u64 (x.n : Int), .int .u64 (x.t : Int)] 1 (Nat.le_refl _) (by unfold maxLen; omega) rfl, fun y hy => by rw [List.mem_singleton.1 hy]; exact hx⟩

set_option maxRecDepth 20000 in
set_option maxHeartbeats 8000000 in
theorem awake_any (W : World) : Calls Try.prog 9 #[] W fun e w' => e = .returned (.bool true) ∧ Below W.heap.size W w' := by
  obtain ⟨U1, hU1⟩ : ∃ U, U = W.alloc (.cells #[.int .i64 0, .int .u64 2, .int .u64 2] 26) := ⟨_, rfl⟩
  have OA := lit_one W ⟨0, 2, 2⟩ (by unfold OkX IntOk; decide)
  rw [show W.alloc (.cells #[.int .i64 (⟨0, 2, 2⟩ : Le).f, .int .u64 ((⟨0, 2, 2⟩ : Le).n : Int), .int .u64 ((⟨0, 2, 2⟩ : Le).t : Int)] 26) = U1 from hU1.symm] at OA
  obtain ⟨U2, hU2⟩ : ∃ U, U = U1.alloc (.cells #[.int .i64 0, .int .u64 1, .int .u64 8] 26) := ⟨_, rfl⟩
  have OB := lit_one U1 ⟨0, 1, 8⟩ (by unfold OkX IntOk; decide)
  rw [show U1.alloc (.cells #[.int .i64 (⟨0, 1, 8⟩ : Le).f, .int .u64 ((⟨0, 1, 8⟩ : Le).n : Int), .int .u64 ((⟨0, 1, 8⟩ : Le).t : Int)] 26) = U2 from hU2.symm] at OB
  have s1 : U1.heap.size = W.heap.size + 1 := by rw [hU1]; simp
  have s2 : U2.heap.size = W.heap.size + 2 := by rw [hU2]; simp [s1]
  obtain ⟨U3, hU3⟩ : ∃ U, U = U2.alloc (.cells #[.slice (some ⟨W.heap.size, 0, none⟩) 1 1] 29) := ⟨_, rfl⟩
  have s3 : U3.heap.size = W.heap.size + 3 := by rw [hU3]; simp [s2]
  obtain ⟨U, hU⟩ : ∃ U, U = U3.alloc (.cells #[.slice (some ⟨W.heap.size + 1, 0, none⟩) 1 1] 29) := ⟨_, rfl⟩
  have b1 : Below W.heap.size W U1 := by rw [hU1]; exact boxb _ _
  have b2 : Below U1.heap.size U1 U2 := by rw [hU2]; exact boxb _ _
  have b3 : Below U2.heap.size U2 U3 := by rw [hU3]; exact boxb _ _
  have b4 : Below U3.heap.size U3 U := by rw [hU]; exact boxb _ _
  have b24 : Below U2.heap.size U2 U := b3.trans (b4.mono b3.size)
  have b14 : Below U1.heap.size U1 U := b2.trans (b24.mono b2.size)
  have HB := Lib.hid (show Below W.heap.size W U from b1.trans (b14.mono b1.size))
  have CA := Lib.hid (show Cel 1 U (W.heap.size + 2) (gcE (some ⟨W.heap.size, 0, none⟩) 1 1) by
    have := (boxG U2 (some ⟨W.heap.size, 0, none⟩) 1 1 29)
    rw [← hU3, s2] at this
    exact this.below b4)
  have CB := Lib.hid (show Cel 1 U (W.heap.size + 3) (gcE (some ⟨W.heap.size + 1, 0, none⟩) 1 1) by
    have := (boxG U3 (some ⟨W.heap.size + 1, 0, none⟩) 1 1 29)
    rw [← hU, s3] at this
    exact this)
  rw [s1] at OB
  have LA := Lib.hid (((OA.at rfl).below b14).all)
  have LB := Lib.hid (((OB.at rfl).below b24).all)
  have HU := Lib.hid (show (((W.alloc (.cells #[.int .i64 0, .int .u64 2, .int .u64 2] 26)).alloc (.cells #[.int .i64 0, .int .u64 1, .int .u64 8] 26)).alloc (.cells #[.slice (some ⟨W.heap.size, 0, none⟩) 1 1] 29)).alloc (.cells #[.slice (some ⟨W.heap.size + 1, 0, none⟩) 1 1] 29) = U by rw [hU, hU3, hU2, hU1])
  clear OA OB b1 b2 b3 b4 b24 b14 s1 s2 s3 hU hU1 hU2 hU3
  go_enter Try.func9, Try.ntmps9
  go_upto_region 2 with fail
  rw [HU.out]
  clear HU
  have hfl : ∀ (a : Option Addr) (n c : Nat) (w : World), (Instr.field 29 (.agg #[.slice a n c]) 0).run Try.prog w = .ok (.slice a n c) w := fun a n c w => by kernel_rfl
  have JH := Lib.hid (show joinG [⟨0, 2, 2⟩] [⟨0, 1, 8⟩] = [⟨0, 2, 2⟩] by decide)
  have JL := Lib.hid (show (joinG [⟨0, 2, 2⟩] [⟨0, 1, 8⟩]).length = 1 by decide)
  have GT := Lib.hid (show goodL [⟨0, 2, 2⟩] = true by decide)
  refine wp_region_noPanic ?_
  refine wp_region_held_drew (S := (fun w' => w'.cell? ⟨W.heap.size + 2, 0, none⟩ = some (.slice (some ⟨W.heap.size, 0, none⟩) 1 1) ∧ w'.cell? ⟨W.heap.size + 3, 0, none⟩ = some (.slice (some ⟨W.heap.size + 1, 0, none⟩) 1 1) ∧ Hid (Below U.heap.size U w'))) (by kernel_rfl) ?_ (fun hHeld => ?_)
  · exact ⟨CA.out.c 0 (by decide), CB.out.c 0 (by decide), Lib.hid (drew_below U)⟩
  refine wpAnyH_take (i := 0) (oi := { dst := some 9, op := Op.load 29 (Operand.tmp 1), type := 29, pos := "law.go:35", after := #[], guard := none }) (v := ?_) rfl (by kernel_rfl) (by kernel_rfl) (by kernel_rfl) (fun _ _ _ h => h) (Or.inl ⟨by rfl, ?_⟩) (by assumption) ?_
  rotate_left
  · (intro w hSw; (try dsimp only at hSw); go_simp; try with_reducible rfl)
  ((try simp only [Act.put]); (try simp only [List.setIfInBounds_toArray]); (try simp only [List.set_cons_succ]); (try simp only [List.set_cons_zero]))
  refine wpAnyH_ready (rs := [1]) (by kernel_rfl) (by simp) ?_
  refine AllReadyH.cons (o := { dst := some 10, op := Op.call { callee := Callee.value (Operand.func 19), args := #[Operand.tmp 9], argTypes := #[29] }, type := 4, pos := "law.go:35", after := #[{ on := 0, ground := Ground.data }], guard := none }) rfl (fun K hK => ?_) AllReadyH.nil
  go_simp
  refine (tgood_any (LA.out.below (Hid.out hHeld.2.2)) GT.out).mono ?_
  rintro e w1 ⟨rfl, hb⟩
  try go_wp2_with fail
  refine hK.out _ _ ?_ (fun hNew => ?_)
  · exact ⟨cell_go hHeld.1 hb, cell_go hHeld.2.1 hb, Lib.hid ((Hid.out hHeld.2.2).trans (hb.mono (Hid.out hHeld.2.2).size))⟩
  clear hK K
  replace hHeld := hNew
  clear hNew
  ((try simp only [Act.put]); (try simp only [List.setIfInBounds_toArray]); (try simp only [List.set_cons_succ]); (try simp only [List.set_cons_zero]))
  refine wpAnyH_take (i := 2) (oi := { dst := some 11, op := Op.move (Operand.tmp 10), type := 4, pos := "law.go:35", after := #[{ on := 1, ground := Ground.data }, { on := 1, ground := Ground.chain }], guard := none }) (v := ?_) rfl (by kernel_rfl) (by kernel_rfl) (by kernel_rfl) (fun _ _ _ h => h) (Or.inl ⟨by rfl, ?_⟩) (by assumption) ?_
  rotate_left
  · (intro w hSw; (try dsimp only at hSw); go_simp; try with_reducible rfl)
  ((try simp only [Act.put]); (try simp only [List.setIfInBounds_toArray]); (try simp only [List.set_cons_succ]); (try simp only [List.set_cons_zero]))
  refine wpAnyH_take (i := 3) (oi := { dst := some 12, op := Op.load 29 (Operand.tmp 1), type := 29, pos := "law.go:35", after := #[{ on := 2, ground := Ground.guard }], guard := some (2, true) }) (v := ?_) rfl (by kernel_rfl) (by kernel_rfl) (by kernel_rfl) (fun _ _ _ h => h) (Or.inl ⟨by rfl, ?_⟩) (by assumption) ?_
  rotate_left
  · (intro w hSw; (try dsimp only at hSw); go_simp; try with_reducible rfl)
  ((try simp only [Act.put]); (try simp only [List.setIfInBounds_toArray]); (try simp only [List.set_cons_succ]); (try simp only [List.set_cons_zero]))
  refine wpAnyH_take (i := 4) (oi := { dst := some 13, op := Op.load 29 (Operand.tmp 2), type := 29, pos := "law.go:35", after := #[{ on := 2, ground := Ground.guard }], guard := some (2, true) }) (v := ?_) rfl (by kernel_rfl) (by kernel_rfl) (by kernel_rfl) (fun _ _ _ h => h) (Or.inl ⟨by rfl, ?_⟩) (by assumption) ?_
  rotate_left
  · (intro w hSw; (try dsimp only at hSw); go_simp; try with_reducible rfl)
  ((try simp only [Act.put]); (try simp only [List.setIfInBounds_toArray]); (try simp only [List.set_cons_succ]); (try simp only [List.set_cons_zero]))
  refine wpAnyH_take (i := 8) (oi := { dst := some 17, op := Op.fieldAddr 29 (Operand.tmp 1) 0, type := 0, pos := "law.go:35", after := #[{ on := 2, ground := Ground.guard }], guard := some (2, true) }) (v := ?_) rfl (by kernel_rfl) (by kernel_rfl) (by kernel_rfl) (fun _ _ _ h => h) (Or.inl ⟨by rfl, ?_⟩) (by assumption) ?_
  rotate_left
  · (intro w hSw; (try dsimp only at hSw); go_simp; try with_reducible rfl)
  ((try simp only [Act.put]); (try simp only [List.setIfInBounds_toArray]); (try simp only [List.set_cons_succ]); (try simp only [List.set_cons_zero]))
  refine wpAnyH_take (i := 9) (oi := { dst := some 18, op := Op.load 27 (Operand.tmp 17), type := 27, pos := "law.go:35", after := #[{ on := 8, ground := Ground.data }, { on := 2, ground := Ground.guard }], guard := some (2, true) }) (v := ?_) rfl (by kernel_rfl) (by kernel_rfl) (by kernel_rfl) (fun _ _ _ h => h) (Or.inl ⟨by rfl, ?_⟩) (by assumption) ?_
  rotate_left
  · (intro w hSw; (try dsimp only at hSw); go_simp; try with_reducible rfl)
  ((try simp only [Act.put]); (try simp only [List.setIfInBounds_toArray]); (try simp only [List.set_cons_succ]); (try simp only [List.set_cons_zero]))
  refine wpAnyH_ready (rs := [5]) (by kernel_rfl) (by simp) ?_
  refine AllReadyH.cons (o := { dst := some 14, op := Op.call { callee := Callee.value (Operand.func 14), args := #[Operand.tmp 12, Operand.tmp 13], argTypes := #[29, 29] }, type := 29, pos := "law.go:35", after := #[{ on := 3, ground := Ground.data }, { on := 4, ground := Ground.data }, { on := 2, ground := Ground.chain }, { on := 2, ground := Ground.guard }], guard := some (2, true) }) rfl (fun K hK => ?_) AllReadyH.nil
  go_simp
  refine (join_any (LA.out.below (Hid.out hHeld.2.2)) (LB.out.below (Hid.out hHeld.2.2)) (by decide) (by decide) JL.out).mono ?_
  rintro e w2 ⟨a3, c3, rfl, hO, -, hb⟩
  rw [JH.out] at hO
  have K1 := Lib.hid (log1_any (hO.at rfl) (by decide))
  clear hO
  try go_wp2_with fail
  refine hK.out _ _ ?_ (fun hNew => ?_)
  · exact ⟨cell_go hHeld.1 hb, cell_go hHeld.2.1 hb, Lib.hid ((Hid.out hHeld.2.2).trans (hb.mono (Hid.out hHeld.2.2).size))⟩
  clear hK K
  replace hHeld := hNew
  clear hNew
  ((try simp only [Act.put]); (try simp only [List.setIfInBounds_toArray]); (try simp only [List.set_cons_succ]); (try simp only [List.set_cons_zero]))
  refine wpAnyH_take (i := 6) (oi := { dst := some 15, op := Op.field 29 (Operand.tmp 14) 0, type := 27, pos := "law.go:35", after := #[{ on := 5, ground := Ground.data }, { on := 2, ground := Ground.guard }], guard := some (2, true) }) (v := ?_) rfl (by kernel_rfl) (by kernel_rfl) (by kernel_rfl) (fun _ _ _ h => h) (Or.inl ⟨by rfl, ?_⟩) (by assumption) ?_
  rotate_left
  · (intro w hSw; (try dsimp only at hSw); go_simp; try with_reducible rfl)
  ((try simp only [Act.put]); (try simp only [List.setIfInBounds_toArray]); (try simp only [List.set_cons_succ]); (try simp only [List.set_cons_zero]))
  refine wpAnyH_ready (rs := [7]) (by kernel_rfl) (by simp) ?_
  refine AllReadyH.cons (o := { dst := some 16, op := Op.call { callee := Callee.value (Operand.func 18), args := #[Operand.tmp 15], argTypes := #[27] }, type := 40, pos := "law.go:35", after := #[{ on := 6, ground := Ground.data }, { on := 5, ground := Ground.chain }, { on := 2, ground := Ground.guard }], guard := some (2, true) }) rfl (fun K hK => ?_) AllReadyH.nil
  go_simp
  refine K1.out.mono ?_
  rintro e w3 ⟨a4, c4, rfl, hL, hb⟩
  have L4 := Lib.hid hL
  clear hL
  try go_wp2_with fail
  refine hK.out _ _ ?_ (fun hNew => ?_)
  · exact ⟨cell_go hHeld.1 hb, cell_go hHeld.2.1 hb, Lib.hid ((Hid.out hHeld.2.2).trans (hb.mono (Hid.out hHeld.2.2).size))⟩
  clear hK K
  replace hHeld := hNew
  clear hNew
  ((try simp only [Act.put]); (try simp only [List.setIfInBounds_toArray]); (try simp only [List.set_cons_succ]); (try simp only [List.set_cons_zero]))
  refine wpAnyH_ready (rs := [10]) (by kernel_rfl) (by simp) ?_
  refine AllReadyH.cons (o := { dst := some 19, op := Op.call { callee := Callee.value (Operand.func 18), args := #[Operand.tmp 18], argTypes := #[27] }, type := 40, pos := "law.go:35", after := #[{ on := 9, ground := Ground.data }, { on := 7, ground := Ground.chain }, { on := 2, ground := Ground.guard }], guard := some (2, true) }) rfl (fun K hK => ?_) AllReadyH.nil
  go_simp
  refine (log1_any (LA.out.below (Hid.out hHeld.2.2)) (by decide)).mono ?_
  rintro e w4 ⟨a5, c5, rfl, hL, hb⟩
  have K3 := Lib.hid (logs_any (L4.out.below hb) hL (r := true) (by decide))
  clear hL
  try go_wp2_with fail
  refine hK.out _ _ ?_ (fun hNew => ?_)
  · exact ⟨cell_go hHeld.1 hb, cell_go hHeld.2.1 hb, Lib.hid ((Hid.out hHeld.2.2).trans (hb.mono (Hid.out hHeld.2.2).size))⟩
  clear hK K
  replace hHeld := hNew
  clear hNew
  ((try simp only [Act.put]); (try simp only [List.setIfInBounds_toArray]); (try simp only [List.set_cons_succ]); (try simp only [List.set_cons_zero]))
  refine wpAnyH_ready (rs := [11]) (by kernel_rfl) (by simp) ?_
  refine AllReadyH.cons (o := { dst := some 20, op := Op.call { callee := Callee.value (Operand.func 17), args := #[Operand.tmp 16, Operand.tmp 19], argTypes := #[40, 40] }, type := 4, pos := "law.go:35", after := #[{ on := 7, ground := Ground.data }, { on := 10, ground := Ground.data }, { on := 10, ground := Ground.chain }, { on := 2, ground := Ground.guard }], guard := some (2, true) }) rfl (fun K hK => ?_) AllReadyH.nil
  go_simp
  refine K3.out.mono ?_
  rintro e w5 ⟨rfl, q, rfl⟩
  have hb := drewN_below w4 q
  try go_wp2_with fail
  refine hK.out _ _ ?_ (fun hNew => ?_)
  · exact ⟨cell_go hHeld.1 hb, cell_go hHeld.2.1 hb, Lib.hid ((Hid.out hHeld.2.2).trans (hb.mono (Hid.out hHeld.2.2).size))⟩
  clear hK K
  replace hHeld := hNew
  clear hNew
  ((try simp only [Act.put]); (try simp only [List.setIfInBounds_toArray]); (try simp only [List.set_cons_succ]); (try simp only [List.set_cons_zero]))
  refine wpAnyH_take (i := 12) (oi := { dst := some 21, op := Op.pick (Operand.tmp 11) (Operand.tmp 20) (Operand.const (Value.bool false)), type := 4, pos := "law.go:35", after := #[{ on := 2, ground := Ground.data }, { on := 11, ground := Ground.data }], guard := none }) (v := ?_) rfl (by kernel_rfl) (by kernel_rfl) (by kernel_rfl) (fun _ _ _ h => h) (Or.inl ⟨by rfl, ?_⟩) (by assumption) ?_
  rotate_left
  · (intro w hSw; (try dsimp only at hSw); go_simp; try with_reducible rfl)
  ((try simp only [Act.put]); (try simp only [List.setIfInBounds_toArray]); (try simp only [List.set_cons_succ]); (try simp only [List.set_cons_zero]))
  refine wpAnyH_take (i := 13) (oi := { dst := some 0, op := Op.assign (Operand.tmp 21), type := 4, pos := "law.go:35", after := #[{ on := 12, ground := Ground.data }, { on := 11, ground := Ground.chain }, { on := 0, ground := Ground.phase }, { on := 1, ground := Ground.phase }, { on := 2, ground := Ground.phase }, { on := 3, ground := Ground.phase }, { on := 4, ground := Ground.phase }, { on := 5, ground := Ground.phase }, { on := 6, ground := Ground.phase }, { on := 7, ground := Ground.phase }, { on := 8, ground := Ground.phase }, { on := 9, ground := Ground.phase }, { on := 10, ground := Ground.phase }, { on := 11, ground := Ground.phase }, { on := 12, ground := Ground.phase }], guard := none }) (v := ?_) rfl (by kernel_rfl) (by kernel_rfl) (by kernel_rfl) (fun _ _ _ h => h) (Or.inl ⟨by rfl, ?_⟩) (by assumption) ?_
  rotate_left
  · (intro w hSw; (try dsimp only at hSw); go_simp; try with_reducible rfl)
  ((try simp only [Act.put]); (try simp only [List.setIfInBounds_toArray]); (try simp only [List.set_cons_succ]); (try simp only [List.set_cons_zero]))
  refine wpAnyH_done (by kernel_rfl) ?_ _
  refine NoPanic.normal ?_
  have BF := Lib.hid (Hid.out hHeld.2.2)
  clear hHeld
  go_wp2_with fail
  go_ret
  exact ⟨rfl, HB.out.trans (BF.out.mono HB.out.size)⟩

end Go.Proofs.Ytbmpeadoicjpnaa
