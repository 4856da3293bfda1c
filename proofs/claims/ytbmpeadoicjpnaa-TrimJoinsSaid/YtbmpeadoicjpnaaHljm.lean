/-
  TrimJoins.
-/
import Derived.Test.YtbmpeadoicjpnaaHawm
import Derived.Deep.RegionHeld3
namespace Go.Proofs.Ytbmpeadoicjpnaa
open Go.RowKit Go.Sort

set_option maxRecDepth 20000 in
set_option maxHeartbeats 8000000 in
theorem law_TrimJoins (l1 : List Le) (ao1 : Option Addr) (c1 : Nat) (l2 : List Le) (ao2 : Option Addr) (c2 : Nat) (W : World) (h1 : LgAt (fun _ => True) W ao1 c1 l1.length l1) (h2 : LgAt (fun _ => True) W ao2 c2 l2.length l2) :
    Calls Try.prog 6 #[.slice ao1 l1.length c1, .slice ao2 l2.length c2] W fun e w' => e = .returned (.bool true) ∧ Below W.heap.size W w' := by
  have hfl : ∀ (a : Option Addr) (n c : Nat) (w : World), (Instr.field 29 (.agg #[.slice a n c]) 0).run Try.prog w = .ok (.slice a n c) w := fun a n c w => by kernel_rfl
  obtain ⟨n1, hn1⟩ : ∃ n, n = l1.length := ⟨_, rfl⟩
  obtain ⟨n2, hn2⟩ : ∃ n, n = l2.length := ⟨_, rfl⟩
  rw [← hn1] at h1 ⊢
  rw [← hn2] at h2 ⊢
  have HN1 := Lib.hid hn1.symm
  have HN2 := Lib.hid hn2.symm
  have M1 := Lib.hid h1
  have M2 := Lib.hid h2
  have AW := Lib.hid (awake_any W)
  clear h1 h2 hn1 hn2
  go_enter Try.func6, Try.ntmps6
  go_wp2_with fail
  refine AW.out.mono ?_
  rintro e w1 ⟨rfl, hb⟩
  obtain ⟨U, hU⟩ : ∃ U, U = (w1.alloc (.cells #[.slice ao1 n1 c1] 29)).alloc (.cells #[.slice ao2 n2 c2] 29) := ⟨_, rfl⟩
  have bU := Lib.hid (show Below W.heap.size W U from hb.trans (by rw [hU]; exact (below_alloc (boxb w1 _) _).mono hb.size))
  have DG := Lib.hid (show Cel 1 U w1.heap.size (gcE ao1 n1 c1) by rw [hU]; exact (boxG w1 ao1 n1 c1 _).below (boxb _ _))
  have DH := Lib.hid (show Cel 1 U (w1.heap.size + 1) (gcE ao2 n2 c2) by
    have := boxG (w1.alloc (.cells #[.slice ao1 n1 c1] 29)) ao2 n2 c2 29
    rw [← hU, show (w1.alloc (.cells #[.slice ao1 n1 c1] 29)).heap.size = w1.heap.size + 1 by simp] at this
    exact this)
  have g0 : U.cell? ⟨w1.heap.size, 0, none⟩ = some (.slice ao1 n1 c1) := DG.out.c 0 (by decide)
  have HU := Lib.hid hU.symm
  clear hb hU AW
  by_cases h40 : n1 > 40
  · have d1 : decide ((n1 : Int) > 40) = true := decide_eq_true (by omega)
    have d1' : decide (40 < n1) = true := decide_eq_true h40
    go_upto_region 4 with fail
    rw [HU.out]
    go_wp2_with fail
    go_ret
    exact ⟨rfl, bU.out⟩
  · have d1 : decide ((n1 : Int) > 40) = false := decide_eq_false (by omega)
    have d1' : decide (40 < n1) = false := decide_eq_false h40
    by_cases h41 : n2 > 40
    · have d2 : decide ((n2 : Int) > 40) = true := decide_eq_true (by omega)
      have d2' : decide (40 < n2) = true := decide_eq_true h41
      go_upto_region 4 with fail
      rw [HU.out]
      go_wp2_with fail
      go_ret
      exact ⟨rfl, bU.out⟩
    · have d2 : decide ((n2 : Int) > 40) = false := decide_eq_false (by omega)
      have d2' : decide (40 < n2) = false := decide_eq_false h41
      go_upto_region 4 with fail
      rw [HU.out]
      clear HU
      generalize w1.heap.size = pg at *
      go_wp2_with fail
      refine (tgood_any (M1.out.below bU.out) rfl).mono ?_
      rintro e w2 ⟨rfl, hb⟩
      have b2 := Lib.hid (bU.out.trans (hb.mono bU.out.size))
      have EG := Lib.hid (DG.out.below hb)
      have EH := Lib.hid (DH.out.below hb)
      have h2 : w2.cell? ⟨pg + 1, 0, none⟩ = some (.slice ao2 n2 c2) := EH.out.c 0 (by decide)
      clear hb g0 DG DH
      cases hg1 : goodL l1
      · clear hg1
        go_wp2_with fail
        go_ret
        exact ⟨rfl, b2.out⟩
      · go_wp2_with fail
        refine (tgood_any (M2.out.below b2.out) rfl).mono ?_
        rintro e w3 ⟨rfl, hb⟩
        have b3 := Lib.hid (b2.out.trans (hb.mono b2.out.size))
        have FG := Lib.hid (EG.out.below hb)
        have FH := Lib.hid (EH.out.below hb)
        have g3 : w3.cell? ⟨pg, 0, none⟩ = some (.slice ao1 n1 c1) := FG.out.c 0 (by decide)
        clear hb h2 EG EH
        cases hg2 : goodL l2
        · clear hg1 hg2
          go_wp2_with fail
          go_ret
          exact ⟨rfl, b3.out⟩
        · obtain ⟨q, hq⟩ : ∃ q, q = purgeL l1 := ⟨_, rfl⟩
          have QP := Lib.hid (show purgeL q = q by rw [hq]; exact purge_twice hg1)
          have QL := Lib.hid (show q.length ≤ n1 by rw [hq, ← HN1.out]; exact purge_sub.length_le)
          have PC := Lib.hid (purge_any (M1.out.below b3.out) (by omega) rfl)
          rw [← hq] at PC
          have JS := Lib.hid (join_self hg1)
          have JL1 := Lib.hid (show (joinG l1 l1).length = n1 by rw [JS.out]; exact HN1.out)
          have JC := Lib.hid (join_comm hg2 hg1)
          obtain ⟨jm, hjm⟩ : ∃ jm, jm = (joinG l1 l2).length := ⟨_, rfl⟩
          have JM := Lib.hid hjm.symm
          have JM2 := Lib.hid (show (joinG l2 l1).length = jm by rw [JC.out]; exact hjm.symm)
          have JG := Lib.hid (join_is hg1 hg2).1
          have JB : jm ≤ 80 := by
            have h5 := joinG_len hg1 hg2
            rw [HN1.out, HN2.out, ← hjm] at h5
            omega
          clear hq hg1 hg2 hjm
          go_wp2_with fail
          refine PC.out.mono ?_
          rintro e w4 ⟨a3, c3, rfl, hO, -, hb⟩
          obtain ⟨m, hm⟩ : ∃ m, m = q.length := ⟨_, rfl⟩
          rw [← hm] at hO ⊢
          have HM := Lib.hid hm.symm
          have PL := Lib.hid (show (purgeL q).length = m by rw [QP.out]; exact hm.symm)
          have hmn : m ≤ n1 := by have := QL.out; omega
          obtain ⟨V, hV⟩ : ∃ V, V = w4.alloc (.cells #[.slice a3 m c3] 29) := ⟨_, rfl⟩
          have b4V : Below w4.heap.size w4 V := by rw [hV]; exact boxb w4 _
          have b3V := hb.trans (b4V.mono hb.size)
          have bV := Lib.hid (show Below W.heap.size W V from b3.out.trans (b3V.mono b3.out.size))
          have CP := Lib.hid (show Cel 1 V w4.heap.size (gcE a3 m c3) by rw [hV]; exact boxG w4 a3 m c3 _)
          have LP := Lib.hid ((hO.at hm.symm).below b4V)
          have CG := Lib.hid (FG.out.below b3V)
          have CH := Lib.hid (FH.out.below b3V)
          have L1 := Lib.hid (M1.out.below bV.out)
          have L2 := Lib.hid (M2.out.below bV.out)
          have HV := Lib.hid hV.symm
          have dm : decide ((m : Int) ≤ (n1 : Int)) = true := decide_eq_true (by omega)
          have dm' : decide (m ≤ n1) = true := decide_eq_true hmn
          clear hb hV PC hO hm g3 b2 b3 FG FH b4V b3V M1 M2
          go_upto_region 7 with fail
          rw [HV.out]
          clear HV
          generalize w4.heap.size = pp at *
          refine wp_region_noPanic ?_
          refine wp_region_held_drew (S := (fun w' => w'.cell? ⟨pg, 0, none⟩ = some (.slice ao1 n1 c1) ∧ w'.cell? ⟨pg + 1, 0, none⟩ = some (.slice ao2 n2 c2) ∧ w'.cell? ⟨pp, 0, none⟩ = some (.slice a3 m c3) ∧ Hid (Below V.heap.size V w'))) (by kernel_rfl) ?_ (fun hHeld => ?_)
          · exact ⟨CG.out.c 0 (by decide), CH.out.c 0 (by decide), CP.out.c 0 (by decide), Lib.hid (drew_below V)⟩
          refine wpAnyH_take (i := 0) (oi := { dst := some 34, op := Op.load 29 (Operand.tmp 5), type := 29, pos := "law.go:101", after := #[], guard := none }) (v := ?_) rfl (by kernel_rfl) (by kernel_rfl) (by kernel_rfl) (fun _ _ _ h => h) (Or.inl ⟨by rfl, ?_⟩) (by assumption) ?_
          rotate_left
          · (intro w hSw; (try dsimp only at hSw); go_simp; try with_reducible rfl)
          ((try simp only [Act.put]); (try simp only [List.setIfInBounds_toArray]); (try simp only [List.set_cons_succ]); (try simp only [List.set_cons_zero]))
          refine wpAnyH_take (i := 1) (oi := { dst := some 35, op := Op.load 29 (Operand.tmp 5), type := 29, pos := "law.go:101", after := #[], guard := none }) (v := ?_) rfl (by kernel_rfl) (by kernel_rfl) (by kernel_rfl) (fun _ _ _ h => h) (Or.inl ⟨by rfl, ?_⟩) (by assumption) ?_
          rotate_left
          · (intro w hSw; (try dsimp only at hSw); go_simp; try with_reducible rfl)
          ((try simp only [Act.put]); (try simp only [List.setIfInBounds_toArray]); (try simp only [List.set_cons_succ]); (try simp only [List.set_cons_zero]))
          refine wpAnyH_take (i := 5) (oi := { dst := some 39, op := Op.move (Operand.tmp 0), type := 27, pos := "law.go:101", after := #[], guard := none }) (v := ?_) rfl (by kernel_rfl) (by kernel_rfl) (by kernel_rfl) (fun _ _ _ h => h) (Or.inl ⟨by rfl, ?_⟩) (by assumption) ?_
          rotate_left
          · (intro w hSw; (try dsimp only at hSw); go_simp; try with_reducible rfl)
          ((try simp only [Act.put]); (try simp only [List.setIfInBounds_toArray]); (try simp only [List.set_cons_succ]); (try simp only [List.set_cons_zero]))
          refine wpAnyH_ready (rs := [2]) (by kernel_rfl) (by simp) ?_
          refine AllReadyH.cons (o := { dst := some 36, op := Op.call { callee := Callee.value (Operand.func 14), args := #[Operand.tmp 34, Operand.tmp 35], argTypes := #[29, 29] }, type := 29, pos := "law.go:101", after := #[{ on := 0, ground := Ground.data }, { on := 1, ground := Ground.data }], guard := none }) rfl (fun K hK => ?_) AllReadyH.nil
          go_simp
          refine (join_any (L1.out.below (Hid.out hHeld.2.2.2)) (L1.out.below (Hid.out hHeld.2.2.2)) (by omega) (by omega) JL1.out).mono ?_
          rintro e1 w ⟨a9, c9, rfl, hO, hO2, hb⟩
          rw [JS.out] at hO hO2
          have K1 := Lib.hid (log1_any (hO.at hO2) (by omega))
          clear hO hO2
          try go_wp2_with fail
          refine hK.out _ _ ?_ (fun hNew => ?_)
          · exact ⟨cell_go hHeld.1 hb, cell_go hHeld.2.1 hb, cell_go hHeld.2.2.1 hb, Lib.hid ((Hid.out hHeld.2.2.2).trans (hb.mono (Hid.out hHeld.2.2.2).size))⟩
          clear hK K
          replace hHeld := hNew
          clear hNew
          ((try simp only [Act.put]); (try simp only [List.setIfInBounds_toArray]); (try simp only [List.set_cons_succ]); (try simp only [List.set_cons_zero]))
          refine wpAnyH_take (i := 3) (oi := { dst := some 37, op := Op.field 29 (Operand.tmp 36) 0, type := 27, pos := "law.go:101", after := #[{ on := 2, ground := Ground.data }], guard := none }) (v := ?_) rfl (by kernel_rfl) (by kernel_rfl) (by kernel_rfl) (fun _ _ _ h => h) (Or.inl ⟨by rfl, ?_⟩) (by assumption) ?_
          rotate_left
          · (intro w hSw; (try dsimp only at hSw); go_simp; try with_reducible rfl)
          ((try simp only [Act.put]); (try simp only [List.setIfInBounds_toArray]); (try simp only [List.set_cons_succ]); (try simp only [List.set_cons_zero]))
          refine wpAnyH_ready (rs := [4]) (by kernel_rfl) (by simp) ?_
          refine AllReadyH.cons (o := { dst := some 38, op := Op.call { callee := Callee.value (Operand.func 18), args := #[Operand.tmp 37], argTypes := #[27] }, type := 40, pos := "law.go:101", after := #[{ on := 3, ground := Ground.data }, { on := 2, ground := Ground.chain }], guard := none }) rfl (fun K hK => ?_) AllReadyH.nil
          go_simp
          refine K1.out.mono ?_
          rintro e1 w ⟨a9, c9, rfl, hL, hb⟩
          have L4 := Lib.hid hL
          clear hL K1
          try go_wp2_with fail
          refine hK.out _ _ ?_ (fun hNew => ?_)
          · exact ⟨cell_go hHeld.1 hb, cell_go hHeld.2.1 hb, cell_go hHeld.2.2.1 hb, Lib.hid ((Hid.out hHeld.2.2.2).trans (hb.mono (Hid.out hHeld.2.2.2).size))⟩
          clear hK K
          replace hHeld := hNew
          clear hNew
          ((try simp only [Act.put]); (try simp only [List.setIfInBounds_toArray]); (try simp only [List.set_cons_succ]); (try simp only [List.set_cons_zero]))
          refine wpAnyH_ready (rs := [6]) (by kernel_rfl) (by simp) ?_
          refine AllReadyH.cons (o := { dst := some 40, op := Op.call { callee := Callee.value (Operand.func 18), args := #[Operand.tmp 39], argTypes := #[27] }, type := 40, pos := "law.go:101", after := #[{ on := 5, ground := Ground.data }, { on := 4, ground := Ground.chain }], guard := none }) rfl (fun K hK => ?_) AllReadyH.nil
          go_simp
          refine (log1_any (L1.out.below (Hid.out hHeld.2.2.2)) (by omega)).mono ?_
          rintro e1 w ⟨a9, c9, rfl, hL, hb⟩
          have K3 := Lib.hid (logs_any (L4.out.below hb) hL (r := true) (decide_eq_true rfl))
          clear hL L4
          try go_wp2_with fail
          refine hK.out _ _ ?_ (fun hNew => ?_)
          · exact ⟨cell_go hHeld.1 hb, cell_go hHeld.2.1 hb, cell_go hHeld.2.2.1 hb, Lib.hid ((Hid.out hHeld.2.2.2).trans (hb.mono (Hid.out hHeld.2.2.2).size))⟩
          clear hK K
          replace hHeld := hNew
          clear hNew
          ((try simp only [Act.put]); (try simp only [List.setIfInBounds_toArray]); (try simp only [List.set_cons_succ]); (try simp only [List.set_cons_zero]))
          refine wpAnyH_ready (rs := [7]) (by kernel_rfl) (by simp) ?_
          refine AllReadyH.cons (o := { dst := some 41, op := Op.call { callee := Callee.value (Operand.func 17), args := #[Operand.tmp 38, Operand.tmp 40], argTypes := #[40, 40] }, type := 4, pos := "law.go:101", after := #[{ on := 4, ground := Ground.data }, { on := 6, ground := Ground.data }, { on := 6, ground := Ground.chain }], guard := none }) rfl (fun K hK => ?_) AllReadyH.nil
          go_simp
          refine K3.out.mono ?_
          rintro e1 w ⟨rfl, q9, rfl⟩
          have hb := drewN_below w q9
          try go_wp2_with fail
          refine hK.out _ _ ?_ (fun hNew => ?_)
          · exact ⟨cell_go hHeld.1 hb, cell_go hHeld.2.1 hb, cell_go hHeld.2.2.1 hb, Lib.hid ((Hid.out hHeld.2.2.2).trans (hb.mono (Hid.out hHeld.2.2.2).size))⟩
          clear hK K
          replace hHeld := hNew
          clear hNew
          ((try simp only [Act.put]); (try simp only [List.setIfInBounds_toArray]); (try simp only [List.set_cons_succ]); (try simp only [List.set_cons_zero]))
          refine wpAnyH_take (i := 8) (oi := { dst := some 42, op := Op.move (Operand.tmp 41), type := 4, pos := "law.go:101", after := #[{ on := 7, ground := Ground.data }, { on := 7, ground := Ground.chain }], guard := none }) (v := ?_) rfl (by kernel_rfl) (by kernel_rfl) (by kernel_rfl) (fun _ _ _ h => h) (Or.inl ⟨by rfl, ?_⟩) (by assumption) ?_
          rotate_left
          · (intro w hSw; (try dsimp only at hSw); go_simp; try with_reducible rfl)
          ((try simp only [Act.put]); (try simp only [List.setIfInBounds_toArray]); (try simp only [List.set_cons_succ]); (try simp only [List.set_cons_zero]))
          refine wpAnyH_take (i := 9) (oi := { dst := some 43, op := Op.load 29 (Operand.tmp 5), type := 29, pos := "law.go:101", after := #[{ on := 8, ground := Ground.guard }], guard := some (8, true) }) (v := ?_) rfl (by kernel_rfl) (by kernel_rfl) (by kernel_rfl) (fun _ _ _ h => h) (Or.inl ⟨by rfl, ?_⟩) (by assumption) ?_
          rotate_left
          · (intro w hSw; (try dsimp only at hSw); go_simp; try with_reducible rfl)
          ((try simp only [Act.put]); (try simp only [List.setIfInBounds_toArray]); (try simp only [List.set_cons_succ]); (try simp only [List.set_cons_zero]))
          refine wpAnyH_take (i := 10) (oi := { dst := some 44, op := Op.load 29 (Operand.tmp 6), type := 29, pos := "law.go:101", after := #[{ on := 8, ground := Ground.guard }], guard := some (8, true) }) (v := ?_) rfl (by kernel_rfl) (by kernel_rfl) (by kernel_rfl) (fun _ _ _ h => h) (Or.inl ⟨by rfl, ?_⟩) (by assumption) ?_
          rotate_left
          · (intro w hSw; (try dsimp only at hSw); go_simp; try with_reducible rfl)
          ((try simp only [Act.put]); (try simp only [List.setIfInBounds_toArray]); (try simp only [List.set_cons_succ]); (try simp only [List.set_cons_zero]))
          refine wpAnyH_take (i := 14) (oi := { dst := some 48, op := Op.load 29 (Operand.tmp 6), type := 29, pos := "law.go:101", after := #[{ on := 8, ground := Ground.guard }], guard := some (8, true) }) (v := ?_) rfl (by kernel_rfl) (by kernel_rfl) (by kernel_rfl) (fun _ _ _ h => h) (Or.inl ⟨by rfl, ?_⟩) (by assumption) ?_
          rotate_left
          · (intro w hSw; (try dsimp only at hSw); go_simp; try with_reducible rfl)
          ((try simp only [Act.put]); (try simp only [List.setIfInBounds_toArray]); (try simp only [List.set_cons_succ]); (try simp only [List.set_cons_zero]))
          refine wpAnyH_take (i := 15) (oi := { dst := some 49, op := Op.load 29 (Operand.tmp 5), type := 29, pos := "law.go:101", after := #[{ on := 8, ground := Ground.guard }], guard := some (8, true) }) (v := ?_) rfl (by kernel_rfl) (by kernel_rfl) (by kernel_rfl) (fun _ _ _ h => h) (Or.inl ⟨by rfl, ?_⟩) (by assumption) ?_
          rotate_left
          · (intro w hSw; (try dsimp only at hSw); go_simp; try with_reducible rfl)
          ((try simp only [Act.put]); (try simp only [List.setIfInBounds_toArray]); (try simp only [List.set_cons_succ]); (try simp only [List.set_cons_zero]))
          refine wpAnyH_ready (rs := [11]) (by kernel_rfl) (by simp) ?_
          refine AllReadyH.cons (o := { dst := some 45, op := Op.call { callee := Callee.value (Operand.func 14), args := #[Operand.tmp 43, Operand.tmp 44], argTypes := #[29, 29] }, type := 29, pos := "law.go:101", after := #[{ on := 9, ground := Ground.data }, { on := 10, ground := Ground.data }, { on := 8, ground := Ground.chain }, { on := 8, ground := Ground.guard }], guard := some (8, true) }) rfl (fun K hK => ?_) AllReadyH.nil
          go_simp
          refine (join_any (L1.out.below (Hid.out hHeld.2.2.2)) (L2.out.below (Hid.out hHeld.2.2.2)) (by omega) (by omega) JM.out).mono ?_
          rintro e1 w ⟨a9, c9, rfl, hO, hO2, hb⟩
          have K5 := Lib.hid (log1_any (hO.at hO2) (by omega))
          clear hO hO2 K3
          try go_wp2_with fail
          refine hK.out _ _ ?_ (fun hNew => ?_)
          · exact ⟨cell_go hHeld.1 hb, cell_go hHeld.2.1 hb, cell_go hHeld.2.2.1 hb, Lib.hid ((Hid.out hHeld.2.2.2).trans (hb.mono (Hid.out hHeld.2.2.2).size))⟩
          clear hK K
          replace hHeld := hNew
          clear hNew
          ((try simp only [Act.put]); (try simp only [List.setIfInBounds_toArray]); (try simp only [List.set_cons_succ]); (try simp only [List.set_cons_zero]))
          refine wpAnyH_take (i := 12) (oi := { dst := some 46, op := Op.field 29 (Operand.tmp 45) 0, type := 27, pos := "law.go:101", after := #[{ on := 11, ground := Ground.data }, { on := 8, ground := Ground.guard }], guard := some (8, true) }) (v := ?_) rfl (by kernel_rfl) (by kernel_rfl) (by kernel_rfl) (fun _ _ _ h => h) (Or.inl ⟨by rfl, ?_⟩) (by assumption) ?_
          rotate_left
          · (intro w hSw; (try dsimp only at hSw); go_simp; try with_reducible rfl)
          ((try simp only [Act.put]); (try simp only [List.setIfInBounds_toArray]); (try simp only [List.set_cons_succ]); (try simp only [List.set_cons_zero]))
          refine wpAnyH_ready (rs := [13]) (by kernel_rfl) (by simp) ?_
          refine AllReadyH.cons (o := { dst := some 47, op := Op.call { callee := Callee.value (Operand.func 18), args := #[Operand.tmp 46], argTypes := #[27] }, type := 40, pos := "law.go:101", after := #[{ on := 12, ground := Ground.data }, { on := 11, ground := Ground.chain }, { on := 8, ground := Ground.guard }], guard := some (8, true) }) rfl (fun K hK => ?_) AllReadyH.nil
          go_simp
          refine K5.out.mono ?_
          rintro e1 w ⟨a9, c9, rfl, hL, hb⟩
          have L6 := Lib.hid hL
          clear hL K5
          try go_wp2_with fail
          refine hK.out _ _ ?_ (fun hNew => ?_)
          · exact ⟨cell_go hHeld.1 hb, cell_go hHeld.2.1 hb, cell_go hHeld.2.2.1 hb, Lib.hid ((Hid.out hHeld.2.2.2).trans (hb.mono (Hid.out hHeld.2.2.2).size))⟩
          clear hK K
          replace hHeld := hNew
          clear hNew
          ((try simp only [Act.put]); (try simp only [List.setIfInBounds_toArray]); (try simp only [List.set_cons_succ]); (try simp only [List.set_cons_zero]))
          refine wpAnyH_ready (rs := [16]) (by kernel_rfl) (by simp) ?_
          refine AllReadyH.cons (o := { dst := some 50, op := Op.call { callee := Callee.value (Operand.func 14), args := #[Operand.tmp 48, Operand.tmp 49], argTypes := #[29, 29] }, type := 29, pos := "law.go:101", after := #[{ on := 14, ground := Ground.data }, { on := 15, ground := Ground.data }, { on := 13, ground := Ground.chain }, { on := 8, ground := Ground.guard }], guard := some (8, true) }) rfl (fun K hK => ?_) AllReadyH.nil
          go_simp
          refine (join_any (L2.out.below (Hid.out hHeld.2.2.2)) (L1.out.below (Hid.out hHeld.2.2.2)) (by omega) (by omega) JM2.out).mono ?_
          rintro e1 w ⟨a9, c9, rfl, hO, hO2, hb⟩
          rw [JC.out] at hO hO2
          have L7 := Lib.hid (L6.out.below hb)
          have K7 := Lib.hid (log1_any (hO.at hO2) (by omega))
          clear hO hO2 L6
          try go_wp2_with fail
          refine hK.out _ _ ?_ (fun hNew => ?_)
          · exact ⟨cell_go hHeld.1 hb, cell_go hHeld.2.1 hb, cell_go hHeld.2.2.1 hb, Lib.hid ((Hid.out hHeld.2.2.2).trans (hb.mono (Hid.out hHeld.2.2.2).size))⟩
          clear hK K
          replace hHeld := hNew
          clear hNew
          ((try simp only [Act.put]); (try simp only [List.setIfInBounds_toArray]); (try simp only [List.set_cons_succ]); (try simp only [List.set_cons_zero]))
          refine wpAnyH_take (i := 17) (oi := { dst := some 51, op := Op.field 29 (Operand.tmp 50) 0, type := 27, pos := "law.go:101", after := #[{ on := 16, ground := Ground.data }, { on := 8, ground := Ground.guard }], guard := some (8, true) }) (v := ?_) rfl (by kernel_rfl) (by kernel_rfl) (by kernel_rfl) (fun _ _ _ h => h) (Or.inl ⟨by rfl, ?_⟩) (by assumption) ?_
          rotate_left
          · (intro w hSw; (try dsimp only at hSw); go_simp; try with_reducible rfl)
          ((try simp only [Act.put]); (try simp only [List.setIfInBounds_toArray]); (try simp only [List.set_cons_succ]); (try simp only [List.set_cons_zero]))
          refine wpAnyH_ready (rs := [18]) (by kernel_rfl) (by simp) ?_
          refine AllReadyH.cons (o := { dst := some 52, op := Op.call { callee := Callee.value (Operand.func 18), args := #[Operand.tmp 51], argTypes := #[27] }, type := 40, pos := "law.go:101", after := #[{ on := 17, ground := Ground.data }, { on := 16, ground := Ground.chain }, { on := 8, ground := Ground.guard }], guard := some (8, true) }) rfl (fun K hK => ?_) AllReadyH.nil
          go_simp
          refine K7.out.mono ?_
          rintro e1 w ⟨a9, c9, rfl, hL, hb⟩
          have K9 := Lib.hid (logs_any (L7.out.below hb) hL (r := true) (decide_eq_true rfl))
          clear hL L7 K7
          try go_wp2_with fail
          refine hK.out _ _ ?_ (fun hNew => ?_)
          · exact ⟨cell_go hHeld.1 hb, cell_go hHeld.2.1 hb, cell_go hHeld.2.2.1 hb, Lib.hid ((Hid.out hHeld.2.2.2).trans (hb.mono (Hid.out hHeld.2.2.2).size))⟩
          clear hK K
          replace hHeld := hNew
          clear hNew
          ((try simp only [Act.put]); (try simp only [List.setIfInBounds_toArray]); (try simp only [List.set_cons_succ]); (try simp only [List.set_cons_zero]))
          refine wpAnyH_ready (rs := [19]) (by kernel_rfl) (by simp) ?_
          refine AllReadyH.cons (o := { dst := some 53, op := Op.call { callee := Callee.value (Operand.func 17), args := #[Operand.tmp 47, Operand.tmp 52], argTypes := #[40, 40] }, type := 4, pos := "law.go:101", after := #[{ on := 13, ground := Ground.data }, { on := 18, ground := Ground.data }, { on := 18, ground := Ground.chain }, { on := 8, ground := Ground.guard }], guard := some (8, true) }) rfl (fun K hK => ?_) AllReadyH.nil
          go_simp
          refine K9.out.mono ?_
          rintro e1 w ⟨rfl, q9, rfl⟩
          have hb := drewN_below w q9
          try go_wp2_with fail
          refine hK.out _ _ ?_ (fun hNew => ?_)
          · exact ⟨cell_go hHeld.1 hb, cell_go hHeld.2.1 hb, cell_go hHeld.2.2.1 hb, Lib.hid ((Hid.out hHeld.2.2.2).trans (hb.mono (Hid.out hHeld.2.2.2).size))⟩
          clear hK K
          replace hHeld := hNew
          clear hNew
          ((try simp only [Act.put]); (try simp only [List.setIfInBounds_toArray]); (try simp only [List.set_cons_succ]); (try simp only [List.set_cons_zero]))
          refine wpAnyH_take (i := 20) (oi := { dst := some 54, op := Op.pick (Operand.tmp 42) (Operand.tmp 53) (Operand.const (Value.bool false)), type := 4, pos := "law.go:101", after := #[{ on := 8, ground := Ground.data }, { on := 19, ground := Ground.data }], guard := none }) (v := ?_) rfl (by kernel_rfl) (by kernel_rfl) (by kernel_rfl) (fun _ _ _ h => h) (Or.inl ⟨by rfl, ?_⟩) (by assumption) ?_
          rotate_left
          · (intro w hSw; (try dsimp only at hSw); go_simp; try with_reducible rfl)
          ((try simp only [Act.put]); (try simp only [List.setIfInBounds_toArray]); (try simp only [List.set_cons_succ]); (try simp only [List.set_cons_zero]))
          refine wpAnyH_take (i := 21) (oi := { dst := some 55, op := Op.move (Operand.tmp 54), type := 4, pos := "law.go:101", after := #[{ on := 20, ground := Ground.data }, { on := 19, ground := Ground.chain }], guard := none }) (v := ?_) rfl (by kernel_rfl) (by kernel_rfl) (by kernel_rfl) (fun _ _ _ h => h) (Or.inl ⟨by rfl, ?_⟩) (by assumption) ?_
          rotate_left
          · (intro w hSw; (try dsimp only at hSw); go_simp; try with_reducible rfl)
          ((try simp only [Act.put]); (try simp only [List.setIfInBounds_toArray]); (try simp only [List.set_cons_succ]); (try simp only [List.set_cons_zero]))
          refine wpAnyH_take (i := 22) (oi := { dst := some 56, op := Op.load 29 (Operand.tmp 5), type := 29, pos := "law.go:101", after := #[{ on := 21, ground := Ground.guard }], guard := some (21, true) }) (v := ?_) rfl (by kernel_rfl) (by kernel_rfl) (by kernel_rfl) (fun _ _ _ h => h) (Or.inl ⟨by rfl, ?_⟩) (by assumption) ?_
          rotate_left
          · (intro w hSw; (try dsimp only at hSw); go_simp; try with_reducible rfl)
          ((try simp only [Act.put]); (try simp only [List.setIfInBounds_toArray]); (try simp only [List.set_cons_succ]); (try simp only [List.set_cons_zero]))
          refine wpAnyH_take (i := 23) (oi := { dst := some 57, op := Op.load 29 (Operand.tmp 6), type := 29, pos := "law.go:101", after := #[{ on := 21, ground := Ground.guard }], guard := some (21, true) }) (v := ?_) rfl (by kernel_rfl) (by kernel_rfl) (by kernel_rfl) (fun _ _ _ h => h) (Or.inl ⟨by rfl, ?_⟩) (by assumption) ?_
          rotate_left
          · (intro w hSw; (try dsimp only at hSw); go_simp; try with_reducible rfl)
          ((try simp only [Act.put]); (try simp only [List.setIfInBounds_toArray]); (try simp only [List.set_cons_succ]); (try simp only [List.set_cons_zero]))
          refine wpAnyH_ready (rs := [24]) (by kernel_rfl) (by simp) ?_
          refine AllReadyH.cons (o := { dst := some 58, op := Op.call { callee := Callee.value (Operand.func 14), args := #[Operand.tmp 56, Operand.tmp 57], argTypes := #[29, 29] }, type := 29, pos := "law.go:101", after := #[{ on := 22, ground := Ground.data }, { on := 23, ground := Ground.data }, { on := 21, ground := Ground.chain }, { on := 21, ground := Ground.guard }], guard := some (21, true) }) rfl (fun K hK => ?_) AllReadyH.nil
          go_simp
          refine (join_any (L1.out.below (Hid.out hHeld.2.2.2)) (L2.out.below (Hid.out hHeld.2.2.2)) (by omega) (by omega) JM.out).mono ?_
          rintro e1 w ⟨a9, c9, rfl, hO, hO2, hb⟩
          have K10 := Lib.hid (tgood_any (hO.at hO2) JG.out)
          clear hO hO2 K9
          try go_wp2_with fail
          refine hK.out _ _ ?_ (fun hNew => ?_)
          · exact ⟨cell_go hHeld.1 hb, cell_go hHeld.2.1 hb, cell_go hHeld.2.2.1 hb, Lib.hid ((Hid.out hHeld.2.2.2).trans (hb.mono (Hid.out hHeld.2.2.2).size))⟩
          clear hK K
          replace hHeld := hNew
          clear hNew
          ((try simp only [Act.put]); (try simp only [List.setIfInBounds_toArray]); (try simp only [List.set_cons_succ]); (try simp only [List.set_cons_zero]))
          refine wpAnyH_ready (rs := [25]) (by kernel_rfl) (by simp) ?_
          refine AllReadyH.cons (o := { dst := some 59, op := Op.call { callee := Callee.value (Operand.func 19), args := #[Operand.tmp 58], argTypes := #[29] }, type := 4, pos := "law.go:101", after := #[{ on := 24, ground := Ground.data }, { on := 24, ground := Ground.chain }, { on := 21, ground := Ground.guard }], guard := some (21, true) }) rfl (fun K hK => ?_) AllReadyH.nil
          go_simp
          refine K10.out.mono ?_
          rintro e1 w ⟨rfl, hb⟩
          try go_wp2_with fail
          refine hK.out _ _ ?_ (fun hNew => ?_)
          · exact ⟨cell_go hHeld.1 hb, cell_go hHeld.2.1 hb, cell_go hHeld.2.2.1 hb, Lib.hid ((Hid.out hHeld.2.2.2).trans (hb.mono (Hid.out hHeld.2.2.2).size))⟩
          clear hK K
          replace hHeld := hNew
          clear hNew
          ((try simp only [Act.put]); (try simp only [List.setIfInBounds_toArray]); (try simp only [List.set_cons_succ]); (try simp only [List.set_cons_zero]))
          refine wpAnyH_take (i := 26) (oi := { dst := some 60, op := Op.pick (Operand.tmp 55) (Operand.tmp 59) (Operand.const (Value.bool false)), type := 4, pos := "law.go:101", after := #[{ on := 21, ground := Ground.data }, { on := 25, ground := Ground.data }], guard := none }) (v := ?_) rfl (by kernel_rfl) (by kernel_rfl) (by kernel_rfl) (fun _ _ _ h => h) (Or.inl ⟨by rfl, ?_⟩) (by assumption) ?_
          rotate_left
          · (intro w hSw; (try dsimp only at hSw); go_simp; try with_reducible rfl)
          ((try simp only [Act.put]); (try simp only [List.setIfInBounds_toArray]); (try simp only [List.set_cons_succ]); (try simp only [List.set_cons_zero]))
          refine wpAnyH_take (i := 27) (oi := { dst := some 61, op := Op.move (Operand.tmp 60), type := 4, pos := "law.go:101", after := #[{ on := 26, ground := Ground.data }, { on := 25, ground := Ground.chain }], guard := none }) (v := ?_) rfl (by kernel_rfl) (by kernel_rfl) (by kernel_rfl) (fun _ _ _ h => h) (Or.inl ⟨by rfl, ?_⟩) (by assumption) ?_
          rotate_left
          · (intro w hSw; (try dsimp only at hSw); go_simp; try with_reducible rfl)
          ((try simp only [Act.put]); (try simp only [List.setIfInBounds_toArray]); (try simp only [List.set_cons_succ]); (try simp only [List.set_cons_zero]))
          refine wpAnyH_take (i := 28) (oi := { dst := some 62, op := Op.load 29 (Operand.tmp 7), type := 29, pos := "law.go:101", after := #[{ on := 27, ground := Ground.guard }], guard := some (27, true) }) (v := ?_) rfl (by kernel_rfl) (by kernel_rfl) (by kernel_rfl) (fun _ _ _ h => h) (Or.inl ⟨by rfl, ?_⟩) (by assumption) ?_
          rotate_left
          · (intro w hSw; (try dsimp only at hSw); go_simp; try with_reducible rfl)
          ((try simp only [Act.put]); (try simp only [List.setIfInBounds_toArray]); (try simp only [List.set_cons_succ]); (try simp only [List.set_cons_zero]))
          refine wpAnyH_take (i := 32) (oi := { dst := some 66, op := Op.fieldAddr 29 (Operand.tmp 7) 0, type := 0, pos := "law.go:101", after := #[{ on := 27, ground := Ground.guard }], guard := some (27, true) }) (v := ?_) rfl (by kernel_rfl) (by kernel_rfl) (by kernel_rfl) (fun _ _ _ h => h) (Or.inl ⟨by rfl, ?_⟩) (by assumption) ?_
          rotate_left
          · (intro w hSw; (try dsimp only at hSw); go_simp; try with_reducible rfl)
          ((try simp only [Act.put]); (try simp only [List.setIfInBounds_toArray]); (try simp only [List.set_cons_succ]); (try simp only [List.set_cons_zero]))
          refine wpAnyH_take (i := 33) (oi := { dst := some 67, op := Op.load 27 (Operand.tmp 66), type := 27, pos := "law.go:101", after := #[{ on := 32, ground := Ground.data }, { on := 27, ground := Ground.guard }], guard := some (27, true) }) (v := ?_) rfl (by kernel_rfl) (by kernel_rfl) (by kernel_rfl) (fun _ _ _ h => h) (Or.inl ⟨by rfl, ?_⟩) (by assumption) ?_
          rotate_left
          · (intro w hSw; (try dsimp only at hSw); go_simp; try with_reducible rfl)
          ((try simp only [Act.put]); (try simp only [List.setIfInBounds_toArray]); (try simp only [List.set_cons_succ]); (try simp only [List.set_cons_zero]))
          refine wpAnyH_ready (rs := [29]) (by kernel_rfl) (by simp) ?_
          refine AllReadyH.cons (o := { dst := some 63, op := Op.call { callee := Callee.value (Operand.func 11), args := #[Operand.tmp 62], argTypes := #[29] }, type := 29, pos := "law.go:101", after := #[{ on := 28, ground := Ground.data }, { on := 27, ground := Ground.chain }, { on := 27, ground := Ground.guard }], guard := some (27, true) }) rfl (fun K hK => ?_) AllReadyH.nil
          go_simp
          refine (purge_any (LP.out.below (Hid.out hHeld.2.2.2)) (by omega) PL.out).mono ?_
          rintro e1 w ⟨a9, c9, rfl, hO, hO2, hb⟩
          rw [QP.out] at hO hO2
          have K11 := Lib.hid (log1_any (hO.at hO2) (by omega))
          clear hO hO2 K10
          try go_wp2_with fail
          refine hK.out _ _ ?_ (fun hNew => ?_)
          · exact ⟨cell_go hHeld.1 hb, cell_go hHeld.2.1 hb, cell_go hHeld.2.2.1 hb, Lib.hid ((Hid.out hHeld.2.2.2).trans (hb.mono (Hid.out hHeld.2.2.2).size))⟩
          clear hK K
          replace hHeld := hNew
          clear hNew
          ((try simp only [Act.put]); (try simp only [List.setIfInBounds_toArray]); (try simp only [List.set_cons_succ]); (try simp only [List.set_cons_zero]))
          refine wpAnyH_take (i := 30) (oi := { dst := some 64, op := Op.field 29 (Operand.tmp 63) 0, type := 27, pos := "law.go:101", after := #[{ on := 29, ground := Ground.data }, { on := 27, ground := Ground.guard }], guard := some (27, true) }) (v := ?_) rfl (by kernel_rfl) (by kernel_rfl) (by kernel_rfl) (fun _ _ _ h => h) (Or.inl ⟨by rfl, ?_⟩) (by assumption) ?_
          rotate_left
          · (intro w hSw; (try dsimp only at hSw); go_simp; try with_reducible rfl)
          ((try simp only [Act.put]); (try simp only [List.setIfInBounds_toArray]); (try simp only [List.set_cons_succ]); (try simp only [List.set_cons_zero]))
          refine wpAnyH_ready (rs := [31]) (by kernel_rfl) (by simp) ?_
          refine AllReadyH.cons (o := { dst := some 65, op := Op.call { callee := Callee.value (Operand.func 18), args := #[Operand.tmp 64], argTypes := #[27] }, type := 40, pos := "law.go:101", after := #[{ on := 30, ground := Ground.data }, { on := 29, ground := Ground.chain }, { on := 27, ground := Ground.guard }], guard := some (27, true) }) rfl (fun K hK => ?_) AllReadyH.nil
          go_simp
          refine K11.out.mono ?_
          rintro e1 w ⟨a9, c9, rfl, hL, hb⟩
          have L12 := Lib.hid hL
          clear hL K11
          try go_wp2_with fail
          refine hK.out _ _ ?_ (fun hNew => ?_)
          · exact ⟨cell_go hHeld.1 hb, cell_go hHeld.2.1 hb, cell_go hHeld.2.2.1 hb, Lib.hid ((Hid.out hHeld.2.2.2).trans (hb.mono (Hid.out hHeld.2.2.2).size))⟩
          clear hK K
          replace hHeld := hNew
          clear hNew
          ((try simp only [Act.put]); (try simp only [List.setIfInBounds_toArray]); (try simp only [List.set_cons_succ]); (try simp only [List.set_cons_zero]))
          refine wpAnyH_ready (rs := [34]) (by kernel_rfl) (by simp) ?_
          refine AllReadyH.cons (o := { dst := some 68, op := Op.call { callee := Callee.value (Operand.func 18), args := #[Operand.tmp 67], argTypes := #[27] }, type := 40, pos := "law.go:101", after := #[{ on := 33, ground := Ground.data }, { on := 31, ground := Ground.chain }, { on := 27, ground := Ground.guard }], guard := some (27, true) }) rfl (fun K hK => ?_) AllReadyH.nil
          go_simp
          refine (log1_any (LP.out.below (Hid.out hHeld.2.2.2)) (by omega)).mono ?_
          rintro e1 w ⟨a9, c9, rfl, hL, hb⟩
          have K13 := Lib.hid (logs_any (L12.out.below hb) hL (r := true) (decide_eq_true rfl))
          clear hL L12
          try go_wp2_with fail
          refine hK.out _ _ ?_ (fun hNew => ?_)
          · exact ⟨cell_go hHeld.1 hb, cell_go hHeld.2.1 hb, cell_go hHeld.2.2.1 hb, Lib.hid ((Hid.out hHeld.2.2.2).trans (hb.mono (Hid.out hHeld.2.2.2).size))⟩
          clear hK K
          replace hHeld := hNew
          clear hNew
          ((try simp only [Act.put]); (try simp only [List.setIfInBounds_toArray]); (try simp only [List.set_cons_succ]); (try simp only [List.set_cons_zero]))
          refine wpAnyH_ready (rs := [35]) (by kernel_rfl) (by simp) ?_
          refine AllReadyH.cons (o := { dst := some 69, op := Op.call { callee := Callee.value (Operand.func 17), args := #[Operand.tmp 65, Operand.tmp 68], argTypes := #[40, 40] }, type := 4, pos := "law.go:101", after := #[{ on := 31, ground := Ground.data }, { on := 34, ground := Ground.data }, { on := 34, ground := Ground.chain }, { on := 27, ground := Ground.guard }], guard := some (27, true) }) rfl (fun K hK => ?_) AllReadyH.nil
          go_simp
          refine K13.out.mono ?_
          rintro e1 w ⟨rfl, q9, rfl⟩
          have hb := drewN_below w q9
          try go_wp2_with fail
          refine hK.out _ _ ?_ (fun hNew => ?_)
          · exact ⟨cell_go hHeld.1 hb, cell_go hHeld.2.1 hb, cell_go hHeld.2.2.1 hb, Lib.hid ((Hid.out hHeld.2.2.2).trans (hb.mono (Hid.out hHeld.2.2.2).size))⟩
          clear hK K
          replace hHeld := hNew
          clear hNew
          ((try simp only [Act.put]); (try simp only [List.setIfInBounds_toArray]); (try simp only [List.set_cons_succ]); (try simp only [List.set_cons_zero]))
          refine wpAnyH_take (i := 36) (oi := { dst := some 70, op := Op.pick (Operand.tmp 61) (Operand.tmp 69) (Operand.const (Value.bool false)), type := 4, pos := "law.go:101", after := #[{ on := 27, ground := Ground.data }, { on := 35, ground := Ground.data }], guard := none }) (v := ?_) rfl (by kernel_rfl) (by kernel_rfl) (by kernel_rfl) (fun _ _ _ h => h) (Or.inl ⟨by rfl, ?_⟩) (by assumption) ?_
          rotate_left
          · (intro w hSw; (try dsimp only at hSw); go_simp; try with_reducible rfl)
          ((try simp only [Act.put]); (try simp only [List.setIfInBounds_toArray]); (try simp only [List.set_cons_succ]); (try simp only [List.set_cons_zero]))
          refine wpAnyH_take (i := 37) (oi := { dst := some 71, op := Op.move (Operand.tmp 70), type := 4, pos := "law.go:101", after := #[{ on := 36, ground := Ground.data }, { on := 35, ground := Ground.chain }], guard := none }) (v := ?_) rfl (by kernel_rfl) (by kernel_rfl) (by kernel_rfl) (fun _ _ _ h => h) (Or.inl ⟨by rfl, ?_⟩) (by assumption) ?_
          rotate_left
          · (intro w hSw; (try dsimp only at hSw); go_simp; try with_reducible rfl)
          ((try simp only [Act.put]); (try simp only [List.setIfInBounds_toArray]); (try simp only [List.set_cons_succ]); (try simp only [List.set_cons_zero]))
          refine wpAnyH_take (i := 38) (oi := { dst := some 72, op := Op.fieldAddr 29 (Operand.tmp 7) 0, type := 0, pos := "law.go:101", after := #[{ on := 37, ground := Ground.guard }], guard := some (37, true) }) (v := ?_) rfl (by kernel_rfl) (by kernel_rfl) (by kernel_rfl) (fun _ _ _ h => h) (Or.inl ⟨by rfl, ?_⟩) (by assumption) ?_
          rotate_left
          · (intro w hSw; (try dsimp only at hSw); go_simp; try with_reducible rfl)
          ((try simp only [Act.put]); (try simp only [List.setIfInBounds_toArray]); (try simp only [List.set_cons_succ]); (try simp only [List.set_cons_zero]))
          refine wpAnyH_take (i := 39) (oi := { dst := some 73, op := Op.load 27 (Operand.tmp 72), type := 27, pos := "law.go:101", after := #[{ on := 38, ground := Ground.data }, { on := 37, ground := Ground.guard }], guard := some (37, true) }) (v := ?_) rfl (by kernel_rfl) (by kernel_rfl) (by kernel_rfl) (fun _ _ _ h => h) (Or.inl ⟨by rfl, ?_⟩) (by assumption) ?_
          rotate_left
          · (intro w hSw; (try dsimp only at hSw); go_simp; try with_reducible rfl)
          ((try simp only [Act.put]); (try simp only [List.setIfInBounds_toArray]); (try simp only [List.set_cons_succ]); (try simp only [List.set_cons_zero]))
          refine wpAnyH_take (i := 40) (oi := { dst := some 74, op := Op.call { callee := Callee.builtin Builtin.len, args := #[Operand.tmp 73], argTypes := #[27] }, type := 3, pos := "law.go:101", after := #[{ on := 39, ground := Ground.data }, { on := 37, ground := Ground.guard }], guard := some (37, true) }) (v := ?_) rfl (by kernel_rfl) (by kernel_rfl) (by kernel_rfl) (fun _ _ _ h => h) (Or.inl ⟨by rfl, ?_⟩) (by assumption) ?_
          rotate_left
          · (intro w hSw; (try dsimp only at hSw); go_simp; try with_reducible rfl)
          ((try simp only [Act.put]); (try simp only [List.setIfInBounds_toArray]); (try simp only [List.set_cons_succ]); (try simp only [List.set_cons_zero]))
          refine wpAnyH_take (i := 41) (oi := { dst := some 75, op := Op.move (Operand.tmp 0), type := 27, pos := "law.go:101", after := #[{ on := 37, ground := Ground.guard }], guard := some (37, true) }) (v := ?_) rfl (by kernel_rfl) (by kernel_rfl) (by kernel_rfl) (fun _ _ _ h => h) (Or.inl ⟨by rfl, ?_⟩) (by assumption) ?_
          rotate_left
          · (intro w hSw; (try dsimp only at hSw); go_simp; try with_reducible rfl)
          ((try simp only [Act.put]); (try simp only [List.setIfInBounds_toArray]); (try simp only [List.set_cons_succ]); (try simp only [List.set_cons_zero]))
          refine wpAnyH_take (i := 42) (oi := { dst := some 76, op := Op.call { callee := Callee.builtin Builtin.len, args := #[Operand.tmp 75], argTypes := #[27] }, type := 3, pos := "law.go:101", after := #[{ on := 41, ground := Ground.data }, { on := 37, ground := Ground.guard }], guard := some (37, true) }) (v := ?_) rfl (by kernel_rfl) (by kernel_rfl) (by kernel_rfl) (fun _ _ _ h => h) (Or.inl ⟨by rfl, ?_⟩) (by assumption) ?_
          rotate_left
          · (intro w hSw; (try dsimp only at hSw); go_simp; try with_reducible rfl)
          ((try simp only [Act.put]); (try simp only [List.setIfInBounds_toArray]); (try simp only [List.set_cons_succ]); (try simp only [List.set_cons_zero]))
          refine wpAnyH_take (i := 43) (oi := { dst := some 77, op := Op.binOp BinOp.leq 3 (Operand.tmp 74) (Operand.tmp 76) 3, type := 4, pos := "law.go:101", after := #[{ on := 40, ground := Ground.data }, { on := 42, ground := Ground.data }, { on := 37, ground := Ground.guard }], guard := some (37, true) }) (v := ?_) rfl (by kernel_rfl) (by kernel_rfl) (by kernel_rfl) (fun _ _ _ h => h) (Or.inl ⟨by rfl, ?_⟩) (by assumption) ?_
          rotate_left
          · (intro w hSw; (try dsimp only at hSw); go_simp; try with_reducible rfl)
          ((try simp only [Act.put]); (try simp only [List.setIfInBounds_toArray]); (try simp only [List.set_cons_succ]); (try simp only [List.set_cons_zero]))
          refine wpAnyH_take (i := 44) (oi := { dst := some 78, op := Op.pick (Operand.tmp 71) (Operand.tmp 77) (Operand.const (Value.bool false)), type := 4, pos := "law.go:101", after := #[{ on := 37, ground := Ground.data }, { on := 43, ground := Ground.data }], guard := none }) (v := ?_) rfl (by kernel_rfl) (by kernel_rfl) (by kernel_rfl) (fun _ _ _ h => h) (Or.inl ⟨by rfl, ?_⟩) (by assumption) ?_
          rotate_left
          · (intro w hSw; (try dsimp only at hSw); go_simp; try with_reducible rfl)
          ((try simp only [Act.put]); (try simp only [List.setIfInBounds_toArray]); (try simp only [List.set_cons_succ]); (try simp only [List.set_cons_zero]))
          refine wpAnyH_take (i := 45) (oi := { dst := some 4, op := Op.assign (Operand.tmp 78), type := 4, pos := "law.go:101", after := #[{ on := 44, ground := Ground.data }, { on := 37, ground := Ground.chain }, { on := 0, ground := Ground.phase }, { on := 1, ground := Ground.phase }, { on := 2, ground := Ground.phase }, { on := 3, ground := Ground.phase }, { on := 4, ground := Ground.phase }, { on := 5, ground := Ground.phase }, { on := 6, ground := Ground.phase }, { on := 7, ground := Ground.phase }, { on := 8, ground := Ground.phase }, { on := 9, ground := Ground.phase }, { on := 10, ground := Ground.phase }, { on := 11, ground := Ground.phase }, { on := 12, ground := Ground.phase }, { on := 13, ground := Ground.phase }, { on := 14, ground := Ground.phase }, { on := 15, ground := Ground.phase }, { on := 16, ground := Ground.phase }, { on := 17, ground := Ground.phase }, { on := 18, ground := Ground.phase }, { on := 19, ground := Ground.phase }, { on := 20, ground := Ground.phase }, { on := 21, ground := Ground.phase }, { on := 22, ground := Ground.phase }, { on := 23, ground := Ground.phase }, { on := 24, ground := Ground.phase }, { on := 25, ground := Ground.phase }, { on := 26, ground := Ground.phase }, { on := 27, ground := Ground.phase }, { on := 28, ground := Ground.phase }, { on := 29, ground := Ground.phase }, { on := 30, ground := Ground.phase }, { on := 31, ground := Ground.phase }, { on := 32, ground := Ground.phase }, { on := 33, ground := Ground.phase }, { on := 34, ground := Ground.phase }, { on := 35, ground := Ground.phase }, { on := 36, ground := Ground.phase }, { on := 37, ground := Ground.phase }, { on := 38, ground := Ground.phase }, { on := 39, ground := Ground.phase }, { on := 40, ground := Ground.phase }, { on := 41, ground := Ground.phase }, { on := 42, ground := Ground.phase }, { on := 43, ground := Ground.phase }, { on := 44, ground := Ground.phase }], guard := none }) (v := ?_) rfl (by kernel_rfl) (by kernel_rfl) (by kernel_rfl) (fun _ _ _ h => h) (Or.inl ⟨by rfl, ?_⟩) (by assumption) ?_
          rotate_left
          · (intro w hSw; (try dsimp only at hSw); go_simp; try with_reducible rfl)
          ((try simp only [Act.put]); (try simp only [List.setIfInBounds_toArray]); (try simp only [List.set_cons_succ]); (try simp only [List.set_cons_zero]))
          refine wpAnyH_done (by kernel_rfl) ?_ _
          refine NoPanic.normal ?_
          have BF := Lib.hid (Hid.out hHeld.2.2.2)
          clear hHeld
          go_wp2_with fail
          go_ret
          exact ⟨rfl, bV.out.trans (BF.out.mono bV.out.size)⟩

end Go.Proofs.Ytbmpeadoicjpnaa
