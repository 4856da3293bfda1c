/-
  Any calls: each answers as the document's own, and leaves what it leaves.
-/
import Derived.Test.YtedfiejocajpkaaYact
import Derived.Deep.RegionHeld3
import Derived.Deep.CutBlock
import Derived.Deep.CutRange
namespace Go.Proofs.Ytedfiejocajpkaa
open Go.RowKit

def PlayRel (W : World) (N p r n room : Nat) (len : Nat) (i : Value) (wr : World) : Prop :=
  ∃ j B, j ≤ len ∧ i = .int .i64 (j : Nat) ∧ Two3 W N p r n room B wr
theorem rl_info : (Try.prog.info? 50).map (fun i => (i.zero, i.size, i.bytes)) = some (some (.slice none 0 0), 1, 24) := by kernel_rfl

set_option maxRecDepth 20000 in
set_option maxHeartbeats 16000000 in
theorem law_PostPlays (boxes room0 : Int) (l : List Ad) (ao : Option Addr) (cap : Nat) (W : World) (hs : AdAt W ao cap l) : Calls Try.prog 4 #[.int .i64 boxes, .int .i64 room0, .slice ao l.length cap] W (PoOk W) := by
  have HS := Lib.hid hs
  have hfit := hs.fit
  have hmax := hs.max
  unfold maxLen at hmax
  clear hs
  go_enter Try.func4, Try.ntmps4
  go_wp2_with fail
  refine (po_awake W).mono ?_
  rintro e w0 ⟨rfl, hb0⟩
  have B0 := Lib.hid hb0
  clear hb0
  by_cases hg : 1 ≤ boxes ∧ boxes ≤ 16 ∧ 1 ≤ room0 ∧ room0 ≤ 64
  · obtain ⟨n, rfl⟩ : ∃ n : Nat, boxes = n := ⟨boxes.toNat, by omega⟩
    obtain ⟨room, rfl⟩ : ∃ room : Nat, room0 = room := ⟨room0.toNat, by omega⟩
    have hn : 0 < n ∧ n ≤ 16 := by omega
    have hr : 0 < room ∧ room ≤ 64 := by omega
    have d1 : decide ((n : Int) < 1) = false := decide_eq_false (by omega)
    have d2 : decide ((n : Int) > 16) = false := decide_eq_false (by omega)
    have d3 : decide ((room : Int) < 1) = false := decide_eq_false (by omega)
    have d4 : decide ((room : Int) > 64) = false := decide_eq_false (by omega)
    have HN := Lib.hid hn
    have HR := Lib.hid hr
    clear hg hn hr
    go_wp2_with fail
    refine (pi_new n room w0 W.heap.size B0.out.size HN.out HR.out).mono ?_
    rintro e w1 ⟨p, F, rfl, hA, hB, hF⟩
    have A1 := Lib.hid hA
    have BE := Lib.hid (B0.out.trans (hB.mono B0.out.size))
    have N1 := Lib.hid (Nat.le_trans B0.out.size hB.size)
    clear hA hB hF
    by_cases hlen : 80 < l.length
    · have d5 : decide ((l.length : Int) > 80) = true := decide_eq_true (by omega)
      go_wp2_with fail
      go_ret
      exact ⟨rfl, BE.out⟩
    · have d5 : decide ((l.length : Int) > 80) = false := decide_eq_false (by omega)
      have hm := run_make_row' (P := Try.prog) 39 50 (.slice none 0 0) 24 Try.underlying39 rl_info rfl .i64 .i64 n (by have := HN.out; omega) (by have := HN.out; omega) w1
      have T1 := Lib.hid (show Two3 W W.heap.size p (w1.heap.size + 1) n room (fun _ => []) ((w1.alloc (.cells (madeCells #[.slice none 0 0] n) 50)).alloc (.cells #[.int .i64 (room : Int), .slice (some ⟨w1.heap.size, 0, none⟩) n n] 41)) from
        ⟨_, _, A1.out.below (((Below.refl _ _).alloc (Nat.le_refl _) _).alloc (by simp) _), ⟨_, rp_new w1 W.heap.size n room _ _ N1.out HN.out HR.out⟩, fun k f g => by have := (A1.out.size.2.2 k f).2; omega, BE.out.trans ((((Below.refl _ _).alloc (Nat.le_refl _) _).alloc (by simp) _).mono N1.out)⟩)
      clear A1 BE N1
      go_wp2_with fail
      clear hm
      obtain ⟨r, hr⟩ : ∃ r, w1.heap.size + 1 = r := ⟨_, rfl⟩
      generalize hw2 : ((w1.alloc (.cells (madeCells #[.slice none 0 0] n) 50)).alloc (.cells #[.int .i64 (room : Int), .slice (some ⟨w1.heap.size, 0, none⟩) n n] 41)) = w2 at *
      clear hw2
      rw [hr] at T1 ⊢
      clear hr
      go_loopw [10] (fun i wr => PlayRel W W.heap.size p r n room l.length i wr) (fun i _ => l.length - (intOf i).toNat)
      case atStart => exact ⟨0, _, Nat.zero_le _, rfl, T1.out⟩
      case round =>
        obtain ⟨j, B, hj, rfl, hT⟩ := hrel
        by_cases hlt : j < l.length
        · obtain ⟨b, off, rfl, hbW, h0, h1, h2, h3⟩ := HS.out.cell j hlt
          have k0 : wr.cell? ⟨b, off + j * 4, none⟩ = some (.int .i64 l[j].op) := (hT.be.cell (p := ⟨b, off + j * 4, none⟩) hbW).trans h0
          have k1 : wr.cell? ⟨b, off + j * 4 + 1, none⟩ = some (.int .i64 l[j].bx) := (hT.be.cell (p := ⟨b, off + j * 4 + 1, none⟩) hbW).trans h1
          have k2 : wr.cell? ⟨b, off + j * 4 + 2, none⟩ = some (.int .i64 l[j].to) := (hT.be.cell (p := ⟨b, off + j * 4 + 2, none⟩) hbW).trans h2
          have k3 : wr.cell? ⟨b, off + j * 4 + 3, none⟩ = some (.int .i64 l[j].v) := (hT.be.cell (p := ⟨b, off + j * 4 + 3, none⟩) hbW).trans h3
          have T := Lib.hid hT
          have jb : (j : Int) < (l.length : Int) := by omega
          have j0 : (0 : Int) ≤ (j : Int) := by omega
          clear hT h0 h1 h2 h3
          generalize l[j] = x at *
          obtain ⟨op, k, t, v⟩ := x
          simp only at k0 k1 k2 k3
          go_upto_block 2 with fail
          go_cut [12] from 80 to 209 (fun ok wx => ok = .bool true ∧ ∃ B1, Two3 W W.heap.size p r n room B1 wx)
          case rest =>
            obtain ⟨rfl, B1, hT6⟩ := hcut
            have T6 := Lib.hid hT6
            clear hT6
            have hnn := T6.out.nn
            go_wp2_with fail
            go_loopw [29] (fun i wx => ∃ (k q : Nat), k ≤ n ∧ i = .int .i64 (k : Nat) ∧ wx = wc.drewN q) (fun i _ => n - (intOf i).toNat)
            case atStart => exact ⟨0, 0, Nat.zero_le _, rfl, rfl⟩
            case round =>
              obtain ⟨k, q, hk, rfl, rfl⟩ := hrel
              have T7 := Lib.hid (T6.out.drewN q)
              have HQ := Lib.hid (fun m => (show (wc.drewN q).drewN m = wc.drewN (q + m) by rw [World.drewN_drewN]))
              by_cases hkn : k < n
              · obtain ⟨F, G, hA7, ⟨bb, hV7⟩, _, _⟩ := T7.out
                obtain ⟨a2, cap2, hrow, _, _⟩ := hV7.row k hkn
                have c1 := hV7.c1
                have LF := Lib.hid (fun q2 => (show Calls Try.prog 23 #[.pointer (some ⟨p, 0, none⟩), .int .i64 (k : Int)] ((wc.drewN q).drewN q2) fun e w' => e = .returned (.int .i64 ((B1 k).length : Nat)) ∧ w' = (wc.drewN q).drewN q2 by
                  rw [← lenB_nat hkn]
                  exact pi_len (hA7.drewN q2) (k : Int)))
                have i1 : (0 : Int) ≤ (k : Int) := by omega
                have i2 : (k : Int) < (n : Int) := by omega
                clear hA7 hV7
                generalize (B1 k).length = len at *
                generalize wc.drewN q = ww at *
                go_wp2_with fail
                go_quiet ((go_at_call 23; exact Calls.quiet_of_same (LF.out _)))
                go_wp2_with fail
                go_roundw
                case rel => exact ⟨k + 1, _, by omega, by go_num, HQ.out _⟩
                case measure => simp only [intOf]; omega
              · obtain rfl : k = n := by omega
                clear HQ
                generalize wc.drewN q = ww at *
                go_wp2_with fail
                go_roundw
                case rel => exact ⟨j + 1, B1, by omega, by go_num, T7.out⟩
                case measure => simp only [intOf]; omega
          have split : op = 0 ∨ op = 1 ∨ op = 2 ∨ (¬ op = 0 ∧ ¬ op = 1 ∧ ¬ op = 2) := by omega
          rcases split with h0 | h0 | h0 | ⟨h0, h1, h2⟩
          · subst h0
            obtain ⟨B1, hS1⟩ : ∃ B1, putB n room B k v = B1 := ⟨_, rfl⟩
            obtain ⟨c, hc⟩ : ∃ c, canB n room B k = c := ⟨_, rfl⟩
            have HS1 := Lib.hid hS1
            have HC := Lib.hid hc
            have D0 := Lib.hid (T.out.act ⟨0, k, t, v⟩ 43).drew
            clear hS1 hc
            go_wp2_with fail
            refine wp_region_noPanic ?_
            refine wp_region_held_drew (S := (fun w' => w'.cell? ⟨wr.heap.size, 1, none⟩ = some (.int .i64 k) ∧ w'.cell? ⟨wr.heap.size, 3, none⟩ = some (.int .i64 v))) (by kernel_rfl) ?_ (fun hHeld => ?_)
            · exact ⟨D0.out.cells.2.1, D0.out.cells.2.2.2⟩
            refine wpAnyH_take (i := 0) (oi := { dst := some 127, op := Op.move (Operand.tmp 7), type := 23, pos := "law.go:61", after := #[], guard := none }) (v := ?_) rfl (by kernel_rfl) (by kernel_rfl) (by kernel_rfl) (fun _ _ _ h => h) (Or.inl ⟨by rfl, ?_⟩) (by assumption) ?_
            rotate_left
            · (intro w hSw; (try dsimp only at hSw); go_simp; try with_reducible rfl)
            ((try simp only [Act.put]); (try simp only [List.setIfInBounds_toArray]); (try simp only [List.set_cons_succ]); (try simp only [List.set_cons_zero]))
            refine wpAnyH_take (i := 1) (oi := { dst := some 128, op := Op.fieldAddr 43 (Operand.tmp 11) 1, type := 0, pos := "law.go:61", after := #[], guard := none }) (v := ?_) rfl (by kernel_rfl) (by kernel_rfl) (by kernel_rfl) (fun _ _ _ h => h) (Or.inl ⟨by rfl, ?_⟩) (by assumption) ?_
            rotate_left
            · (intro w hSw; (try dsimp only at hSw); go_simp; try with_reducible rfl)
            ((try simp only [Act.put]); (try simp only [List.setIfInBounds_toArray]); (try simp only [List.set_cons_succ]); (try simp only [List.set_cons_zero]))
            refine wpAnyH_take (i := 2) (oi := { dst := some 129, op := Op.load 3 (Operand.tmp 128), type := 3, pos := "law.go:61", after := #[{ on := 1, ground := Ground.data }], guard := none }) (v := ?_) rfl (by kernel_rfl) (by kernel_rfl) (by kernel_rfl) (fun _ _ _ h => h) (Or.inl ⟨by rfl, ?_⟩) (by assumption) ?_
            rotate_left
            · (intro w hSw; (try dsimp only at hSw); go_simp; try with_reducible rfl)
            ((try simp only [Act.put]); (try simp only [List.setIfInBounds_toArray]); (try simp only [List.set_cons_succ]); (try simp only [List.set_cons_zero]))
            refine wpAnyH_take (i := 3) (oi := { dst := some 130, op := Op.fieldAddr 43 (Operand.tmp 11) 3, type := 0, pos := "law.go:61", after := #[], guard := none }) (v := ?_) rfl (by kernel_rfl) (by kernel_rfl) (by kernel_rfl) (fun _ _ _ h => h) (Or.inl ⟨by rfl, ?_⟩) (by assumption) ?_
            rotate_left
            · (intro w hSw; (try dsimp only at hSw); go_simp; try with_reducible rfl)
            ((try simp only [Act.put]); (try simp only [List.setIfInBounds_toArray]); (try simp only [List.set_cons_succ]); (try simp only [List.set_cons_zero]))
            refine wpAnyH_take (i := 4) (oi := { dst := some 131, op := Op.load 3 (Operand.tmp 130), type := 3, pos := "law.go:61", after := #[{ on := 3, ground := Ground.data }], guard := none }) (v := ?_) rfl (by kernel_rfl) (by kernel_rfl) (by kernel_rfl) (fun _ _ _ h => h) (Or.inl ⟨by rfl, ?_⟩) (by assumption) ?_
            rotate_left
            · (intro w hSw; (try dsimp only at hSw); go_simp; try with_reducible rfl)
            ((try simp only [Act.put]); (try simp only [List.setIfInBounds_toArray]); (try simp only [List.set_cons_succ]); (try simp only [List.set_cons_zero]))
            refine wpAnyH_take (i := 6) (oi := { dst := some 133, op := Op.move (Operand.tmp 9), type := 38, pos := "law.go:61", after := #[], guard := none }) (v := ?_) rfl (by kernel_rfl) (by kernel_rfl) (by kernel_rfl) (fun _ _ _ h => h) (Or.inl ⟨by rfl, ?_⟩) (by assumption) ?_
            rotate_left
            · (intro w hSw; (try dsimp only at hSw); go_simp; try with_reducible rfl)
            ((try simp only [Act.put]); (try simp only [List.setIfInBounds_toArray]); (try simp only [List.set_cons_succ]); (try simp only [List.set_cons_zero]))
            refine wpAnyH_take (i := 7) (oi := { dst := some 134, op := Op.fieldAddr 43 (Operand.tmp 11) 1, type := 0, pos := "law.go:61", after := #[], guard := none }) (v := ?_) rfl (by kernel_rfl) (by kernel_rfl) (by kernel_rfl) (fun _ _ _ h => h) (Or.inl ⟨by rfl, ?_⟩) (by assumption) ?_
            rotate_left
            · (intro w hSw; (try dsimp only at hSw); go_simp; try with_reducible rfl)
            ((try simp only [Act.put]); (try simp only [List.setIfInBounds_toArray]); (try simp only [List.set_cons_succ]); (try simp only [List.set_cons_zero]))
            refine wpAnyH_take (i := 8) (oi := { dst := some 135, op := Op.load 3 (Operand.tmp 134), type := 3, pos := "law.go:61", after := #[{ on := 7, ground := Ground.data }], guard := none }) (v := ?_) rfl (by kernel_rfl) (by kernel_rfl) (by kernel_rfl) (fun _ _ _ h => h) (Or.inl ⟨by rfl, ?_⟩) (by assumption) ?_
            rotate_left
            · (intro w hSw; (try dsimp only at hSw); go_simp; try with_reducible rfl)
            ((try simp only [Act.put]); (try simp only [List.setIfInBounds_toArray]); (try simp only [List.set_cons_succ]); (try simp only [List.set_cons_zero]))
            refine wpAnyH_take (i := 9) (oi := { dst := some 136, op := Op.fieldAddr 43 (Operand.tmp 11) 3, type := 0, pos := "law.go:61", after := #[], guard := none }) (v := ?_) rfl (by kernel_rfl) (by kernel_rfl) (by kernel_rfl) (fun _ _ _ h => h) (Or.inl ⟨by rfl, ?_⟩) (by assumption) ?_
            rotate_left
            · (intro w hSw; (try dsimp only at hSw); go_simp; try with_reducible rfl)
            ((try simp only [Act.put]); (try simp only [List.setIfInBounds_toArray]); (try simp only [List.set_cons_succ]); (try simp only [List.set_cons_zero]))
            refine wpAnyH_take (i := 10) (oi := { dst := some 137, op := Op.load 3 (Operand.tmp 136), type := 3, pos := "law.go:61", after := #[{ on := 9, ground := Ground.data }], guard := none }) (v := ?_) rfl (by kernel_rfl) (by kernel_rfl) (by kernel_rfl) (fun _ _ _ h => h) (Or.inl ⟨by rfl, ?_⟩) (by assumption) ?_
            rotate_left
            · (intro w hSw; (try dsimp only at hSw); go_simp; try with_reducible rfl)
            ((try simp only [Act.put]); (try simp only [List.setIfInBounds_toArray]); (try simp only [List.set_cons_succ]); (try simp only [List.set_cons_zero]))
            refine wpAnyH_ready (rs := [5]) (by kernel_rfl) (by simp) ?_
            refine AllReadyH.cons (o := { dst := some 132, op := Op.call { callee := Callee.value (Operand.func 15), args := #[Operand.tmp 127, Operand.tmp 129, Operand.tmp 131], argTypes := #[23, 3, 3] }, type := 4, pos := "law.go:61", after := #[{ on := 0, ground := Ground.data }, { on := 2, ground := Ground.data }, { on := 4, ground := Ground.data }], guard := none }) rfl (fun K hK => ?_) AllReadyH.nil
            go_simp
            refine (duo_left (R := .bool c) (B1 := B1) D0.out (fun F hA => by rw [← HC.out, ← HS1.out]; exact pi_put hA k v)).mono ?_
            rintro e w5 ⟨rfl, h5⟩
            have D5 := Lib.hid h5
            clear h5
            try go_wp2_with fail
            refine hK.out _ _ ?_ (fun hNew => ?_)
            · first | exact hHeld | exact ⟨D5.out.cells.2.1, D5.out.cells.2.2.2⟩ | exact ⟨D6.out.cells.2.1, D6.out.cells.2.2.2⟩
            clear hK K
            replace hHeld := hNew
            clear hNew
            ((try simp only [Act.put]); (try simp only [List.setIfInBounds_toArray]); (try simp only [List.set_cons_succ]); (try simp only [List.set_cons_zero]))
            refine wpAnyH_ready (rs := [11]) (by kernel_rfl) (by simp) ?_
            refine AllReadyH.cons (o := { dst := some 138, op := Op.call { callee := Callee.value (Operand.func 16), args := #[Operand.tmp 133, Operand.tmp 135, Operand.tmp 137], argTypes := #[38, 3, 3] }, type := 4, pos := "law.go:61", after := #[{ on := 6, ground := Ground.data }, { on := 8, ground := Ground.data }, { on := 10, ground := Ground.data }, { on := 5, ground := Ground.chain }], guard := none }) rfl (fun K hK => ?_) AllReadyH.nil
            go_simp
            refine (duo_right (R := .bool c) (C1 := B1) D5.out (fun F hA => by rw [← HC.out, ← HS1.out]; exact rp_put hA k v)).mono ?_
            rintro e w6 ⟨rfl, h6⟩
            have D6 := Lib.hid h6
            clear h6
            try go_wp2_with fail
            refine hK.out _ _ ?_ (fun hNew => ?_)
            · first | exact hHeld | exact ⟨D5.out.cells.2.1, D5.out.cells.2.2.2⟩ | exact ⟨D6.out.cells.2.1, D6.out.cells.2.2.2⟩
            clear hK K
            replace hHeld := hNew
            clear hNew
            ((try simp only [Act.put]); (try simp only [List.setIfInBounds_toArray]); (try simp only [List.set_cons_succ]); (try simp only [List.set_cons_zero]))
            refine wpAnyH_take (i := 12) (oi := { dst := some 139, op := Op.binOp BinOp.eql 4 (Operand.tmp 132) (Operand.tmp 138) 4, type := 4, pos := "law.go:61", after := #[{ on := 5, ground := Ground.data }, { on := 11, ground := Ground.data }], guard := none }) (v := ?_) rfl (by kernel_rfl) (by kernel_rfl) (by kernel_rfl) (fun _ _ _ h => h) (Or.inl ⟨by rfl, ?_⟩) (by assumption) ?_
            rotate_left
            · (intro w hSw; (try dsimp only at hSw); go_simp; try with_reducible rfl)
            ((try simp only [Act.put]); (try simp only [List.setIfInBounds_toArray]); (try simp only [List.set_cons_succ]); (try simp only [List.set_cons_zero]))
            refine wpAnyH_take (i := 13) (oi := { dst := some 12, op := Op.assign (Operand.tmp 139), type := 4, pos := "law.go:61", after := #[{ on := 12, ground := Ground.data }, { on := 11, ground := Ground.chain }, { on := 0, ground := Ground.phase }, { on := 1, ground := Ground.phase }, { on := 2, ground := Ground.phase }, { on := 3, ground := Ground.phase }, { on := 4, ground := Ground.phase }, { on := 5, ground := Ground.phase }, { on := 6, ground := Ground.phase }, { on := 7, ground := Ground.phase }, { on := 8, ground := Ground.phase }, { on := 9, ground := Ground.phase }, { on := 10, ground := Ground.phase }, { on := 11, ground := Ground.phase }, { on := 12, ground := Ground.phase }], guard := none }) (v := ?_) rfl (by kernel_rfl) (by kernel_rfl) (by kernel_rfl) (fun _ _ _ h => h) (Or.inl ⟨by rfl, ?_⟩) (by assumption) ?_
            rotate_left
            · (intro w hSw; (try dsimp only at hSw); go_simp; try with_reducible rfl)
            ((try simp only [Act.put]); (try simp only [List.setIfInBounds_toArray]); (try simp only [List.set_cons_succ]); (try simp only [List.set_cons_zero]))
            refine wpAnyH_done (by kernel_rfl) ?_ _
            refine NoPanic.normal ?_
            go_wp2_with fail
            go_meet
            exact ⟨by first | rfl | simp, B1, D6.out.two⟩
          · subst h0
            obtain ⟨B1, hS1⟩ : ∃ B1, popB n B k = B1 := ⟨_, rfl⟩
            obtain ⟨c, hc⟩ : ∃ c, hasB n B k = c := ⟨_, rfl⟩
            have HS1 := Lib.hid hS1
            have HC := Lib.hid hc
            obtain ⟨g, hg⟩ : ∃ g, topB 0 n B k = g := ⟨_, rfl⟩
            have HG := Lib.hid hg
            have D0 := Lib.hid (T.out.act ⟨1, k, t, v⟩ 43)
            obtain ⟨x0, x1, x2, x3⟩ := D0.out.cells
            clear hS1 hc hg
            go_wp2_with fail
            refine (duo_left (R := .tuple #[.int .i64 g, .bool c]) (B1 := B1) D0.out (fun F hA => by rw [← HC.out, ← HS1.out, ← HG.out]; exact pi_get hA k)).mono ?_
            rintro e w5 ⟨rfl, h5⟩
            obtain ⟨y0, y1, y2, y3⟩ := h5.cells
            have D5 := Lib.hid h5
            clear h5 x0 x1 x2 x3
            go_wp2_with fail
            refine (duo_right (R := .tuple #[.int .i64 g, .bool c]) (C1 := B1) D5.out (fun F hA => by rw [← HC.out, ← HS1.out, ← HG.out]; exact rp_get hA k)).mono ?_
            rintro e w6 ⟨rfl, h6⟩
            have D6 := Lib.hid h6
            clear h6 y0 y1 y2 y3
            go_wp2_with fail
            go_meet
            exact ⟨by first | rfl | simp, B1, D6.out.two⟩
          · subst h0
            obtain ⟨m, hm, hz, hx⟩ := least_ex n B
            have HZ := Lib.hid hz
            have HX := Lib.hid hx
            clear hz hx
            obtain ⟨B1, hS1⟩ : ∃ B1, popB n B (m : Int) = B1 := ⟨_, rfl⟩
            obtain ⟨c, hc⟩ : ∃ c, hasB n B (m : Int) = c := ⟨_, rfl⟩
            have HS1 := Lib.hid hS1
            have HC := Lib.hid hc
            obtain ⟨g, hg⟩ : ∃ g, topB 0 n B (m : Int) = g := ⟨_, rfl⟩
            have HG := Lib.hid hg
            obtain ⟨i0, hi⟩ : ∃ i0, (if m < n then (m : Int) else 0) = i0 := ⟨_, rfl⟩
            have HI := Lib.hid hi
            have D0 := Lib.hid (T.out.act ⟨2, k, t, v⟩ 43)
            obtain ⟨x0, x1, x2, x3⟩ := D0.out.cells
            clear hS1 hc hg hi
            go_wp2_with fail
            refine (duo_left (R := .tuple #[.int .i64 i0, .int .i64 g, .bool c]) (B1 := B1) D0.out (fun F hA => by rw [← HC.out, ← HS1.out, ← HG.out, ← HI.out]; exact pi_any hA m hm HZ.out HX.out)).mono ?_
            rintro e w5 ⟨rfl, h5⟩
            obtain ⟨y0, y1, y2, y3⟩ := h5.cells
            have D5 := Lib.hid h5
            clear h5 x0 x1 x2 x3
            go_wp2_with fail
            refine (duo_right (R := .tuple #[.int .i64 i0, .int .i64 g, .bool c]) (C1 := B1) D5.out (fun F hA => by rw [← HC.out, ← HS1.out, ← HG.out, ← HI.out]; exact rp_any hA m hm HZ.out HX.out)).mono ?_
            rintro e w6 ⟨rfl, h6⟩
            have D6 := Lib.hid h6
            clear h6 y0 y1 y2 y3
            go_wp2_with fail
            go_meet
            exact ⟨by first | rfl | simp, B1, D6.out.two⟩
          · have d6 : (op == 0) = false := by simp; omega
            have d7 : (op == 1) = false := by simp; omega
            have d8 : (op == 2) = false := by simp; omega
            clear h0 h1 h2
            obtain ⟨B1, hS1⟩ : ∃ B1, eiB n B k t = B1 := ⟨_, rfl⟩
            obtain ⟨c, hc⟩ : ∃ c, (hasB n B k || hasB n B t) = c := ⟨_, rfl⟩
            have HS1 := Lib.hid hS1
            have HC := Lib.hid hc
            obtain ⟨g, hg⟩ : ∃ g, eiX 0 n B k t = g := ⟨_, rfl⟩
            have HG := Lib.hid hg
            obtain ⟨i0, hi⟩ : ∃ i0, eiN n B k t = i0 := ⟨_, rfl⟩
            have HI := Lib.hid hi
            have D0 := Lib.hid (T.out.act ⟨op, k, t, v⟩ 43)
            obtain ⟨x0, x1, x2, x3⟩ := D0.out.cells
            clear hS1 hc hg hi
            go_wp2_with fail
            refine (duo_left (R := .tuple #[.int .i64 i0, .int .i64 g, .bool c]) (B1 := B1) D0.out (fun F hA => by rw [← HC.out, ← HS1.out, ← HG.out, ← HI.out]; exact pi_either hA k t)).mono ?_
            rintro e w5 ⟨rfl, h5⟩
            obtain ⟨y0, y1, y2, y3⟩ := h5.cells
            have D5 := Lib.hid h5
            clear h5 x0 x1 x2 x3
            go_wp2_with fail
            refine (duo_right (R := .tuple #[.int .i64 i0, .int .i64 g, .bool c]) (C1 := B1) D5.out (fun F hA => by rw [← HC.out, ← HS1.out, ← HG.out, ← HI.out]; exact rp_either hA k t)).mono ?_
            rintro e w6 ⟨rfl, h6⟩
            have D6 := Lib.hid h6
            clear h6 y0 y1 y2 y3
            go_wp2_with fail
            go_meet
            exact ⟨by first | rfl | simp, B1, D6.out.two⟩
        · have T := Lib.hid hT.be
          clear hT
          go_wp2_with fail
          go_ret
          exact ⟨rfl, T.out⟩
  · go_wp2_with fail
    refine (pi_new_bad boxes room0 w0 hg).mono ?_
    rintro e w1 ⟨rfl, rfl⟩
    by_cases h1 : boxes < 1
    · have d1 : decide (boxes < 1) = true := decide_eq_true h1
      clear hg h1
      go_wp2_with fail
      go_ret
      exact ⟨rfl, B0.out⟩
    · have d1 : decide (boxes < 1) = false := decide_eq_false h1
      by_cases h2 : boxes > 16
      · have d2 : decide (boxes > 16) = true := decide_eq_true h2
        clear hg h1 h2
        go_wp2_with fail
        go_ret
        exact ⟨rfl, B0.out⟩
      · have d2 : decide (boxes > 16) = false := decide_eq_false h2
        by_cases h3 : room0 < 1
        · have d3 : decide (room0 < 1) = true := decide_eq_true h3
          clear hg h1 h2 h3
          go_wp2_with fail
          go_ret
          exact ⟨rfl, B0.out⟩
        · have d3 : decide (room0 < 1) = false := decide_eq_false h3
          have d4 : decide (room0 > 64) = true := decide_eq_true (by omega)
          clear hg h1 h2 h3
          go_wp2_with fail
          go_ret
          exact ⟨rfl, B0.out⟩

end Go.Proofs.Ytedfiejocajpkaa
