/-
  Texts of this claim, put together.
-/
import Derived.Test.YtbmpeadoicjpnaaMao
import Derived.Test.YtbmpeadoicjpnaaMan
import Derived.Deep.Cut
import Derived.Deep.CutBlock
import Derived.Deep.CutRange
import Derived.Test.YtbmpeadoicjpnaaMal
import Derived.Deep.RegionHeld3

/-
  shoalref15.AddLog.
-/
namespace Go.Proofs.Ytbmpeadoicjpnaa
open Go.RowKit

set_option maxRecDepth 20000 in
set_option maxHeartbeats 16000000 in
theorem radd_any {A : Nat → Prop} {W : World} {a : Option Addr} {cap n : Nat} {l : List Le} {x : Le} (h : LgAt A W a cap n l) (hn : n ≤ 100000) (hx : OkX x) {m : List Le} (hm : addL l x = m) :
    Calls Try.prog 21 #[.slice a n cap, xV x] W fun e w' => ∃ a' c', e = .returned (.slice a' m.length c') ∧ LgAt (NewL W A) w' a' c' m.length m ∧ Below W.heap.size W w' := by
  obtain ⟨ti, hi0, hz0, hz1, hz2⟩ := info_x Try.infoE
  obtain ⟨g, hg⟩ : ∃ g, goodL l = g := ⟨_, rfl⟩
  obtain ⟨gx, hgx⟩ : ∃ g, goodX x = g := ⟨_, rfl⟩
  obtain ⟨U, hU⟩ : ∃ U, U = W.alloc (.cells #[.int .i64 x.f, .int .u64 (x.n : Int), .int .u64 (x.t : Int)] 43) := ⟨_, rfl⟩
  have C := boxX W x 43
  rw [← hU] at C
  have hbU : Below W.heap.size W U := by rw [hU]; exact boxb W _
  have hUs : W.heap.size < U.heap.size := by rw [hU]; simp
  have hLU : LgAt (fun k => A k ∧ k < U.heap.size) U a cap n l := (h.mono (A' := fun k => A k ∧ k < U.heap.size) (fun k hk ha => ⟨ha, by omega⟩)).below hbU
  have A0 := Lib.hid (show AdS A W U U x a cap n l a cap n l from ⟨C, hLU, hLU, hbU, Nat.le_refl _, hUs⟩)
  have CG := Lib.hid (rgoodl_any hLU hg)
  have L := Lib.hid (h.below hbU)
  have LN := Lib.hid h.len
  have hfit := h.fit
  unfold maxLen at hfit
  have HG := Lib.hid hg
  have HX := Lib.hid hgx
  have OX := Lib.hid hx
  have HM0 := Lib.hid hm
  have HU := Lib.hid hU.symm
  have CX := Lib.hid (fun W => rgoodx_any (W := W) (x := x) hgx)
  clear hU C hbU hUs hLU h hm hg hgx hx
  unfold xV
  go_enter Try.func21, Try.ntmps21
  go_upto_region 1 with fail
  rw [HU.out]
  go_wp2_with fail
  refine CG.out.mono ?_
  rintro e w1 ⟨rfl, hb1⟩
  have A1 := Lib.hid (A0.out.below hb1)
  have L1 := Lib.hid (L.out.below hb1)
  clear hb1 CG A0 L HU
  cases g
  · obtain rfl : l = m := by rw [← HM0.out]; exact (addL_no (fun h => by rw [HG.out] at h; cases h.1)).symm
    have R := Lib.hid (L1.out.mono (A' := NewL W A) (fun _ _ h => Or.inl h))
    have BB := Lib.hid A1.out.b
    go_wp2_with fail
    go_ret
    exact ⟨a, cap, by rw [LN.out]; rfl, by rw [LN.out]; exact R.out, BB.out⟩
  · have x0 : w1.cell? ⟨W.heap.size, 0, none⟩ = some (.int .i64 x.f) := A1.out.x.c 0 (by decide)
    have x1 : w1.cell? ⟨W.heap.size, 1, none⟩ = some (.int .u64 (x.n : Int)) := A1.out.x.c 1 (by decide)
    have x2 : w1.cell? ⟨W.heap.size, 2, none⟩ = some (.int .u64 (x.t : Int)) := A1.out.x.c 2 (by decide)
    go_wp2_with fail
    refine (CX.out _).mono ?_
    rintro e w2 ⟨rfl, hb2⟩
    have A2 := Lib.hid (A1.out.below hb2)
    have L2 := Lib.hid (L1.out.below hb2)
    clear hb2 CX A1 L1 x0 x1 x2
    cases gx
    · obtain rfl : l = m := by rw [← HM0.out]; exact (addL_no (fun h => by rw [HX.out] at h; cases h.2)).symm
      have R := Lib.hid (L2.out.mono (A' := NewL W A) (fun _ _ h => Or.inl h))
      have BB := Lib.hid A2.out.b
      go_wp2_with fail
      go_ret
      exact ⟨a, cap, by rw [LN.out]; rfl, by rw [LN.out]; exact R.out, BB.out⟩
    · clear L2
      go_wp2_with fail
      go_loopw [5] (fun i wr => ∃ k : Nat, k ≤ n ∧ i = .int .i64 (k : Nat) ∧ (∀ j, (h : j < k) → aheadX (l.getD j default) x = true) ∧ AdS A W U wr x a cap n l a cap n l) (fun i _ => n - (intOf i).toNat)
      case atStart => exact ⟨0, Nat.zero_le _, rfl, fun j h => by omega, A2.out⟩
      case round =>
        obtain ⟨k, hk, rfl, hah, hA⟩ := hrel
        have AK := Lib.hid hA
        have AH := Lib.hid hah
        clear hA hah A2
        have x0 : wr.cell? ⟨W.heap.size, 0, none⟩ = some (.int .i64 x.f) := AK.out.x.c 0 (by decide)
        have x1 : wr.cell? ⟨W.heap.size, 1, none⟩ = some (.int .u64 (x.n : Int)) := AK.out.x.c 1 (by decide)
        have x2 : wr.cell? ⟨W.heap.size, 2, none⟩ = some (.int .u64 (x.t : Int)) := AK.out.x.c 2 (by decide)
        by_cases hlt : k < n
        · have d0 : decide ((k : Int) < (n : Int)) = true := decide_eq_true (by omega)
          have d0' : decide (k < n) = true := decide_eq_true hlt
          obtain ⟨b, off, ea, -, -, y0, y1, y2⟩ := AK.out.l.cell hlt
          subst ea
          have i0 : (0 : Int) ≤ (k : Int) := by omega
          have i1 : (k : Int) < (n : Int) := by omega
          obtain ⟨y, hy⟩ : ∃ y, y = l.getD k default := ⟨_, rfl⟩
          rw [← hy] at y0 y1 y2
          obtain ⟨r, hr⟩ : ∃ r, aheadX y x = r := ⟨_, rfl⟩
          have HA := Lib.hid hr
          have HY := Lib.hid hy
          clear hr hy
          cases r
          · go_upto_region 4 with fail
            refine wp_region_noPanic ?_
            refine wp_region_held_drew (S := (fun w' => w'.cell? ⟨W.heap.size, 0, none⟩ = some (.int .i64 x.f) ∧ w'.cell? ⟨W.heap.size, 1, none⟩ = some (.int .u64 (x.n : Int)) ∧ w'.cell? ⟨W.heap.size, 2, none⟩ = some (.int .u64 (x.t : Int)) ∧ w'.cell? ⟨b, off + k * 3, none⟩ = some (.int .i64 y.f) ∧ w'.cell? ⟨b, off + k * 3 + 1, none⟩ = some (.int .u64 (y.n : Int)) ∧ w'.cell? ⟨b, off + k * 3 + 2, none⟩ = some (.int .u64 (y.t : Int)) ∧ Hid (Below wr.heap.size wr w'))) (by kernel_rfl) ?_ (fun hHeld => ?_)
            · exact ⟨x0, x1, x2, y0, y1, y2, Lib.hid (drew_below wr)⟩
            refine wpAnyH_take (i := 0) (oi := { dst := some 16, op := Op.move (Operand.tmp 5), type := 3, pos := "ref.go:170", after := #[], guard := none }) (v := ?_) rfl (by kernel_rfl) (by kernel_rfl) (by kernel_rfl) (fun _ _ _ h => h) (Or.inl ⟨by rfl, ?_⟩) (by assumption) ?_
            rotate_left
            · (intro w hSw; (try dsimp only at hSw); go_simp; try with_reducible rfl)
            ((try simp only [Act.put]); (try simp only [List.setIfInBounds_toArray]); (try simp only [List.set_cons_succ]); (try simp only [List.set_cons_zero]))
            refine wpAnyH_take (i := 1) (oi := { dst := some 17, op := Op.move (Operand.tmp 0), type := 40, pos := "ref.go:170", after := #[], guard := none }) (v := ?_) rfl (by kernel_rfl) (by kernel_rfl) (by kernel_rfl) (fun _ _ _ h => h) (Or.inl ⟨by rfl, ?_⟩) (by assumption) ?_
            rotate_left
            · (intro w hSw; (try dsimp only at hSw); go_simp; try with_reducible rfl)
            ((try simp only [Act.put]); (try simp only [List.setIfInBounds_toArray]); (try simp only [List.set_cons_succ]); (try simp only [List.set_cons_zero]))
            refine wpAnyH_take (i := 2) (oi := { dst := some 18, op := Op.call { callee := Callee.builtin Builtin.len, args := #[Operand.tmp 17], argTypes := #[40] }, type := 3, pos := "ref.go:170", after := #[{ on := 1, ground := Ground.data }], guard := none }) (v := ?_) rfl (by kernel_rfl) (by kernel_rfl) (by kernel_rfl) (fun _ _ _ h => h) (Or.inl ⟨by rfl, ?_⟩) (by assumption) ?_
            rotate_left
            · (intro w hSw; (try dsimp only at hSw); go_simp; try with_reducible rfl)
            ((try simp only [Act.put]); (try simp only [List.setIfInBounds_toArray]); (try simp only [List.set_cons_succ]); (try simp only [List.set_cons_zero]))
            refine wpAnyH_take (i := 3) (oi := { dst := some 19, op := Op.binOp BinOp.lss 3 (Operand.tmp 16) (Operand.tmp 18) 3, type := 4, pos := "ref.go:170", after := #[{ on := 0, ground := Ground.data }, { on := 2, ground := Ground.data }], guard := none }) (v := ?_) rfl (by kernel_rfl) (by kernel_rfl) (by kernel_rfl) (fun _ _ _ h => h) (Or.inl ⟨by rfl, ?_⟩) (by assumption) ?_
            rotate_left
            · (intro w hSw; (try dsimp only at hSw); go_simp; try with_reducible rfl)
            ((try simp only [Act.put]); (try simp only [List.setIfInBounds_toArray]); (try simp only [List.set_cons_succ]); (try simp only [List.set_cons_zero]))
            refine wpAnyH_take (i := 4) (oi := { dst := some 20, op := Op.move (Operand.tmp 19), type := 4, pos := "ref.go:170", after := #[{ on := 3, ground := Ground.data }], guard := none }) (v := ?_) rfl (by kernel_rfl) (by kernel_rfl) (by kernel_rfl) (fun _ _ _ h => h) (Or.inl ⟨by rfl, ?_⟩) (by assumption) ?_
            rotate_left
            · (intro w hSw; (try dsimp only at hSw); go_simp; try with_reducible rfl)
            ((try simp only [Act.put]); (try simp only [List.setIfInBounds_toArray]); (try simp only [List.set_cons_succ]); (try simp only [List.set_cons_zero]))
            refine wpAnyH_take (i := 5) (oi := { dst := some 21, op := Op.move (Operand.tmp 0), type := 40, pos := "ref.go:170", after := #[{ on := 4, ground := Ground.guard }], guard := some (4, true) }) (v := ?_) rfl (by kernel_rfl) (by kernel_rfl) (by kernel_rfl) (fun _ _ _ h => h) (Or.inl ⟨by rfl, ?_⟩) (by assumption) ?_
            rotate_left
            · (intro w hSw; (try dsimp only at hSw); go_simp; try with_reducible rfl)
            ((try simp only [Act.put]); (try simp only [List.setIfInBounds_toArray]); (try simp only [List.set_cons_succ]); (try simp only [List.set_cons_zero]))
            refine wpAnyH_take (i := 6) (oi := { dst := some 22, op := Op.move (Operand.tmp 5), type := 3, pos := "ref.go:170", after := #[{ on := 4, ground := Ground.guard }], guard := some (4, true) }) (v := ?_) rfl (by kernel_rfl) (by kernel_rfl) (by kernel_rfl) (fun _ _ _ h => h) (Or.inl ⟨by rfl, ?_⟩) (by assumption) ?_
            rotate_left
            · (intro w hSw; (try dsimp only at hSw); go_simp; try with_reducible rfl)
            ((try simp only [Act.put]); (try simp only [List.setIfInBounds_toArray]); (try simp only [List.set_cons_succ]); (try simp only [List.set_cons_zero]))
            refine wpAnyH_take (i := 7) (oi := { dst := some 23, op := Op.indexAddr 40 (Operand.tmp 21) (Operand.tmp 22), type := 0, pos := "ref.go:170", after := #[{ on := 5, ground := Ground.data }, { on := 6, ground := Ground.data }, { on := 4, ground := Ground.guard }], guard := some (4, true) }) (v := ?_) rfl (by kernel_rfl) (by kernel_rfl) (by kernel_rfl) (fun _ _ _ h => h) (Or.inl ⟨by rfl, ?_⟩) (by assumption) ?_
            rotate_left
            · (intro w hSw; (try dsimp only at hSw); go_simp; try with_reducible rfl)
            ((try simp only [Act.put]); (try simp only [List.setIfInBounds_toArray]); (try simp only [List.set_cons_succ]); (try simp only [List.set_cons_zero]))
            refine wpAnyH_take (i := 8) (oi := { dst := some 24, op := Op.load 43 (Operand.tmp 23), type := 43, pos := "ref.go:170", after := #[{ on := 7, ground := Ground.data }, { on := 4, ground := Ground.guard }], guard := some (4, true) }) (v := ?_) rfl (by kernel_rfl) (by kernel_rfl) (by kernel_rfl) (fun _ _ _ h => h) (Or.inl ⟨by rfl, ?_⟩) (by assumption) ?_
            rotate_left
            · (intro w hSw; (try dsimp only at hSw); go_simp; try with_reducible rfl)
            ((try simp only [Act.put]); (try simp only [List.setIfInBounds_toArray]); (try simp only [List.set_cons_succ]); (try simp only [List.set_cons_zero]))
            refine wpAnyH_take (i := 9) (oi := { dst := some 25, op := Op.load 43 (Operand.tmp 3), type := 43, pos := "ref.go:170", after := #[{ on := 4, ground := Ground.guard }], guard := some (4, true) }) (v := ?_) rfl (by kernel_rfl) (by kernel_rfl) (by kernel_rfl) (fun _ _ _ h => h) (Or.inl ⟨by rfl, ?_⟩) (by assumption) ?_
            rotate_left
            · (intro w hSw; (try dsimp only at hSw); go_simp; try with_reducible rfl)
            ((try simp only [Act.put]); (try simp only [List.setIfInBounds_toArray]); (try simp only [List.set_cons_succ]); (try simp only [List.set_cons_zero]))
            refine wpAnyH_ready (rs := [10]) (by kernel_rfl) (by simp) ?_
            refine AllReadyH.cons (o := { dst := some 26, op := Op.call { callee := Callee.value (Operand.func 49), args := #[Operand.tmp 24, Operand.tmp 25], argTypes := #[43, 43] }, type := 4, pos := "ref.go:170", after := #[{ on := 8, ground := Ground.data }, { on := 9, ground := Ground.data }, { on := 4, ground := Ground.chain }, { on := 4, ground := Ground.guard }], guard := some (4, true) }) rfl (fun K hK => ?_) AllReadyH.nil
            go_simp
            refine (rahead_any (x := y) (y := x) HA.out).mono ?_
            rintro e1 w3 ⟨rfl, hb⟩
            try go_wp2_with fail
            refine hK.out _ _ ?_ (fun hNew => ?_)
            · first | exact hHeld | exact ⟨cell_go hHeld.1 hb, cell_go hHeld.2.1 hb, cell_go hHeld.2.2.1 hb, cell_go hHeld.2.2.2.1 hb, cell_go hHeld.2.2.2.2.1 hb, cell_go hHeld.2.2.2.2.2.1 hb, Lib.hid ((Hid.out hHeld.2.2.2.2.2.2).trans (hb.mono (Hid.out hHeld.2.2.2.2.2.2).size))⟩
            clear hK K
            replace hHeld := hNew
            clear hNew
            ((try simp only [Act.put]); (try simp only [List.setIfInBounds_toArray]); (try simp only [List.set_cons_succ]); (try simp only [List.set_cons_zero]))
            refine wpAnyH_take (i := 11) (oi := { dst := some 27, op := Op.pick (Operand.tmp 20) (Operand.tmp 26) (Operand.const (Value.bool false)), type := 4, pos := "ref.go:170", after := #[{ on := 4, ground := Ground.data }, { on := 10, ground := Ground.data }], guard := none }) (v := ?_) rfl (by kernel_rfl) (by kernel_rfl) (by kernel_rfl) (fun _ _ _ h => h) (Or.inl ⟨by rfl, ?_⟩) (by assumption) ?_
            rotate_left
            · (intro w hSw; (try dsimp only at hSw); go_simp; try with_reducible rfl)
            ((try simp only [Act.put]); (try simp only [List.setIfInBounds_toArray]); (try simp only [List.set_cons_succ]); (try simp only [List.set_cons_zero]))
            refine wpAnyH_done (by kernel_rfl) ?_ _
            refine NoPanic.normal ?_
            skip
            have AE := Lib.hid (AK.out.below (Hid.out hHeld.2.2.2.2.2.2))
            clear hHeld AK x0 x1 x2 y0 y1 y2
            have hkc : k < cap := by omega
            have k1 : (k : Int) ≤ (n : Int) := by omega
            have k1' : (k : Int) ≤ (cap : Int) := by omega
            have hck : ¬ cap = k := by omega
            have LD := Lib.hid (show LgAt (fun j => A j ∧ j < U.heap.size) w3 (some ⟨b, off + k * 3, none⟩) (cap - k) (n - k) (l.drop k) from by
              have h := AE.out.l.drop k hk
              rw [if_neg hck] at h
              simpa [Addr.add_lit] using h)
            have HR := Lib.hid (show addL l x = l.take k ++ x :: if ∃ h : k < l.length, Same x l[k] then l.drop (k + 1) else l.drop k from add_at HG.out HX.out (by rw [LN.out]; exact hk) (fun i h => by have := AH.out i h; rwa [getD_at (by rw [LN.out]; omega)] at this) (fun h => by have := HA.out; rw [HY.out, getD_at h] at this; exact this))
            have hkl : k < l.length := by rw [LN.out]; exact hlt
            have HYL := Lib.hid (show y = l[k] from by rw [HY.out, getD_at hkl])
            go_upto_region 6 with fail
            go_cut [6] from 30 to 32 (fun v wx => ∃ b' off' rc rn, v = .slice (some ⟨b', off', none⟩) rn rc ∧ (1 ≤ rn ∧ rn ≤ 100000 ∧ rn = n - k) ∧ AdS A W U wx x (some ⟨b, off, none⟩) cap n l (some ⟨b', off', none⟩) rc rn (l.drop k))
            case first =>
              have AG := Lib.hid (AE.out.rest LD.out)
              go_wp2_with fail
              go_meet
              exact ⟨_, _, _, _, rfl, ⟨by omega, by omega, rfl⟩, AG.out⟩
            case rest =>
            obtain ⟨b', off', rc, rn, rfl, hrn, hAD⟩ := hcut
            have AG := Lib.hid hAD
            have RN := Lib.hid hrn
            clear hAD LD AE hrn HY HA
            rename_i wc
            have hr0 : decide ((rn : Int) > 0) = true := decide_eq_true (by have := RN.out; omega)
            have hr0' : decide (0 < rn) = true := decide_eq_true (by have := RN.out; omega)
            have j0 : (0 : Int) < (rn : Int) := by have := RN.out; omega
            have j0' : 0 < rn := by have := RN.out; omega
            obtain ⟨b9, off9, e9, -, -, y0, y1, -⟩ := AG.out.r.cell (i := 0) j0'
            simp only [Option.some.injEq, Addr.mk.injEq, and_true] at e9
            obtain ⟨rfl, rfl⟩ := e9
            have ey : (l.drop k).getD 0 default = y := by rw [HYL.out, List.drop_eq_getElem_cons hkl]; rfl
            rw [ey] at y0 y1
            replace y0 : wc.cell? ⟨b', off', none⟩ = some (.int .i64 y.f) := y0
            replace y1 : wc.cell? ⟨b', off' + 1, none⟩ = some (.int .u64 (y.n : Int)) := by simpa using y1
            have x0 : wc.cell? ⟨W.heap.size, 0, none⟩ = some (.int .i64 x.f) := AG.out.x.c 0 (by decide)
            have x1 : wc.cell? ⟨W.heap.size, 1, none⟩ = some (.int .u64 (x.n : Int)) := AG.out.x.c 1 (by decide)
            clear ey
            by_cases hf : y.f = x.f
            · have d1 : (y.f == x.f) = true := by simpa using hf
              by_cases hn2 : y.n = x.n
              · have d2 : ((y.n : Int) == (x.n : Int)) = true := beq_iff_eq.2 (by omega)
                have HM := Lib.hid (show m = l.take k ++ x :: l.drop (k + 1) from by rw [← HM0.out, HR.out, if_pos ⟨hkl, by rw [← HYL.out]; exact ⟨hf, hn2⟩⟩])
                clear hf hn2 HR
                go_upto_region 7 with fail
                refine wp_region_noPanic ?_
                refine wp_region_held_drew (S := (fun w' => w'.cell? ⟨W.heap.size, 0, none⟩ = some (.int .i64 x.f) ∧ w'.cell? ⟨W.heap.size, 1, none⟩ = some (.int .u64 (x.n : Int)) ∧ w'.cell? ⟨b', off', none⟩ = some (.int .i64 y.f) ∧ w'.cell? ⟨b', off' + 1, none⟩ = some (.int .u64 (y.n : Int)))) (by kernel_rfl) ?_ (fun hHeld => ?_)
                · exact ⟨x0, x1, y0, y1⟩
                refine wpAnyH_take (i := 0) (oi := { dst := some 33, op := Op.move (Operand.tmp 6), type := 40, pos := "ref.go:174", after := #[], guard := none }) (v := ?_) rfl (by kernel_rfl) (by kernel_rfl) (by kernel_rfl) (fun _ _ _ h => h) (Or.inl ⟨by rfl, ?_⟩) (by assumption) ?_
                rotate_left
                · (intro w hSw; (try dsimp only at hSw); go_simp; try with_reducible rfl)
                ((try simp only [Act.put]); (try simp only [List.setIfInBounds_toArray]); (try simp only [List.set_cons_succ]); (try simp only [List.set_cons_zero]))
                refine wpAnyH_take (i := 1) (oi := { dst := some 34, op := Op.call { callee := Callee.builtin Builtin.len, args := #[Operand.tmp 33], argTypes := #[40] }, type := 3, pos := "ref.go:174", after := #[{ on := 0, ground := Ground.data }], guard := none }) (v := ?_) rfl (by kernel_rfl) (by kernel_rfl) (by kernel_rfl) (fun _ _ _ h => h) (Or.inl ⟨by rfl, ?_⟩) (by assumption) ?_
                rotate_left
                · (intro w hSw; (try dsimp only at hSw); go_simp; try with_reducible rfl)
                ((try simp only [Act.put]); (try simp only [List.setIfInBounds_toArray]); (try simp only [List.set_cons_succ]); (try simp only [List.set_cons_zero]))
                refine wpAnyH_take (i := 2) (oi := { dst := some 35, op := Op.binOp BinOp.gtr 3 (Operand.tmp 34) (Operand.const (Value.int IntKind.i64 0)) 3, type := 4, pos := "ref.go:174", after := #[{ on := 1, ground := Ground.data }], guard := none }) (v := ?_) rfl (by kernel_rfl) (by kernel_rfl) (by kernel_rfl) (fun _ _ _ h => h) (Or.inl ⟨by rfl, ?_⟩) (by assumption) ?_
                rotate_left
                · (intro w hSw; (try dsimp only at hSw); go_simp; try with_reducible rfl)
                ((try simp only [Act.put]); (try simp only [List.setIfInBounds_toArray]); (try simp only [List.set_cons_succ]); (try simp only [List.set_cons_zero]))
                refine wpAnyH_take (i := 3) (oi := { dst := some 36, op := Op.move (Operand.tmp 35), type := 4, pos := "ref.go:174", after := #[{ on := 2, ground := Ground.data }], guard := none }) (v := ?_) rfl (by kernel_rfl) (by kernel_rfl) (by kernel_rfl) (fun _ _ _ h => h) (Or.inl ⟨by rfl, ?_⟩) (by assumption) ?_
                rotate_left
                · (intro w hSw; (try dsimp only at hSw); go_simp; try with_reducible rfl)
                ((try simp only [Act.put]); (try simp only [List.setIfInBounds_toArray]); (try simp only [List.set_cons_succ]); (try simp only [List.set_cons_zero]))
                refine wpAnyH_take (i := 4) (oi := { dst := some 37, op := Op.move (Operand.tmp 6), type := 40, pos := "ref.go:174", after := #[{ on := 3, ground := Ground.guard }], guard := some (3, true) }) (v := ?_) rfl (by kernel_rfl) (by kernel_rfl) (by kernel_rfl) (fun _ _ _ h => h) (Or.inl ⟨by rfl, ?_⟩) (by assumption) ?_
                rotate_left
                · (intro w hSw; (try dsimp only at hSw); go_simp; try with_reducible rfl)
                ((try simp only [Act.put]); (try simp only [List.setIfInBounds_toArray]); (try simp only [List.set_cons_succ]); (try simp only [List.set_cons_zero]))
                refine wpAnyH_take (i := 5) (oi := { dst := some 38, op := Op.indexAddr 40 (Operand.tmp 37) (Operand.const (Value.int IntKind.i64 0)), type := 0, pos := "ref.go:174", after := #[{ on := 4, ground := Ground.data }, { on := 3, ground := Ground.guard }], guard := some (3, true) }) (v := ?_) rfl (by kernel_rfl) (by kernel_rfl) (by kernel_rfl) (fun _ _ _ h => h) (Or.inl ⟨by rfl, ?_⟩) (by assumption) ?_
                rotate_left
                · (intro w hSw; (try dsimp only at hSw); go_simp; try with_reducible rfl)
                ((try simp only [Act.put]); (try simp only [List.setIfInBounds_toArray]); (try simp only [List.set_cons_succ]); (try simp only [List.set_cons_zero]))
                refine wpAnyH_take (i := 6) (oi := { dst := some 39, op := Op.fieldAddr 43 (Operand.tmp 38) 0, type := 0, pos := "ref.go:174", after := #[{ on := 5, ground := Ground.data }, { on := 3, ground := Ground.guard }], guard := some (3, true) }) (v := ?_) rfl (by kernel_rfl) (by kernel_rfl) (by kernel_rfl) (fun _ _ _ h => h) (Or.inl ⟨by rfl, ?_⟩) (by assumption) ?_
                rotate_left
                · (intro w hSw; (try dsimp only at hSw); go_simp; try with_reducible rfl)
                ((try simp only [Act.put]); (try simp only [List.setIfInBounds_toArray]); (try simp only [List.set_cons_succ]); (try simp only [List.set_cons_zero]))
                refine wpAnyH_take (i := 7) (oi := { dst := some 40, op := Op.load 3 (Operand.tmp 39), type := 3, pos := "ref.go:174", after := #[{ on := 6, ground := Ground.data }, { on := 3, ground := Ground.guard }], guard := some (3, true) }) (v := ?_) rfl (by kernel_rfl) (by kernel_rfl) (by kernel_rfl) (fun _ _ _ h => h) (Or.inl ⟨by rfl, ?_⟩) (by assumption) ?_
                rotate_left
                · (intro w hSw; (try dsimp only at hSw); go_simp; try with_reducible rfl)
                ((try simp only [Act.put]); (try simp only [List.setIfInBounds_toArray]); (try simp only [List.set_cons_succ]); (try simp only [List.set_cons_zero]))
                refine wpAnyH_take (i := 8) (oi := { dst := some 41, op := Op.fieldAddr 43 (Operand.tmp 3) 0, type := 0, pos := "ref.go:174", after := #[{ on := 3, ground := Ground.guard }], guard := some (3, true) }) (v := ?_) rfl (by kernel_rfl) (by kernel_rfl) (by kernel_rfl) (fun _ _ _ h => h) (Or.inl ⟨by rfl, ?_⟩) (by assumption) ?_
                rotate_left
                · (intro w hSw; (try dsimp only at hSw); go_simp; try with_reducible rfl)
                ((try simp only [Act.put]); (try simp only [List.setIfInBounds_toArray]); (try simp only [List.set_cons_succ]); (try simp only [List.set_cons_zero]))
                refine wpAnyH_take (i := 9) (oi := { dst := some 42, op := Op.load 3 (Operand.tmp 41), type := 3, pos := "ref.go:174", after := #[{ on := 8, ground := Ground.data }, { on := 3, ground := Ground.guard }], guard := some (3, true) }) (v := ?_) rfl (by kernel_rfl) (by kernel_rfl) (by kernel_rfl) (fun _ _ _ h => h) (Or.inl ⟨by rfl, ?_⟩) (by assumption) ?_
                rotate_left
                · (intro w hSw; (try dsimp only at hSw); go_simp; try with_reducible rfl)
                ((try simp only [Act.put]); (try simp only [List.setIfInBounds_toArray]); (try simp only [List.set_cons_succ]); (try simp only [List.set_cons_zero]))
                refine wpAnyH_take (i := 10) (oi := { dst := some 43, op := Op.binOp BinOp.eql 3 (Operand.tmp 40) (Operand.tmp 42) 3, type := 4, pos := "ref.go:174", after := #[{ on := 7, ground := Ground.data }, { on := 9, ground := Ground.data }, { on := 3, ground := Ground.guard }], guard := some (3, true) }) (v := ?_) rfl (by kernel_rfl) (by kernel_rfl) (by kernel_rfl) (fun _ _ _ h => h) (Or.inl ⟨by rfl, ?_⟩) (by assumption) ?_
                rotate_left
                · (intro w hSw; (try dsimp only at hSw); go_simp; try with_reducible rfl)
                ((try simp only [Act.put]); (try simp only [List.setIfInBounds_toArray]); (try simp only [List.set_cons_succ]); (try simp only [List.set_cons_zero]))
                refine wpAnyH_take (i := 11) (oi := { dst := some 44, op := Op.pick (Operand.tmp 36) (Operand.tmp 43) (Operand.const (Value.bool false)), type := 4, pos := "ref.go:174", after := #[{ on := 3, ground := Ground.data }, { on := 10, ground := Ground.data }], guard := none }) (v := ?_) rfl (by kernel_rfl) (by kernel_rfl) (by kernel_rfl) (fun _ _ _ h => h) (Or.inl ⟨by rfl, ?_⟩) (by assumption) ?_
                rotate_left
                · (intro w hSw; (try dsimp only at hSw); go_simp; try with_reducible rfl)
                ((try simp only [Act.put]); (try simp only [List.setIfInBounds_toArray]); (try simp only [List.set_cons_succ]); (try simp only [List.set_cons_zero]))
                refine wpAnyH_take (i := 12) (oi := { dst := some 45, op := Op.move (Operand.tmp 44), type := 4, pos := "ref.go:174", after := #[{ on := 11, ground := Ground.data }, { on := 3, ground := Ground.chain }], guard := none }) (v := ?_) rfl (by kernel_rfl) (by kernel_rfl) (by kernel_rfl) (fun _ _ _ h => h) (Or.inl ⟨by rfl, ?_⟩) (by assumption) ?_
                rotate_left
                · (intro w hSw; (try dsimp only at hSw); go_simp; try with_reducible rfl)
                ((try simp only [Act.put]); (try simp only [List.setIfInBounds_toArray]); (try simp only [List.set_cons_succ]); (try simp only [List.set_cons_zero]))
                refine wpAnyH_take (i := 13) (oi := { dst := some 46, op := Op.move (Operand.tmp 6), type := 40, pos := "ref.go:174", after := #[{ on := 12, ground := Ground.guard }], guard := some (12, true) }) (v := ?_) rfl (by kernel_rfl) (by kernel_rfl) (by kernel_rfl) (fun _ _ _ h => h) (Or.inl ⟨by rfl, ?_⟩) (by assumption) ?_
                rotate_left
                · (intro w hSw; (try dsimp only at hSw); go_simp; try with_reducible rfl)
                ((try simp only [Act.put]); (try simp only [List.setIfInBounds_toArray]); (try simp only [List.set_cons_succ]); (try simp only [List.set_cons_zero]))
                refine wpAnyH_take (i := 14) (oi := { dst := some 47, op := Op.indexAddr 40 (Operand.tmp 46) (Operand.const (Value.int IntKind.i64 0)), type := 0, pos := "ref.go:174", after := #[{ on := 13, ground := Ground.data }, { on := 12, ground := Ground.guard }], guard := some (12, true) }) (v := ?_) rfl (by kernel_rfl) (by kernel_rfl) (by kernel_rfl) (fun _ _ _ h => h) (Or.inl ⟨by rfl, ?_⟩) (by assumption) ?_
                rotate_left
                · (intro w hSw; (try dsimp only at hSw); go_simp; try with_reducible rfl)
                ((try simp only [Act.put]); (try simp only [List.setIfInBounds_toArray]); (try simp only [List.set_cons_succ]); (try simp only [List.set_cons_zero]))
                refine wpAnyH_take (i := 15) (oi := { dst := some 48, op := Op.fieldAddr 43 (Operand.tmp 47) 1, type := 0, pos := "ref.go:174", after := #[{ on := 14, ground := Ground.data }, { on := 12, ground := Ground.guard }], guard := some (12, true) }) (v := ?_) rfl (by kernel_rfl) (by kernel_rfl) (by kernel_rfl) (fun _ _ _ h => h) (Or.inl ⟨by rfl, ?_⟩) (by assumption) ?_
                rotate_left
                · (intro w hSw; (try dsimp only at hSw); go_simp; try with_reducible rfl)
                ((try simp only [Act.put]); (try simp only [List.setIfInBounds_toArray]); (try simp only [List.set_cons_succ]); (try simp only [List.set_cons_zero]))
                refine wpAnyH_take (i := 16) (oi := { dst := some 49, op := Op.load 23 (Operand.tmp 48), type := 23, pos := "ref.go:174", after := #[{ on := 15, ground := Ground.data }, { on := 12, ground := Ground.guard }], guard := some (12, true) }) (v := ?_) rfl (by kernel_rfl) (by kernel_rfl) (by kernel_rfl) (fun _ _ _ h => h) (Or.inl ⟨by rfl, ?_⟩) (by assumption) ?_
                rotate_left
                · (intro w hSw; (try dsimp only at hSw); go_simp; try with_reducible rfl)
                ((try simp only [Act.put]); (try simp only [List.setIfInBounds_toArray]); (try simp only [List.set_cons_succ]); (try simp only [List.set_cons_zero]))
                refine wpAnyH_take (i := 17) (oi := { dst := some 50, op := Op.fieldAddr 43 (Operand.tmp 3) 1, type := 0, pos := "ref.go:174", after := #[{ on := 12, ground := Ground.guard }], guard := some (12, true) }) (v := ?_) rfl (by kernel_rfl) (by kernel_rfl) (by kernel_rfl) (fun _ _ _ h => h) (Or.inl ⟨by rfl, ?_⟩) (by assumption) ?_
                rotate_left
                · (intro w hSw; (try dsimp only at hSw); go_simp; try with_reducible rfl)
                ((try simp only [Act.put]); (try simp only [List.setIfInBounds_toArray]); (try simp only [List.set_cons_succ]); (try simp only [List.set_cons_zero]))
                refine wpAnyH_take (i := 18) (oi := { dst := some 51, op := Op.load 23 (Operand.tmp 50), type := 23, pos := "ref.go:174", after := #[{ on := 17, ground := Ground.data }, { on := 12, ground := Ground.guard }], guard := some (12, true) }) (v := ?_) rfl (by kernel_rfl) (by kernel_rfl) (by kernel_rfl) (fun _ _ _ h => h) (Or.inl ⟨by rfl, ?_⟩) (by assumption) ?_
                rotate_left
                · (intro w hSw; (try dsimp only at hSw); go_simp; try with_reducible rfl)
                ((try simp only [Act.put]); (try simp only [List.setIfInBounds_toArray]); (try simp only [List.set_cons_succ]); (try simp only [List.set_cons_zero]))
                refine wpAnyH_take (i := 19) (oi := { dst := some 52, op := Op.binOp BinOp.eql 23 (Operand.tmp 49) (Operand.tmp 51) 23, type := 4, pos := "ref.go:174", after := #[{ on := 16, ground := Ground.data }, { on := 18, ground := Ground.data }, { on := 12, ground := Ground.guard }], guard := some (12, true) }) (v := ?_) rfl (by kernel_rfl) (by kernel_rfl) (by kernel_rfl) (fun _ _ _ h => h) (Or.inl ⟨by rfl, ?_⟩) (by assumption) ?_
                rotate_left
                · (intro w hSw; (try dsimp only at hSw); go_simp; try with_reducible rfl)
                ((try simp only [Act.put]); (try simp only [List.setIfInBounds_toArray]); (try simp only [List.set_cons_succ]); (try simp only [List.set_cons_zero]))
                refine wpAnyH_take (i := 20) (oi := { dst := some 53, op := Op.pick (Operand.tmp 45) (Operand.tmp 52) (Operand.const (Value.bool false)), type := 4, pos := "ref.go:174", after := #[{ on := 12, ground := Ground.data }, { on := 19, ground := Ground.data }], guard := none }) (v := ?_) rfl (by kernel_rfl) (by kernel_rfl) (by kernel_rfl) (fun _ _ _ h => h) (Or.inl ⟨by rfl, ?_⟩) (by assumption) ?_
                rotate_left
                · (intro w hSw; (try dsimp only at hSw); go_simp; try with_reducible rfl)
                ((try simp only [Act.put]); (try simp only [List.setIfInBounds_toArray]); (try simp only [List.set_cons_succ]); (try simp only [List.set_cons_zero]))
                refine wpAnyH_done (by kernel_rfl) ?_ _
                refine NoPanic.normal ?_
                skip
                clear hHeld
                have AH7 := Lib.hid (AG.out.below (drew_below wc))
                clear AG x0 x1 y0 y1
                generalize wc.drew = w8 at *
                have ed : (l.drop k).drop 1 = l.drop (k + 1) := by rw [List.drop_drop]
                have rrc := AH7.out.r.fit
                have r1 : (1 : Int) ≤ (rn : Int) := by have := RN.out; omega
                have r2 : (1 : Int) ≤ (rc : Int) := by have := RN.out; omega
                have r1' : 1 ≤ rn := by have := RN.out; omega
                have r2' : 1 ≤ rc := by have := RN.out; omega
                have r3 : (rn : Int) ≤ (rc : Int) := by omega
                have LD1 := Lib.hid (AH7.out.r.drop 1 (by have := RN.out; omega))
                rw [ed] at LD1
                go_upto_region 8 with fail
                go_cut [6] from 54 to 55 (fun v wx => ∃ ra2 rc2 rn2, v = .slice ra2 rn2 rc2 ∧ rn2 ≤ 100000 ∧ AdS A W U wx x (some ⟨b, off, none⟩) cap n l ra2 rc2 rn2 (l.drop (k + 1)))
                case first =>
                  by_cases hc : rc = 1
                  · rw [if_pos hc] at LD1
                    have AG := Lib.hid (AH7.out.rest LD1.out)
                    clear LD1 AH7
                    subst hc
                    obtain rfl : rn = 1 := by omega
                    simp only [Nat.sub_self] at AG
                    go_wp2_with fail
                    go_meet
                    exact ⟨_, _, _, rfl, by have := RN.out; omega, AG.out⟩
                  · rw [if_neg hc] at LD1
                    have AG := Lib.hid (AH7.out.rest LD1.out)
                    clear LD1 AH7
                    simp only [Option.map_some, Addr.add_lit, Nat.one_mul] at AG
                    have hc2 : ¬ (rc : Int) = 1 := by omega
                    have hc3 : ¬ rc - 1 = 0 := by omega
                    go_wp2_with fail
                    go_meet
                    exact ⟨_, _, _, rfl, by have := RN.out; omega, AG.out⟩
                case rest =>
                obtain ⟨ra2, rc2, rn2, rfl, hrn2, hAD⟩ := hcut
                have AD0 := Lib.hid hAD
                have RNB := Lib.hid hrn2
                clear hAD hrn2 LD1 AH7 rrc r1 r2 r1' r2' r3 ed
                rename World => w0
                go_upto_region 9 with fail
                have SZ0 := Lib.hid AD0.out.u
                have OW1 := Lib.hid (show (w0.alloc (.cells #[] 43)).drew.ownsRow U.heap.size 43 3 (.slice (some ⟨w0.heap.size, 0, none⟩) 0 0) 0 [] from own_below (empty_row w0 43 SZ0.out) ((drew_below _).mono (by simp)))
                have OW2 := Lib.hid (show ((w0.alloc (.cells #[] 43)).alloc (.cells #[.int .i64 x.f, .int .u64 (x.n : Int), .int .u64 (x.t : Int)] 43)).drew.ownsRow U.heap.size 43 3 (.slice (some ⟨w0.heap.size, 0, none⟩) 0 0) 0 [] from own_below (own_below (empty_row w0 43 SZ0.out) (boxb _ (.cells #[.int .i64 x.f, .int .u64 (x.n : Int), .int .u64 (x.t : Int)] 43))) ((drew_below _).mono (by simp)))
                have OW3 := Lib.hid (show ((w0.alloc (.cells #[.int .i64 x.f, .int .u64 (x.n : Int), .int .u64 (x.t : Int)] 43)).alloc (.cells #[] 43)).drew.ownsRow U.heap.size 43 3 (.slice (some ⟨w0.heap.size + 1, 0, none⟩) 0 0) 0 [] from by
                  have h := own_below (empty_row (w0.alloc (.cells #[.int .i64 x.f, .int .u64 (x.n : Int), .int .u64 (x.t : Int)] 43)) 43 (Nat.le_trans SZ0.out (boxb w0 (.cells #[.int .i64 x.f, .int .u64 (x.n : Int), .int .u64 (x.t : Int)] 43)).size)) ((drew_below _).mono (by simp))
                  rw [show (w0.alloc (.cells #[.int .i64 x.f, .int .u64 (x.n : Int), .int .u64 (x.t : Int)] 43)).heap.size = w0.heap.size + 1 by simp] at h
                  exact h)
                have AD1 := Lib.hid (show AdS A W U (w0.alloc (.cells #[] 43)).drew x (some ⟨b, off, none⟩) cap n l ra2 rc2 rn2 (l.drop (k + 1)) from (AD0.out.below (boxb w0 (.cells #[] 43))).below ((drew_below _).mono (by simp)))
                have AD2 := Lib.hid (show AdS A W U ((w0.alloc (.cells #[] 43)).alloc (.cells #[.int .i64 x.f, .int .u64 (x.n : Int), .int .u64 (x.t : Int)] 43)).drew x (some ⟨b, off, none⟩) cap n l ra2 rc2 rn2 (l.drop (k + 1)) from ((AD0.out.below (boxb w0 (.cells #[] 43))).below (boxb _ (.cells #[.int .i64 x.f, .int .u64 (x.n : Int), .int .u64 (x.t : Int)] 43))).below ((drew_below _).mono (by simp)))
                have AD3 := Lib.hid (show AdS A W U ((w0.alloc (.cells #[.int .i64 x.f, .int .u64 (x.n : Int), .int .u64 (x.t : Int)] 43)).alloc (.cells #[] 43)).drew x (some ⟨b, off, none⟩) cap n l ra2 rc2 rn2 (l.drop (k + 1)) from ((AD0.out.below (boxb w0 (.cells #[.int .i64 x.f, .int .u64 (x.n : Int), .int .u64 (x.t : Int)] 43))).below (boxb _ (.cells #[] 43))).below ((drew_below _).mono (by simp)))
                have LX2 := Lib.hid (show LgAt (fun j => j = w0.heap.size + 1) ((w0.alloc (.cells #[] 43)).alloc (.cells #[.int .i64 x.f, .int .u64 (x.n : Int), .int .u64 (x.t : Int)] 43)).drew (some ⟨w0.heap.size + 1, 0, none⟩) 1 1 [x] from by
                  have h := (lit_ent (w0.alloc (.cells #[] 43)) x 43 OX.out).below ((drew_below _).mono (by simp))
                  rw [show (w0.alloc (.cells #[] 43)).heap.size = w0.heap.size + 1 by simp] at h
                  exact h)
                have LX3 := Lib.hid (show LgAt (fun j => j = w0.heap.size) ((w0.alloc (.cells #[.int .i64 x.f, .int .u64 (x.n : Int), .int .u64 (x.t : Int)] 43)).alloc (.cells #[] 43)).drew (some ⟨w0.heap.size, 0, none⟩) 1 1 [x] from ((lit_ent w0 x 43 OX.out).below (boxb _ (.cells #[] 43))).below ((drew_below _).mono (by simp)))
                have x0d : w0.drew.cell? ⟨W.heap.size, 0, none⟩ = some (.int .i64 x.f) := AD0.out.x.c 0 (by decide)
                have x1d : w0.drew.cell? ⟨W.heap.size, 1, none⟩ = some (.int .u64 (x.n : Int)) := AD0.out.x.c 1 (by decide)
                have x2d : w0.drew.cell? ⟨W.heap.size, 2, none⟩ = some (.int .u64 (x.t : Int)) := AD0.out.x.c 2 (by decide)
                have q0d : (w0.alloc (.cells #[] 43)).drew.cell? ⟨W.heap.size, 0, none⟩ = some (.int .i64 x.f) := AD1.out.x.c 0 (by decide)
                have q1d : (w0.alloc (.cells #[] 43)).drew.cell? ⟨W.heap.size, 1, none⟩ = some (.int .u64 (x.n : Int)) := AD1.out.x.c 1 (by decide)
                have q2d : (w0.alloc (.cells #[] 43)).drew.cell? ⟨W.heap.size, 2, none⟩ = some (.int .u64 (x.t : Int)) := AD1.out.x.c 2 (by decide)
                have kc0 : (0 : Int) ≤ (k : Int) := by omega
                have kc1 : (k : Int) ≤ (cap : Int) := by omega
                have LT := Lib.hid (show (lgC (l.take k)).length = k * 3 from by rw [lgC_len, List.length_take, LN.out, Nat.min_eq_left hk])
                have NL := Lib.hid (fun (w : World) (h : AdS A W U w x (some ⟨b, off, none⟩) cap n l ra2 rc2 rn2 (l.drop (k + 1))) => (h.l.take k hk).row)
                have NR := Lib.hid (fun (w : World) (h : AdS A W U w x (some ⟨b, off, none⟩) cap n l ra2 rc2 rn2 (l.drop (k + 1))) => h.r)
                have FIN := Lib.hid (fun (w3 : World) (a3 : Option Addr) (c3 : Nat) (hA : AdS A W U w3 x (some ⟨b, off, none⟩) cap n l ra2 rc2 rn2 (l.drop (k + 1))) (ho : w3.ownsRow U.heap.size 43 3 (.slice a3 (0 + k + 1 + rn2) c3) (0 + k + 1 + rn2) ([] ++ lgC (l.take k) ++ xC x ++ lgC (l.drop (k + 1)))) =>
                  show ∃ a' c', (.slice a3 (0 + k + 1 + rn2) c3 : Value) = .slice a' m.length c' ∧ LgAt (NewL W A) w3 a' c' m.length m ∧ Below W.heap.size W w3 from by
                    have hlm : m.length = 0 + k + 1 + rn2 := by rw [HM.out, List.length_append, List.length_cons, List.length_take, LN.out, Nat.min_eq_left hk, hA.r.len]; omega
                    have hcm : lgC m = [] ++ lgC (l.take k) ++ xC x ++ lgC (l.drop (k + 1)) := by rw [HM.out, lgC_append, lgC_cons]; simp [xC]
                    rw [hlm]
                    refine ⟨a3, c3, rfl, ?_, hA.b⟩
                    have hL : OwnLg 43 U.heap.size w3 (.slice a3 (0 + k + 1 + rn2) c3) m := ⟨by rw [hlm, hcm]; exact ho, fun z hz => by
                      rw [HM.out] at hz
                      rcases List.mem_append.1 hz with hz | hz
                      · exact hA.l.ok z (List.mem_of_mem_take hz)
                      · rcases List.mem_cons.1 hz with rfl | hz
                        · exact OX.out
                        · exact hA.r.ok z hz⟩
                    exact (hL.at hlm).mono (fun j _ hj => Or.inr (by have := hA.hU; omega)))
                go_region_law (first
                  | (refine step_append_at rfl (.tmp 56) (.tmp 59) 40 rfl U.heap.size 43 ti (.agg #[.int .i64 0, .int .u64 0, .int .u64 0]) 3 24 Try.underlying40 hi0 hz0 hz1 hz2 rfl (by decide) (.slice (some ⟨w0.heap.size, 0, none⟩) 0 0) 0 [] (by simp [Act.eval]) OW1.out (some ⟨b, off, none⟩) k cap (lgC (l.take k)) (by simp [Act.eval]) LT.out (NL.out _ AD1.out).empty (NL.out _ AD1.out).news (lgC_one _) (by unfold maxLen; omega) (by omega) AD1.out.u ?_
                     intro a1 c1 w1 hown1 hgr1 hat1
                     have kk := keep_own (v := (.slice (some ⟨w0.heap.size, 0, none⟩) 0 0)) hgr1
                     have AD := Lib.hid (AD1.out.keep kk (fun j e => (OW1.out.lt j e).1))
                     have O1 := Lib.hid hown1
                     have p0 : w1.cell? ⟨W.heap.size, 0, none⟩ = some (.int .i64 x.f) := AD.out.x.c 0 (by decide)
                     have p1 : w1.cell? ⟨W.heap.size, 1, none⟩ = some (.int .u64 (x.n : Int)) := AD.out.x.c 1 (by decide)
                     have p2 : w1.cell? ⟨W.heap.size, 2, none⟩ = some (.int .u64 (x.t : Int)) := AD.out.x.c 2 (by decide)
                     clear hown1 hgr1 hat1 kk)
                  | (refine step_append_at rfl (.tmp 56) (.tmp 59) 40 rfl U.heap.size 43 ti (.agg #[.int .i64 0, .int .u64 0, .int .u64 0]) 3 24 Try.underlying40 hi0 hz0 hz1 hz2 rfl (by decide) (.slice (some ⟨w0.heap.size, 0, none⟩) 0 0) 0 [] (by simp [Act.eval]) OW2.out (some ⟨b, off, none⟩) k cap (lgC (l.take k)) (by simp [Act.eval]) LT.out (NL.out _ AD2.out).empty (NL.out _ AD2.out).news (lgC_one _) (by unfold maxLen; omega) (by omega) AD2.out.u ?_
                     intro a1 c1 w1 hown1 hgr1 hat1
                     have kk := keep_own (v := (.slice (some ⟨w0.heap.size, 0, none⟩) 0 0)) hgr1
                     have AD := Lib.hid (AD2.out.keep kk (fun j e => (OW2.out.lt j e).1))
                     have LX := Lib.hid (LX2.out.keep kk (fun j e e2 => by simp [Value.ownBlock] at e2; omega))
                     have O1 := Lib.hid hown1
                     have p0 : w1.cell? ⟨W.heap.size, 0, none⟩ = some (.int .i64 x.f) := AD.out.x.c 0 (by decide)
                     have p1 : w1.cell? ⟨W.heap.size, 1, none⟩ = some (.int .u64 (x.n : Int)) := AD.out.x.c 1 (by decide)
                     have p2 : w1.cell? ⟨W.heap.size, 2, none⟩ = some (.int .u64 (x.t : Int)) := AD.out.x.c 2 (by decide)
                     clear hown1 hgr1 hat1 kk)
                  | (refine step_append_at rfl (.tmp 56) (.tmp 59) 40 rfl U.heap.size 43 ti (.agg #[.int .i64 0, .int .u64 0, .int .u64 0]) 3 24 Try.underlying40 hi0 hz0 hz1 hz2 rfl (by decide) (.slice (some ⟨w0.heap.size + 1, 0, none⟩) 0 0) 0 [] (by simp [Act.eval]) OW3.out (some ⟨b, off, none⟩) k cap (lgC (l.take k)) (by simp [Act.eval]) LT.out (NL.out _ AD3.out).empty (NL.out _ AD3.out).news (lgC_one _) (by unfold maxLen; omega) (by omega) AD3.out.u ?_
                     intro a1 c1 w1 hown1 hgr1 hat1
                     have kk := keep_own (v := (.slice (some ⟨w0.heap.size + 1, 0, none⟩) 0 0)) hgr1
                     have AD := Lib.hid (AD3.out.keep kk (fun j e => (OW3.out.lt j e).1))
                     have LX := Lib.hid (LX3.out.keep kk (fun j e e2 => by simp [Value.ownBlock] at e2; omega))
                     have O1 := Lib.hid hown1
                     have p0 : w1.cell? ⟨W.heap.size, 0, none⟩ = some (.int .i64 x.f) := AD.out.x.c 0 (by decide)
                     have p1 : w1.cell? ⟨W.heap.size, 1, none⟩ = some (.int .u64 (x.n : Int)) := AD.out.x.c 1 (by decide)
                     have p2 : w1.cell? ⟨W.heap.size, 2, none⟩ = some (.int .u64 (x.t : Int)) := AD.out.x.c 2 (by decide)
                     clear hown1 hgr1 hat1 kk)
                  | (refine step_append_at rfl (.tmp 60) (.tmp 62) 40 rfl U.heap.size 43 ti (.agg #[.int .i64 0, .int .u64 0, .int .u64 0]) 3 24 Try.underlying40 hi0 hz0 hz1 hz2 rfl (by decide) (.slice a1 (0 + k) c1) (0 + k) ([] ++ lgC (l.take k)) (by simp [Act.eval]) O1.out (some ⟨w0.heap.size + 1, 0, none⟩) 1 1 (xC x) (by simp [Act.eval]) rfl (fun e => by cases e) (fun ad e j u hj => LX.out.row.news ad e j u (by simpa [lgC] using hj)) (xC_one x) (by unfold maxLen; omega) (by omega) AD.out.u ?_
                     intro a2 c2 w2 hown2 hgr2 hat2
                     have kk2 := keep_own (v := .slice a1 (0 + k) c1) hgr2
                     have AD4 := Lib.hid (AD.out.keep kk2 (fun j e => (O1.out.lt j e).1))
                     have O2 := Lib.hid hown2
                     clear hown2 hgr2 hat2 kk2)
                  | (refine step_append_at rfl (.tmp 60) (.tmp 62) 40 rfl U.heap.size 43 ti (.agg #[.int .i64 0, .int .u64 0, .int .u64 0]) 3 24 Try.underlying40 hi0 hz0 hz1 hz2 rfl (by decide) (.slice a1 (0 + k) c1) (0 + k) ([] ++ lgC (l.take k)) (by simp [Act.eval]) O1.out (some ⟨w0.heap.size, 0, none⟩) 1 1 (xC x) (by simp [Act.eval]) rfl (fun e => by cases e) (fun ad e j u hj => LX.out.row.news ad e j u (by simpa [lgC] using hj)) (xC_one x) (by unfold maxLen; omega) (by omega) AD.out.u ?_
                     intro a2 c2 w2 hown2 hgr2 hat2
                     have kk2 := keep_own (v := .slice a1 (0 + k) c1) hgr2
                     have AD4 := Lib.hid (AD.out.keep kk2 (fun j e => (O1.out.lt j e).1))
                     have O2 := Lib.hid hown2
                     clear hown2 hgr2 hat2 kk2)
                  | (refine step_append_at rfl (.tmp 60) (.tmp 62) 40 rfl U.heap.size 43 ti (.agg #[.int .i64 0, .int .u64 0, .int .u64 0]) 3 24 Try.underlying40 hi0 hz0 hz1 hz2 rfl (by decide) (.slice a1 (0 + k) c1) (0 + k) ([] ++ lgC (l.take k)) (by simp [Act.eval]) (own_below O1.out (boxb w1 (.cells #[.int .i64 x.f, .int .u64 (x.n : Int), .int .u64 (x.t : Int)] 43))) (some ⟨w1.heap.size, 0, none⟩) 1 1 (xC x) (by simp [Act.eval]) rfl (fun e => by cases e) (fun ad e j u hj => (lit_ent w1 x 43 OX.out).row.news ad e j u (by simpa [lgC] using hj)) (xC_one x) (by unfold maxLen; omega) (by omega) (AD.out.below (boxb w1 (.cells #[.int .i64 x.f, .int .u64 (x.n : Int), .int .u64 (x.t : Int)] 43))).u ?_
                     intro a2 c2 w2 hown2 hgr2 hat2
                     have kk2 := keep_own (v := .slice a1 (0 + k) c1) hgr2
                     have AD4 := Lib.hid ((AD.out.below (boxb w1 (.cells #[.int .i64 x.f, .int .u64 (x.n : Int), .int .u64 (x.t : Int)] 43))).keep kk2 (fun j e => (O1.out.lt j e).1))
                     have O2 := Lib.hid hown2
                     clear hown2 hgr2 hat2 kk2)
                  | (refine step_append_at rfl (.tmp 63) (.tmp 64) 40 rfl U.heap.size 43 ti (.agg #[.int .i64 0, .int .u64 0, .int .u64 0]) 3 24 Try.underlying40 hi0 hz0 hz1 hz2 rfl (by decide) (.slice a2 (0 + k + 1) c2) (0 + k + 1) ([] ++ lgC (l.take k) ++ xC x) (by simp [Act.eval]) O2.out ra2 rn2 rc2 (lgC (l.drop (k + 1))) (by simp [Act.eval]) (by rw [lgC_len, (NR.out _ AD4.out).len]) (NR.out _ AD4.out).row.empty (NR.out _ AD4.out).row.news (lgC_one _) (by have := RNB.out; unfold maxLen; omega) (by have := RNB.out; omega) AD4.out.u ?_
                     intro a3 c3 w3 hown3 hgr3 hat3
                     have kk3 := keep_own (v := .slice a2 (0 + k + 1) c2) hgr3
                     have AD5 := Lib.hid (AD4.out.keep kk3 (fun j e => (O2.out.lt j e).1))
                     have R5 := Lib.hid (FIN.out w3 a3 c3 AD5.out hown3)
                     clear hown3 hgr3 hat3 kk3))
                all_goals
                  try go_simp
                  go_wp2_with fail
                  go_ret
                  exact R5.out.elim fun a' h => h.elim fun c' h => ⟨a', c', by first | exact congrArg Ending.returned h.1 | (have hq := congrArg Ending.returned h.1; simpa using hq), h.2⟩
              · have d2 : ((y.n : Int) == (x.n : Int)) = false := beq_eq_false_iff_ne.2 (by omega)
                have HM := Lib.hid (show m = l.take k ++ x :: l.drop k from by rw [← HM0.out, HR.out, if_neg (fun h => by obtain ⟨h, h2⟩ := h; rw [← HYL.out] at h2; exact hn2 h2.2)])
                clear hf hn2 HR
                go_upto_region 7 with fail
                refine wp_region_noPanic ?_
                refine wp_region_held_drew (S := (fun w' => w'.cell? ⟨W.heap.size, 0, none⟩ = some (.int .i64 x.f) ∧ w'.cell? ⟨W.heap.size, 1, none⟩ = some (.int .u64 (x.n : Int)) ∧ w'.cell? ⟨b', off', none⟩ = some (.int .i64 y.f) ∧ w'.cell? ⟨b', off' + 1, none⟩ = some (.int .u64 (y.n : Int)))) (by kernel_rfl) ?_ (fun hHeld => ?_)
                · exact ⟨x0, x1, y0, y1⟩
                refine wpAnyH_take (i := 0) (oi := { dst := some 33, op := Op.move (Operand.tmp 6), type := 40, pos := "ref.go:174", after := #[], guard := none }) (v := ?_) rfl (by kernel_rfl) (by kernel_rfl) (by kernel_rfl) (fun _ _ _ h => h) (Or.inl ⟨by rfl, ?_⟩) (by assumption) ?_
                rotate_left
                · (intro w hSw; (try dsimp only at hSw); go_simp; try with_reducible rfl)
                ((try simp only [Act.put]); (try simp only [List.setIfInBounds_toArray]); (try simp only [List.set_cons_succ]); (try simp only [List.set_cons_zero]))
                refine wpAnyH_take (i := 1) (oi := { dst := some 34, op := Op.call { callee := Callee.builtin Builtin.len, args := #[Operand.tmp 33], argTypes := #[40] }, type := 3, pos := "ref.go:174", after := #[{ on := 0, ground := Ground.data }], guard := none }) (v := ?_) rfl (by kernel_rfl) (by kernel_rfl) (by kernel_rfl) (fun _ _ _ h => h) (Or.inl ⟨by rfl, ?_⟩) (by assumption) ?_
                rotate_left
                · (intro w hSw; (try dsimp only at hSw); go_simp; try with_reducible rfl)
                ((try simp only [Act.put]); (try simp only [List.setIfInBounds_toArray]); (try simp only [List.set_cons_succ]); (try simp only [List.set_cons_zero]))
                refine wpAnyH_take (i := 2) (oi := { dst := some 35, op := Op.binOp BinOp.gtr 3 (Operand.tmp 34) (Operand.const (Value.int IntKind.i64 0)) 3, type := 4, pos := "ref.go:174", after := #[{ on := 1, ground := Ground.data }], guard := none }) (v := ?_) rfl (by kernel_rfl) (by kernel_rfl) (by kernel_rfl) (fun _ _ _ h => h) (Or.inl ⟨by rfl, ?_⟩) (by assumption) ?_
                rotate_left
                · (intro w hSw; (try dsimp only at hSw); go_simp; try with_reducible rfl)
                ((try simp only [Act.put]); (try simp only [List.setIfInBounds_toArray]); (try simp only [List.set_cons_succ]); (try simp only [List.set_cons_zero]))
                refine wpAnyH_take (i := 3) (oi := { dst := some 36, op := Op.move (Operand.tmp 35), type := 4, pos := "ref.go:174", after := #[{ on := 2, ground := Ground.data }], guard := none }) (v := ?_) rfl (by kernel_rfl) (by kernel_rfl) (by kernel_rfl) (fun _ _ _ h => h) (Or.inl ⟨by rfl, ?_⟩) (by assumption) ?_
                rotate_left
                · (intro w hSw; (try dsimp only at hSw); go_simp; try with_reducible rfl)
                ((try simp only [Act.put]); (try simp only [List.setIfInBounds_toArray]); (try simp only [List.set_cons_succ]); (try simp only [List.set_cons_zero]))
                refine wpAnyH_take (i := 4) (oi := { dst := some 37, op := Op.move (Operand.tmp 6), type := 40, pos := "ref.go:174", after := #[{ on := 3, ground := Ground.guard }], guard := some (3, true) }) (v := ?_) rfl (by kernel_rfl) (by kernel_rfl) (by kernel_rfl) (fun _ _ _ h => h) (Or.inl ⟨by rfl, ?_⟩) (by assumption) ?_
                rotate_left
                · (intro w hSw; (try dsimp only at hSw); go_simp; try with_reducible rfl)
                ((try simp only [Act.put]); (try simp only [List.setIfInBounds_toArray]); (try simp only [List.set_cons_succ]); (try simp only [List.set_cons_zero]))
                refine wpAnyH_take (i := 5) (oi := { dst := some 38, op := Op.indexAddr 40 (Operand.tmp 37) (Operand.const (Value.int IntKind.i64 0)), type := 0, pos := "ref.go:174", after := #[{ on := 4, ground := Ground.data }, { on := 3, ground := Ground.guard }], guard := some (3, true) }) (v := ?_) rfl (by kernel_rfl) (by kernel_rfl) (by kernel_rfl) (fun _ _ _ h => h) (Or.inl ⟨by rfl, ?_⟩) (by assumption) ?_
                rotate_left
                · (intro w hSw; (try dsimp only at hSw); go_simp; try with_reducible rfl)
                ((try simp only [Act.put]); (try simp only [List.setIfInBounds_toArray]); (try simp only [List.set_cons_succ]); (try simp only [List.set_cons_zero]))
                refine wpAnyH_take (i := 6) (oi := { dst := some 39, op := Op.fieldAddr 43 (Operand.tmp 38) 0, type := 0, pos := "ref.go:174", after := #[{ on := 5, ground := Ground.data }, { on := 3, ground := Ground.guard }], guard := some (3, true) }) (v := ?_) rfl (by kernel_rfl) (by kernel_rfl) (by kernel_rfl) (fun _ _ _ h => h) (Or.inl ⟨by rfl, ?_⟩) (by assumption) ?_
                rotate_left
                · (intro w hSw; (try dsimp only at hSw); go_simp; try with_reducible rfl)
                ((try simp only [Act.put]); (try simp only [List.setIfInBounds_toArray]); (try simp only [List.set_cons_succ]); (try simp only [List.set_cons_zero]))
                refine wpAnyH_take (i := 7) (oi := { dst := some 40, op := Op.load 3 (Operand.tmp 39), type := 3, pos := "ref.go:174", after := #[{ on := 6, ground := Ground.data }, { on := 3, ground := Ground.guard }], guard := some (3, true) }) (v := ?_) rfl (by kernel_rfl) (by kernel_rfl) (by kernel_rfl) (fun _ _ _ h => h) (Or.inl ⟨by rfl, ?_⟩) (by assumption) ?_
                rotate_left
                · (intro w hSw; (try dsimp only at hSw); go_simp; try with_reducible rfl)
                ((try simp only [Act.put]); (try simp only [List.setIfInBounds_toArray]); (try simp only [List.set_cons_succ]); (try simp only [List.set_cons_zero]))
                refine wpAnyH_take (i := 8) (oi := { dst := some 41, op := Op.fieldAddr 43 (Operand.tmp 3) 0, type := 0, pos := "ref.go:174", after := #[{ on := 3, ground := Ground.guard }], guard := some (3, true) }) (v := ?_) rfl (by kernel_rfl) (by kernel_rfl) (by kernel_rfl) (fun _ _ _ h => h) (Or.inl ⟨by rfl, ?_⟩) (by assumption) ?_
                rotate_left
                · (intro w hSw; (try dsimp only at hSw); go_simp; try with_reducible rfl)
                ((try simp only [Act.put]); (try simp only [List.setIfInBounds_toArray]); (try simp only [List.set_cons_succ]); (try simp only [List.set_cons_zero]))
                refine wpAnyH_take (i := 9) (oi := { dst := some 42, op := Op.load 3 (Operand.tmp 41), type := 3, pos := "ref.go:174", after := #[{ on := 8, ground := Ground.data }, { on := 3, ground := Ground.guard }], guard := some (3, true) }) (v := ?_) rfl (by kernel_rfl) (by kernel_rfl) (by kernel_rfl) (fun _ _ _ h => h) (Or.inl ⟨by rfl, ?_⟩) (by assumption) ?_
                rotate_left
                · (intro w hSw; (try dsimp only at hSw); go_simp; try with_reducible rfl)
                ((try simp only [Act.put]); (try simp only [List.setIfInBounds_toArray]); (try simp only [List.set_cons_succ]); (try simp only [List.set_cons_zero]))
                refine wpAnyH_take (i := 10) (oi := { dst := some 43, op := Op.binOp BinOp.eql 3 (Operand.tmp 40) (Operand.tmp 42) 3, type := 4, pos := "ref.go:174", after := #[{ on := 7, ground := Ground.data }, { on := 9, ground := Ground.data }, { on := 3, ground := Ground.guard }], guard := some (3, true) }) (v := ?_) rfl (by kernel_rfl) (by kernel_rfl) (by kernel_rfl) (fun _ _ _ h => h) (Or.inl ⟨by rfl, ?_⟩) (by assumption) ?_
                rotate_left
                · (intro w hSw; (try dsimp only at hSw); go_simp; try with_reducible rfl)
                ((try simp only [Act.put]); (try simp only [List.setIfInBounds_toArray]); (try simp only [List.set_cons_succ]); (try simp only [List.set_cons_zero]))
                refine wpAnyH_take (i := 11) (oi := { dst := some 44, op := Op.pick (Operand.tmp 36) (Operand.tmp 43) (Operand.const (Value.bool false)), type := 4, pos := "ref.go:174", after := #[{ on := 3, ground := Ground.data }, { on := 10, ground := Ground.data }], guard := none }) (v := ?_) rfl (by kernel_rfl) (by kernel_rfl) (by kernel_rfl) (fun _ _ _ h => h) (Or.inl ⟨by rfl, ?_⟩) (by assumption) ?_
                rotate_left
                · (intro w hSw; (try dsimp only at hSw); go_simp; try with_reducible rfl)
                ((try simp only [Act.put]); (try simp only [List.setIfInBounds_toArray]); (try simp only [List.set_cons_succ]); (try simp only [List.set_cons_zero]))
                refine wpAnyH_take (i := 12) (oi := { dst := some 45, op := Op.move (Operand.tmp 44), type := 4, pos := "ref.go:174", after := #[{ on := 11, ground := Ground.data }, { on := 3, ground := Ground.chain }], guard := none }) (v := ?_) rfl (by kernel_rfl) (by kernel_rfl) (by kernel_rfl) (fun _ _ _ h => h) (Or.inl ⟨by rfl, ?_⟩) (by assumption) ?_
                rotate_left
                · (intro w hSw; (try dsimp only at hSw); go_simp; try with_reducible rfl)
                ((try simp only [Act.put]); (try simp only [List.setIfInBounds_toArray]); (try simp only [List.set_cons_succ]); (try simp only [List.set_cons_zero]))
                refine wpAnyH_take (i := 13) (oi := { dst := some 46, op := Op.move (Operand.tmp 6), type := 40, pos := "ref.go:174", after := #[{ on := 12, ground := Ground.guard }], guard := some (12, true) }) (v := ?_) rfl (by kernel_rfl) (by kernel_rfl) (by kernel_rfl) (fun _ _ _ h => h) (Or.inl ⟨by rfl, ?_⟩) (by assumption) ?_
                rotate_left
                · (intro w hSw; (try dsimp only at hSw); go_simp; try with_reducible rfl)
                ((try simp only [Act.put]); (try simp only [List.setIfInBounds_toArray]); (try simp only [List.set_cons_succ]); (try simp only [List.set_cons_zero]))
                refine wpAnyH_take (i := 14) (oi := { dst := some 47, op := Op.indexAddr 40 (Operand.tmp 46) (Operand.const (Value.int IntKind.i64 0)), type := 0, pos := "ref.go:174", after := #[{ on := 13, ground := Ground.data }, { on := 12, ground := Ground.guard }], guard := some (12, true) }) (v := ?_) rfl (by kernel_rfl) (by kernel_rfl) (by kernel_rfl) (fun _ _ _ h => h) (Or.inl ⟨by rfl, ?_⟩) (by assumption) ?_
                rotate_left
                · (intro w hSw; (try dsimp only at hSw); go_simp; try with_reducible rfl)
                ((try simp only [Act.put]); (try simp only [List.setIfInBounds_toArray]); (try simp only [List.set_cons_succ]); (try simp only [List.set_cons_zero]))
                refine wpAnyH_take (i := 15) (oi := { dst := some 48, op := Op.fieldAddr 43 (Operand.tmp 47) 1, type := 0, pos := "ref.go:174", after := #[{ on := 14, ground := Ground.data }, { on := 12, ground := Ground.guard }], guard := some (12, true) }) (v := ?_) rfl (by kernel_rfl) (by kernel_rfl) (by kernel_rfl) (fun _ _ _ h => h) (Or.inl ⟨by rfl, ?_⟩) (by assumption) ?_
                rotate_left
                · (intro w hSw; (try dsimp only at hSw); go_simp; try with_reducible rfl)
                ((try simp only [Act.put]); (try simp only [List.setIfInBounds_toArray]); (try simp only [List.set_cons_succ]); (try simp only [List.set_cons_zero]))
                refine wpAnyH_take (i := 16) (oi := { dst := some 49, op := Op.load 23 (Operand.tmp 48), type := 23, pos := "ref.go:174", after := #[{ on := 15, ground := Ground.data }, { on := 12, ground := Ground.guard }], guard := some (12, true) }) (v := ?_) rfl (by kernel_rfl) (by kernel_rfl) (by kernel_rfl) (fun _ _ _ h => h) (Or.inl ⟨by rfl, ?_⟩) (by assumption) ?_
                rotate_left
                · (intro w hSw; (try dsimp only at hSw); go_simp; try with_reducible rfl)
                ((try simp only [Act.put]); (try simp only [List.setIfInBounds_toArray]); (try simp only [List.set_cons_succ]); (try simp only [List.set_cons_zero]))
                refine wpAnyH_take (i := 17) (oi := { dst := some 50, op := Op.fieldAddr 43 (Operand.tmp 3) 1, type := 0, pos := "ref.go:174", after := #[{ on := 12, ground := Ground.guard }], guard := some (12, true) }) (v := ?_) rfl (by kernel_rfl) (by kernel_rfl) (by kernel_rfl) (fun _ _ _ h => h) (Or.inl ⟨by rfl, ?_⟩) (by assumption) ?_
                rotate_left
                · (intro w hSw; (try dsimp only at hSw); go_simp; try with_reducible rfl)
                ((try simp only [Act.put]); (try simp only [List.setIfInBounds_toArray]); (try simp only [List.set_cons_succ]); (try simp only [List.set_cons_zero]))
                refine wpAnyH_take (i := 18) (oi := { dst := some 51, op := Op.load 23 (Operand.tmp 50), type := 23, pos := "ref.go:174", after := #[{ on := 17, ground := Ground.data }, { on := 12, ground := Ground.guard }], guard := some (12, true) }) (v := ?_) rfl (by kernel_rfl) (by kernel_rfl) (by kernel_rfl) (fun _ _ _ h => h) (Or.inl ⟨by rfl, ?_⟩) (by assumption) ?_
                rotate_left
                · (intro w hSw; (try dsimp only at hSw); go_simp; try with_reducible rfl)
                ((try simp only [Act.put]); (try simp only [List.setIfInBounds_toArray]); (try simp only [List.set_cons_succ]); (try simp only [List.set_cons_zero]))
                refine wpAnyH_take (i := 19) (oi := { dst := some 52, op := Op.binOp BinOp.eql 23 (Operand.tmp 49) (Operand.tmp 51) 23, type := 4, pos := "ref.go:174", after := #[{ on := 16, ground := Ground.data }, { on := 18, ground := Ground.data }, { on := 12, ground := Ground.guard }], guard := some (12, true) }) (v := ?_) rfl (by kernel_rfl) (by kernel_rfl) (by kernel_rfl) (fun _ _ _ h => h) (Or.inl ⟨by rfl, ?_⟩) (by assumption) ?_
                rotate_left
                · (intro w hSw; (try dsimp only at hSw); go_simp; try with_reducible rfl)
                ((try simp only [Act.put]); (try simp only [List.setIfInBounds_toArray]); (try simp only [List.set_cons_succ]); (try simp only [List.set_cons_zero]))
                refine wpAnyH_take (i := 20) (oi := { dst := some 53, op := Op.pick (Operand.tmp 45) (Operand.tmp 52) (Operand.const (Value.bool false)), type := 4, pos := "ref.go:174", after := #[{ on := 12, ground := Ground.data }, { on := 19, ground := Ground.data }], guard := none }) (v := ?_) rfl (by kernel_rfl) (by kernel_rfl) (by kernel_rfl) (fun _ _ _ h => h) (Or.inl ⟨by rfl, ?_⟩) (by assumption) ?_
                rotate_left
                · (intro w hSw; (try dsimp only at hSw); go_simp; try with_reducible rfl)
                ((try simp only [Act.put]); (try simp only [List.setIfInBounds_toArray]); (try simp only [List.set_cons_succ]); (try simp only [List.set_cons_zero]))
                refine wpAnyH_done (by kernel_rfl) ?_ _
                refine NoPanic.normal ?_
                skip
                clear hHeld
                have AD0 := Lib.hid (AG.out.below (drew_below wc))
                clear AG x0 x1 y0 y1
                generalize wc.drew = w0 at *
                go_upto_region 9 with fail
                have RNB := Lib.hid RN.out.2.1
                have SZ0 := Lib.hid AD0.out.u
                have OW1 := Lib.hid (show (w0.alloc (.cells #[] 43)).drew.ownsRow U.heap.size 43 3 (.slice (some ⟨w0.heap.size, 0, none⟩) 0 0) 0 [] from own_below (empty_row w0 43 SZ0.out) ((drew_below _).mono (by simp)))
                have OW2 := Lib.hid (show ((w0.alloc (.cells #[] 43)).alloc (.cells #[.int .i64 x.f, .int .u64 (x.n : Int), .int .u64 (x.t : Int)] 43)).drew.ownsRow U.heap.size 43 3 (.slice (some ⟨w0.heap.size, 0, none⟩) 0 0) 0 [] from own_below (own_below (empty_row w0 43 SZ0.out) (boxb _ (.cells #[.int .i64 x.f, .int .u64 (x.n : Int), .int .u64 (x.t : Int)] 43))) ((drew_below _).mono (by simp)))
                have OW3 := Lib.hid (show ((w0.alloc (.cells #[.int .i64 x.f, .int .u64 (x.n : Int), .int .u64 (x.t : Int)] 43)).alloc (.cells #[] 43)).drew.ownsRow U.heap.size 43 3 (.slice (some ⟨w0.heap.size + 1, 0, none⟩) 0 0) 0 [] from by
                  have h := own_below (empty_row (w0.alloc (.cells #[.int .i64 x.f, .int .u64 (x.n : Int), .int .u64 (x.t : Int)] 43)) 43 (Nat.le_trans SZ0.out (boxb w0 (.cells #[.int .i64 x.f, .int .u64 (x.n : Int), .int .u64 (x.t : Int)] 43)).size)) ((drew_below _).mono (by simp))
                  rw [show (w0.alloc (.cells #[.int .i64 x.f, .int .u64 (x.n : Int), .int .u64 (x.t : Int)] 43)).heap.size = w0.heap.size + 1 by simp] at h
                  exact h)
                have AD1 := Lib.hid (show AdS A W U (w0.alloc (.cells #[] 43)).drew x (some ⟨b, off, none⟩) cap n l (some ⟨b', off', none⟩) rc rn (l.drop k) from (AD0.out.below (boxb w0 (.cells #[] 43))).below ((drew_below _).mono (by simp)))
                have AD2 := Lib.hid (show AdS A W U ((w0.alloc (.cells #[] 43)).alloc (.cells #[.int .i64 x.f, .int .u64 (x.n : Int), .int .u64 (x.t : Int)] 43)).drew x (some ⟨b, off, none⟩) cap n l (some ⟨b', off', none⟩) rc rn (l.drop k) from ((AD0.out.below (boxb w0 (.cells #[] 43))).below (boxb _ (.cells #[.int .i64 x.f, .int .u64 (x.n : Int), .int .u64 (x.t : Int)] 43))).below ((drew_below _).mono (by simp)))
                have AD3 := Lib.hid (show AdS A W U ((w0.alloc (.cells #[.int .i64 x.f, .int .u64 (x.n : Int), .int .u64 (x.t : Int)] 43)).alloc (.cells #[] 43)).drew x (some ⟨b, off, none⟩) cap n l (some ⟨b', off', none⟩) rc rn (l.drop k) from ((AD0.out.below (boxb w0 (.cells #[.int .i64 x.f, .int .u64 (x.n : Int), .int .u64 (x.t : Int)] 43))).below (boxb _ (.cells #[] 43))).below ((drew_below _).mono (by simp)))
                have LX2 := Lib.hid (show LgAt (fun j => j = w0.heap.size + 1) ((w0.alloc (.cells #[] 43)).alloc (.cells #[.int .i64 x.f, .int .u64 (x.n : Int), .int .u64 (x.t : Int)] 43)).drew (some ⟨w0.heap.size + 1, 0, none⟩) 1 1 [x] from by
                  have h := (lit_ent (w0.alloc (.cells #[] 43)) x 43 OX.out).below ((drew_below _).mono (by simp))
                  rw [show (w0.alloc (.cells #[] 43)).heap.size = w0.heap.size + 1 by simp] at h
                  exact h)
                have LX3 := Lib.hid (show LgAt (fun j => j = w0.heap.size) ((w0.alloc (.cells #[.int .i64 x.f, .int .u64 (x.n : Int), .int .u64 (x.t : Int)] 43)).alloc (.cells #[] 43)).drew (some ⟨w0.heap.size, 0, none⟩) 1 1 [x] from ((lit_ent w0 x 43 OX.out).below (boxb _ (.cells #[] 43))).below ((drew_below _).mono (by simp)))
                have x0d : w0.drew.cell? ⟨W.heap.size, 0, none⟩ = some (.int .i64 x.f) := AD0.out.x.c 0 (by decide)
                have x1d : w0.drew.cell? ⟨W.heap.size, 1, none⟩ = some (.int .u64 (x.n : Int)) := AD0.out.x.c 1 (by decide)
                have x2d : w0.drew.cell? ⟨W.heap.size, 2, none⟩ = some (.int .u64 (x.t : Int)) := AD0.out.x.c 2 (by decide)
                have q0d : (w0.alloc (.cells #[] 43)).drew.cell? ⟨W.heap.size, 0, none⟩ = some (.int .i64 x.f) := AD1.out.x.c 0 (by decide)
                have q1d : (w0.alloc (.cells #[] 43)).drew.cell? ⟨W.heap.size, 1, none⟩ = some (.int .u64 (x.n : Int)) := AD1.out.x.c 1 (by decide)
                have q2d : (w0.alloc (.cells #[] 43)).drew.cell? ⟨W.heap.size, 2, none⟩ = some (.int .u64 (x.t : Int)) := AD1.out.x.c 2 (by decide)
                have kc0 : (0 : Int) ≤ (k : Int) := by omega
                have kc1 : (k : Int) ≤ (cap : Int) := by omega
                have LT := Lib.hid (show (lgC (l.take k)).length = k * 3 from by rw [lgC_len, List.length_take, LN.out, Nat.min_eq_left hk])
                have NL := Lib.hid (fun (w : World) (h : AdS A W U w x (some ⟨b, off, none⟩) cap n l (some ⟨b', off', none⟩) rc rn (l.drop k)) => (h.l.take k hk).row)
                have NR := Lib.hid (fun (w : World) (h : AdS A W U w x (some ⟨b, off, none⟩) cap n l (some ⟨b', off', none⟩) rc rn (l.drop k)) => h.r)
                have FIN := Lib.hid (fun (w3 : World) (a3 : Option Addr) (c3 : Nat) (hA : AdS A W U w3 x (some ⟨b, off, none⟩) cap n l (some ⟨b', off', none⟩) rc rn (l.drop k)) (ho : w3.ownsRow U.heap.size 43 3 (.slice a3 (0 + k + 1 + rn) c3) (0 + k + 1 + rn) ([] ++ lgC (l.take k) ++ xC x ++ lgC (l.drop k))) =>
                  show ∃ a' c', (.slice a3 (0 + k + 1 + rn) c3 : Value) = .slice a' m.length c' ∧ LgAt (NewL W A) w3 a' c' m.length m ∧ Below W.heap.size W w3 from by
                    have hlm : m.length = 0 + k + 1 + rn := by rw [HM.out, List.length_append, List.length_cons, List.length_take, LN.out, Nat.min_eq_left hk, hA.r.len]; omega
                    have hcm : lgC m = [] ++ lgC (l.take k) ++ xC x ++ lgC (l.drop k) := by rw [HM.out, lgC_append, lgC_cons]; simp [xC]
                    rw [hlm]
                    refine ⟨a3, c3, rfl, ?_, hA.b⟩
                    have hL : OwnLg 43 U.heap.size w3 (.slice a3 (0 + k + 1 + rn) c3) m := ⟨by rw [hlm, hcm]; exact ho, fun z hz => by
                      rw [HM.out] at hz
                      rcases List.mem_append.1 hz with hz | hz
                      · exact hA.l.ok z (List.mem_of_mem_take hz)
                      · rcases List.mem_cons.1 hz with rfl | hz
                        · exact OX.out
                        · exact hA.r.ok z hz⟩
                    exact (hL.at hlm).mono (fun j _ hj => Or.inr (by have := hA.hU; omega)))
                go_region_law (first
                  | (refine step_append_at rfl (.tmp 56) (.tmp 59) 40 rfl U.heap.size 43 ti (.agg #[.int .i64 0, .int .u64 0, .int .u64 0]) 3 24 Try.underlying40 hi0 hz0 hz1 hz2 rfl (by decide) (.slice (some ⟨w0.heap.size, 0, none⟩) 0 0) 0 [] (by simp [Act.eval]) OW1.out (some ⟨b, off, none⟩) k cap (lgC (l.take k)) (by simp [Act.eval]) LT.out (NL.out _ AD1.out).empty (NL.out _ AD1.out).news (lgC_one _) (by unfold maxLen; omega) (by omega) AD1.out.u ?_
                     intro a1 c1 w1 hown1 hgr1 hat1
                     have kk := keep_own (v := (.slice (some ⟨w0.heap.size, 0, none⟩) 0 0)) hgr1
                     have AD := Lib.hid (AD1.out.keep kk (fun j e => (OW1.out.lt j e).1))
                     have O1 := Lib.hid hown1
                     have p0 : w1.cell? ⟨W.heap.size, 0, none⟩ = some (.int .i64 x.f) := AD.out.x.c 0 (by decide)
                     have p1 : w1.cell? ⟨W.heap.size, 1, none⟩ = some (.int .u64 (x.n : Int)) := AD.out.x.c 1 (by decide)
                     have p2 : w1.cell? ⟨W.heap.size, 2, none⟩ = some (.int .u64 (x.t : Int)) := AD.out.x.c 2 (by decide)
                     clear hown1 hgr1 hat1 kk)
                  | (refine step_append_at rfl (.tmp 56) (.tmp 59) 40 rfl U.heap.size 43 ti (.agg #[.int .i64 0, .int .u64 0, .int .u64 0]) 3 24 Try.underlying40 hi0 hz0 hz1 hz2 rfl (by decide) (.slice (some ⟨w0.heap.size, 0, none⟩) 0 0) 0 [] (by simp [Act.eval]) OW2.out (some ⟨b, off, none⟩) k cap (lgC (l.take k)) (by simp [Act.eval]) LT.out (NL.out _ AD2.out).empty (NL.out _ AD2.out).news (lgC_one _) (by unfold maxLen; omega) (by omega) AD2.out.u ?_
                     intro a1 c1 w1 hown1 hgr1 hat1
                     have kk := keep_own (v := (.slice (some ⟨w0.heap.size, 0, none⟩) 0 0)) hgr1
                     have AD := Lib.hid (AD2.out.keep kk (fun j e => (OW2.out.lt j e).1))
                     have LX := Lib.hid (LX2.out.keep kk (fun j e e2 => by simp [Value.ownBlock] at e2; omega))
                     have O1 := Lib.hid hown1
                     have p0 : w1.cell? ⟨W.heap.size, 0, none⟩ = some (.int .i64 x.f) := AD.out.x.c 0 (by decide)
                     have p1 : w1.cell? ⟨W.heap.size, 1, none⟩ = some (.int .u64 (x.n : Int)) := AD.out.x.c 1 (by decide)
                     have p2 : w1.cell? ⟨W.heap.size, 2, none⟩ = some (.int .u64 (x.t : Int)) := AD.out.x.c 2 (by decide)
                     clear hown1 hgr1 hat1 kk)
                  | (refine step_append_at rfl (.tmp 56) (.tmp 59) 40 rfl U.heap.size 43 ti (.agg #[.int .i64 0, .int .u64 0, .int .u64 0]) 3 24 Try.underlying40 hi0 hz0 hz1 hz2 rfl (by decide) (.slice (some ⟨w0.heap.size + 1, 0, none⟩) 0 0) 0 [] (by simp [Act.eval]) OW3.out (some ⟨b, off, none⟩) k cap (lgC (l.take k)) (by simp [Act.eval]) LT.out (NL.out _ AD3.out).empty (NL.out _ AD3.out).news (lgC_one _) (by unfold maxLen; omega) (by omega) AD3.out.u ?_
                     intro a1 c1 w1 hown1 hgr1 hat1
                     have kk := keep_own (v := (.slice (some ⟨w0.heap.size + 1, 0, none⟩) 0 0)) hgr1
                     have AD := Lib.hid (AD3.out.keep kk (fun j e => (OW3.out.lt j e).1))
                     have LX := Lib.hid (LX3.out.keep kk (fun j e e2 => by simp [Value.ownBlock] at e2; omega))
                     have O1 := Lib.hid hown1
                     have p0 : w1.cell? ⟨W.heap.size, 0, none⟩ = some (.int .i64 x.f) := AD.out.x.c 0 (by decide)
                     have p1 : w1.cell? ⟨W.heap.size, 1, none⟩ = some (.int .u64 (x.n : Int)) := AD.out.x.c 1 (by decide)
                     have p2 : w1.cell? ⟨W.heap.size, 2, none⟩ = some (.int .u64 (x.t : Int)) := AD.out.x.c 2 (by decide)
                     clear hown1 hgr1 hat1 kk)
                  | (refine step_append_at rfl (.tmp 60) (.tmp 62) 40 rfl U.heap.size 43 ti (.agg #[.int .i64 0, .int .u64 0, .int .u64 0]) 3 24 Try.underlying40 hi0 hz0 hz1 hz2 rfl (by decide) (.slice a1 (0 + k) c1) (0 + k) ([] ++ lgC (l.take k)) (by simp [Act.eval]) O1.out (some ⟨w0.heap.size + 1, 0, none⟩) 1 1 (xC x) (by simp [Act.eval]) rfl (fun e => by cases e) (fun ad e j u hj => LX.out.row.news ad e j u (by simpa [lgC] using hj)) (xC_one x) (by unfold maxLen; omega) (by omega) AD.out.u ?_
                     intro a2 c2 w2 hown2 hgr2 hat2
                     have kk2 := keep_own (v := .slice a1 (0 + k) c1) hgr2
                     have AD4 := Lib.hid (AD.out.keep kk2 (fun j e => (O1.out.lt j e).1))
                     have O2 := Lib.hid hown2
                     clear hown2 hgr2 hat2 kk2)
                  | (refine step_append_at rfl (.tmp 60) (.tmp 62) 40 rfl U.heap.size 43 ti (.agg #[.int .i64 0, .int .u64 0, .int .u64 0]) 3 24 Try.underlying40 hi0 hz0 hz1 hz2 rfl (by decide) (.slice a1 (0 + k) c1) (0 + k) ([] ++ lgC (l.take k)) (by simp [Act.eval]) O1.out (some ⟨w0.heap.size, 0, none⟩) 1 1 (xC x) (by simp [Act.eval]) rfl (fun e => by cases e) (fun ad e j u hj => LX.out.row.news ad e j u (by simpa [lgC] using hj)) (xC_one x) (by unfold maxLen; omega) (by omega) AD.out.u ?_
                     intro a2 c2 w2 hown2 hgr2 hat2
                     have kk2 := keep_own (v := .slice a1 (0 + k) c1) hgr2
                     have AD4 := Lib.hid (AD.out.keep kk2 (fun j e => (O1.out.lt j e).1))
                     have O2 := Lib.hid hown2
                     clear hown2 hgr2 hat2 kk2)
                  | (refine step_append_at rfl (.tmp 60) (.tmp 62) 40 rfl U.heap.size 43 ti (.agg #[.int .i64 0, .int .u64 0, .int .u64 0]) 3 24 Try.underlying40 hi0 hz0 hz1 hz2 rfl (by decide) (.slice a1 (0 + k) c1) (0 + k) ([] ++ lgC (l.take k)) (by simp [Act.eval]) (own_below O1.out (boxb w1 (.cells #[.int .i64 x.f, .int .u64 (x.n : Int), .int .u64 (x.t : Int)] 43))) (some ⟨w1.heap.size, 0, none⟩) 1 1 (xC x) (by simp [Act.eval]) rfl (fun e => by cases e) (fun ad e j u hj => (lit_ent w1 x 43 OX.out).row.news ad e j u (by simpa [lgC] using hj)) (xC_one x) (by unfold maxLen; omega) (by omega) (AD.out.below (boxb w1 (.cells #[.int .i64 x.f, .int .u64 (x.n : Int), .int .u64 (x.t : Int)] 43))).u ?_
                     intro a2 c2 w2 hown2 hgr2 hat2
                     have kk2 := keep_own (v := .slice a1 (0 + k) c1) hgr2
                     have AD4 := Lib.hid ((AD.out.below (boxb w1 (.cells #[.int .i64 x.f, .int .u64 (x.n : Int), .int .u64 (x.t : Int)] 43))).keep kk2 (fun j e => (O1.out.lt j e).1))
                     have O2 := Lib.hid hown2
                     clear hown2 hgr2 hat2 kk2)
                  | (refine step_append_at rfl (.tmp 63) (.tmp 64) 40 rfl U.heap.size 43 ti (.agg #[.int .i64 0, .int .u64 0, .int .u64 0]) 3 24 Try.underlying40 hi0 hz0 hz1 hz2 rfl (by decide) (.slice a2 (0 + k + 1) c2) (0 + k + 1) ([] ++ lgC (l.take k) ++ xC x) (by simp [Act.eval]) O2.out (some ⟨b', off', none⟩) rn rc (lgC (l.drop k)) (by simp [Act.eval]) (by rw [lgC_len, (NR.out _ AD4.out).len]) (NR.out _ AD4.out).row.empty (NR.out _ AD4.out).row.news (lgC_one _) (by have := RNB.out; unfold maxLen; omega) (by have := RNB.out; omega) AD4.out.u ?_
                     intro a3 c3 w3 hown3 hgr3 hat3
                     have kk3 := keep_own (v := .slice a2 (0 + k + 1) c2) hgr3
                     have AD5 := Lib.hid (AD4.out.keep kk3 (fun j e => (O2.out.lt j e).1))
                     have R5 := Lib.hid (FIN.out w3 a3 c3 AD5.out hown3)
                     clear hown3 hgr3 hat3 kk3))
                all_goals
                  try go_simp
                  go_wp2_with fail
                  go_ret
                  exact R5.out.elim fun a' h => h.elim fun c' h => ⟨a', c', by first | exact congrArg Ending.returned h.1 | (have hq := congrArg Ending.returned h.1; simpa using hq), h.2⟩
            · have d1 : (y.f == x.f) = false := by simpa using hf
              have HM := Lib.hid (show m = l.take k ++ x :: l.drop k from by rw [← HM0.out, HR.out, if_neg (fun h => by obtain ⟨h, h2⟩ := h; rw [← HYL.out] at h2; exact hf h2.1)])
              clear hf HR
              go_upto_region 7 with fail
              refine wp_region_noPanic ?_
              refine wp_region_held_drew (S := (fun w' => w'.cell? ⟨W.heap.size, 0, none⟩ = some (.int .i64 x.f) ∧ w'.cell? ⟨W.heap.size, 1, none⟩ = some (.int .u64 (x.n : Int)) ∧ w'.cell? ⟨b', off', none⟩ = some (.int .i64 y.f) ∧ w'.cell? ⟨b', off' + 1, none⟩ = some (.int .u64 (y.n : Int)))) (by kernel_rfl) ?_ (fun hHeld => ?_)
              · exact ⟨x0, x1, y0, y1⟩
              refine wpAnyH_take (i := 0) (oi := { dst := some 33, op := Op.move (Operand.tmp 6), type := 40, pos := "ref.go:174", after := #[], guard := none }) (v := ?_) rfl (by kernel_rfl) (by kernel_rfl) (by kernel_rfl) (fun _ _ _ h => h) (Or.inl ⟨by rfl, ?_⟩) (by assumption) ?_
              rotate_left
              · (intro w hSw; (try dsimp only at hSw); go_simp; try with_reducible rfl)
              ((try simp only [Act.put]); (try simp only [List.setIfInBounds_toArray]); (try simp only [List.set_cons_succ]); (try simp only [List.set_cons_zero]))
              refine wpAnyH_take (i := 1) (oi := { dst := some 34, op := Op.call { callee := Callee.builtin Builtin.len, args := #[Operand.tmp 33], argTypes := #[40] }, type := 3, pos := "ref.go:174", after := #[{ on := 0, ground := Ground.data }], guard := none }) (v := ?_) rfl (by kernel_rfl) (by kernel_rfl) (by kernel_rfl) (fun _ _ _ h => h) (Or.inl ⟨by rfl, ?_⟩) (by assumption) ?_
              rotate_left
              · (intro w hSw; (try dsimp only at hSw); go_simp; try with_reducible rfl)
              ((try simp only [Act.put]); (try simp only [List.setIfInBounds_toArray]); (try simp only [List.set_cons_succ]); (try simp only [List.set_cons_zero]))
              refine wpAnyH_take (i := 2) (oi := { dst := some 35, op := Op.binOp BinOp.gtr 3 (Operand.tmp 34) (Operand.const (Value.int IntKind.i64 0)) 3, type := 4, pos := "ref.go:174", after := #[{ on := 1, ground := Ground.data }], guard := none }) (v := ?_) rfl (by kernel_rfl) (by kernel_rfl) (by kernel_rfl) (fun _ _ _ h => h) (Or.inl ⟨by rfl, ?_⟩) (by assumption) ?_
              rotate_left
              · (intro w hSw; (try dsimp only at hSw); go_simp; try with_reducible rfl)
              ((try simp only [Act.put]); (try simp only [List.setIfInBounds_toArray]); (try simp only [List.set_cons_succ]); (try simp only [List.set_cons_zero]))
              refine wpAnyH_take (i := 3) (oi := { dst := some 36, op := Op.move (Operand.tmp 35), type := 4, pos := "ref.go:174", after := #[{ on := 2, ground := Ground.data }], guard := none }) (v := ?_) rfl (by kernel_rfl) (by kernel_rfl) (by kernel_rfl) (fun _ _ _ h => h) (Or.inl ⟨by rfl, ?_⟩) (by assumption) ?_
              rotate_left
              · (intro w hSw; (try dsimp only at hSw); go_simp; try with_reducible rfl)
              ((try simp only [Act.put]); (try simp only [List.setIfInBounds_toArray]); (try simp only [List.set_cons_succ]); (try simp only [List.set_cons_zero]))
              refine wpAnyH_take (i := 4) (oi := { dst := some 37, op := Op.move (Operand.tmp 6), type := 40, pos := "ref.go:174", after := #[{ on := 3, ground := Ground.guard }], guard := some (3, true) }) (v := ?_) rfl (by kernel_rfl) (by kernel_rfl) (by kernel_rfl) (fun _ _ _ h => h) (Or.inl ⟨by rfl, ?_⟩) (by assumption) ?_
              rotate_left
              · (intro w hSw; (try dsimp only at hSw); go_simp; try with_reducible rfl)
              ((try simp only [Act.put]); (try simp only [List.setIfInBounds_toArray]); (try simp only [List.set_cons_succ]); (try simp only [List.set_cons_zero]))
              refine wpAnyH_take (i := 5) (oi := { dst := some 38, op := Op.indexAddr 40 (Operand.tmp 37) (Operand.const (Value.int IntKind.i64 0)), type := 0, pos := "ref.go:174", after := #[{ on := 4, ground := Ground.data }, { on := 3, ground := Ground.guard }], guard := some (3, true) }) (v := ?_) rfl (by kernel_rfl) (by kernel_rfl) (by kernel_rfl) (fun _ _ _ h => h) (Or.inl ⟨by rfl, ?_⟩) (by assumption) ?_
              rotate_left
              · (intro w hSw; (try dsimp only at hSw); go_simp; try with_reducible rfl)
              ((try simp only [Act.put]); (try simp only [List.setIfInBounds_toArray]); (try simp only [List.set_cons_succ]); (try simp only [List.set_cons_zero]))
              refine wpAnyH_take (i := 6) (oi := { dst := some 39, op := Op.fieldAddr 43 (Operand.tmp 38) 0, type := 0, pos := "ref.go:174", after := #[{ on := 5, ground := Ground.data }, { on := 3, ground := Ground.guard }], guard := some (3, true) }) (v := ?_) rfl (by kernel_rfl) (by kernel_rfl) (by kernel_rfl) (fun _ _ _ h => h) (Or.inl ⟨by rfl, ?_⟩) (by assumption) ?_
              rotate_left
              · (intro w hSw; (try dsimp only at hSw); go_simp; try with_reducible rfl)
              ((try simp only [Act.put]); (try simp only [List.setIfInBounds_toArray]); (try simp only [List.set_cons_succ]); (try simp only [List.set_cons_zero]))
              refine wpAnyH_take (i := 7) (oi := { dst := some 40, op := Op.load 3 (Operand.tmp 39), type := 3, pos := "ref.go:174", after := #[{ on := 6, ground := Ground.data }, { on := 3, ground := Ground.guard }], guard := some (3, true) }) (v := ?_) rfl (by kernel_rfl) (by kernel_rfl) (by kernel_rfl) (fun _ _ _ h => h) (Or.inl ⟨by rfl, ?_⟩) (by assumption) ?_
              rotate_left
              · (intro w hSw; (try dsimp only at hSw); go_simp; try with_reducible rfl)
              ((try simp only [Act.put]); (try simp only [List.setIfInBounds_toArray]); (try simp only [List.set_cons_succ]); (try simp only [List.set_cons_zero]))
              refine wpAnyH_take (i := 8) (oi := { dst := some 41, op := Op.fieldAddr 43 (Operand.tmp 3) 0, type := 0, pos := "ref.go:174", after := #[{ on := 3, ground := Ground.guard }], guard := some (3, true) }) (v := ?_) rfl (by kernel_rfl) (by kernel_rfl) (by kernel_rfl) (fun _ _ _ h => h) (Or.inl ⟨by rfl, ?_⟩) (by assumption) ?_
              rotate_left
              · (intro w hSw; (try dsimp only at hSw); go_simp; try with_reducible rfl)
              ((try simp only [Act.put]); (try simp only [List.setIfInBounds_toArray]); (try simp only [List.set_cons_succ]); (try simp only [List.set_cons_zero]))
              refine wpAnyH_take (i := 9) (oi := { dst := some 42, op := Op.load 3 (Operand.tmp 41), type := 3, pos := "ref.go:174", after := #[{ on := 8, ground := Ground.data }, { on := 3, ground := Ground.guard }], guard := some (3, true) }) (v := ?_) rfl (by kernel_rfl) (by kernel_rfl) (by kernel_rfl) (fun _ _ _ h => h) (Or.inl ⟨by rfl, ?_⟩) (by assumption) ?_
              rotate_left
              · (intro w hSw; (try dsimp only at hSw); go_simp; try with_reducible rfl)
              ((try simp only [Act.put]); (try simp only [List.setIfInBounds_toArray]); (try simp only [List.set_cons_succ]); (try simp only [List.set_cons_zero]))
              refine wpAnyH_take (i := 10) (oi := { dst := some 43, op := Op.binOp BinOp.eql 3 (Operand.tmp 40) (Operand.tmp 42) 3, type := 4, pos := "ref.go:174", after := #[{ on := 7, ground := Ground.data }, { on := 9, ground := Ground.data }, { on := 3, ground := Ground.guard }], guard := some (3, true) }) (v := ?_) rfl (by kernel_rfl) (by kernel_rfl) (by kernel_rfl) (fun _ _ _ h => h) (Or.inl ⟨by rfl, ?_⟩) (by assumption) ?_
              rotate_left
              · (intro w hSw; (try dsimp only at hSw); go_simp; try with_reducible rfl)
              ((try simp only [Act.put]); (try simp only [List.setIfInBounds_toArray]); (try simp only [List.set_cons_succ]); (try simp only [List.set_cons_zero]))
              refine wpAnyH_take (i := 11) (oi := { dst := some 44, op := Op.pick (Operand.tmp 36) (Operand.tmp 43) (Operand.const (Value.bool false)), type := 4, pos := "ref.go:174", after := #[{ on := 3, ground := Ground.data }, { on := 10, ground := Ground.data }], guard := none }) (v := ?_) rfl (by kernel_rfl) (by kernel_rfl) (by kernel_rfl) (fun _ _ _ h => h) (Or.inl ⟨by rfl, ?_⟩) (by assumption) ?_
              rotate_left
              · (intro w hSw; (try dsimp only at hSw); go_simp; try with_reducible rfl)
              ((try simp only [Act.put]); (try simp only [List.setIfInBounds_toArray]); (try simp only [List.set_cons_succ]); (try simp only [List.set_cons_zero]))
              refine wpAnyH_take (i := 12) (oi := { dst := some 45, op := Op.move (Operand.tmp 44), type := 4, pos := "ref.go:174", after := #[{ on := 11, ground := Ground.data }, { on := 3, ground := Ground.chain }], guard := none }) (v := ?_) rfl (by kernel_rfl) (by kernel_rfl) (by kernel_rfl) (fun _ _ _ h => h) (Or.inl ⟨by rfl, ?_⟩) (by assumption) ?_
              rotate_left
              · (intro w hSw; (try dsimp only at hSw); go_simp; try with_reducible rfl)
              ((try simp only [Act.put]); (try simp only [List.setIfInBounds_toArray]); (try simp only [List.set_cons_succ]); (try simp only [List.set_cons_zero]))
              refine wpAnyH_take (i := 13) (oi := { dst := some 46, op := Op.move (Operand.tmp 6), type := 40, pos := "ref.go:174", after := #[{ on := 12, ground := Ground.guard }], guard := some (12, true) }) (v := undef) rfl (by kernel_rfl) (by kernel_rfl) (by kernel_rfl) (fun _ _ _ h => h) (Or.inr ⟨by rfl, rfl⟩) (by assumption) ?_
              ((try simp only [Act.put]); (try simp only [List.setIfInBounds_toArray]); (try simp only [List.set_cons_succ]); (try simp only [List.set_cons_zero]))
              refine wpAnyH_take (i := 14) (oi := { dst := some 47, op := Op.indexAddr 40 (Operand.tmp 46) (Operand.const (Value.int IntKind.i64 0)), type := 0, pos := "ref.go:174", after := #[{ on := 13, ground := Ground.data }, { on := 12, ground := Ground.guard }], guard := some (12, true) }) (v := undef) rfl (by kernel_rfl) (by kernel_rfl) (by kernel_rfl) (fun _ _ _ h => h) (Or.inr ⟨by rfl, rfl⟩) (by assumption) ?_
              ((try simp only [Act.put]); (try simp only [List.setIfInBounds_toArray]); (try simp only [List.set_cons_succ]); (try simp only [List.set_cons_zero]))
              refine wpAnyH_take (i := 15) (oi := { dst := some 48, op := Op.fieldAddr 43 (Operand.tmp 47) 1, type := 0, pos := "ref.go:174", after := #[{ on := 14, ground := Ground.data }, { on := 12, ground := Ground.guard }], guard := some (12, true) }) (v := undef) rfl (by kernel_rfl) (by kernel_rfl) (by kernel_rfl) (fun _ _ _ h => h) (Or.inr ⟨by rfl, rfl⟩) (by assumption) ?_
              ((try simp only [Act.put]); (try simp only [List.setIfInBounds_toArray]); (try simp only [List.set_cons_succ]); (try simp only [List.set_cons_zero]))
              refine wpAnyH_take (i := 16) (oi := { dst := some 49, op := Op.load 23 (Operand.tmp 48), type := 23, pos := "ref.go:174", after := #[{ on := 15, ground := Ground.data }, { on := 12, ground := Ground.guard }], guard := some (12, true) }) (v := undef) rfl (by kernel_rfl) (by kernel_rfl) (by kernel_rfl) (fun _ _ _ h => h) (Or.inr ⟨by rfl, rfl⟩) (by assumption) ?_
              ((try simp only [Act.put]); (try simp only [List.setIfInBounds_toArray]); (try simp only [List.set_cons_succ]); (try simp only [List.set_cons_zero]))
              refine wpAnyH_take (i := 17) (oi := { dst := some 50, op := Op.fieldAddr 43 (Operand.tmp 3) 1, type := 0, pos := "ref.go:174", after := #[{ on := 12, ground := Ground.guard }], guard := some (12, true) }) (v := undef) rfl (by kernel_rfl) (by kernel_rfl) (by kernel_rfl) (fun _ _ _ h => h) (Or.inr ⟨by rfl, rfl⟩) (by assumption) ?_
              ((try simp only [Act.put]); (try simp only [List.setIfInBounds_toArray]); (try simp only [List.set_cons_succ]); (try simp only [List.set_cons_zero]))
              refine wpAnyH_take (i := 18) (oi := { dst := some 51, op := Op.load 23 (Operand.tmp 50), type := 23, pos := "ref.go:174", after := #[{ on := 17, ground := Ground.data }, { on := 12, ground := Ground.guard }], guard := some (12, true) }) (v := undef) rfl (by kernel_rfl) (by kernel_rfl) (by kernel_rfl) (fun _ _ _ h => h) (Or.inr ⟨by rfl, rfl⟩) (by assumption) ?_
              ((try simp only [Act.put]); (try simp only [List.setIfInBounds_toArray]); (try simp only [List.set_cons_succ]); (try simp only [List.set_cons_zero]))
              refine wpAnyH_take (i := 19) (oi := { dst := some 52, op := Op.binOp BinOp.eql 23 (Operand.tmp 49) (Operand.tmp 51) 23, type := 4, pos := "ref.go:174", after := #[{ on := 16, ground := Ground.data }, { on := 18, ground := Ground.data }, { on := 12, ground := Ground.guard }], guard := some (12, true) }) (v := undef) rfl (by kernel_rfl) (by kernel_rfl) (by kernel_rfl) (fun _ _ _ h => h) (Or.inr ⟨by rfl, rfl⟩) (by assumption) ?_
              ((try simp only [Act.put]); (try simp only [List.setIfInBounds_toArray]); (try simp only [List.set_cons_succ]); (try simp only [List.set_cons_zero]))
              refine wpAnyH_take (i := 20) (oi := { dst := some 53, op := Op.pick (Operand.tmp 45) (Operand.tmp 52) (Operand.const (Value.bool false)), type := 4, pos := "ref.go:174", after := #[{ on := 12, ground := Ground.data }, { on := 19, ground := Ground.data }], guard := none }) (v := ?_) rfl (by kernel_rfl) (by kernel_rfl) (by kernel_rfl) (fun _ _ _ h => h) (Or.inl ⟨by rfl, ?_⟩) (by assumption) ?_
              rotate_left
              · (intro w hSw; (try dsimp only at hSw); go_simp; try with_reducible rfl)
              ((try simp only [Act.put]); (try simp only [List.setIfInBounds_toArray]); (try simp only [List.set_cons_succ]); (try simp only [List.set_cons_zero]))
              refine wpAnyH_done (by kernel_rfl) ?_ _
              refine NoPanic.normal ?_
              skip
              clear hHeld
              have AD0 := Lib.hid (AG.out.below (drew_below wc))
              clear AG x0 x1 y0 y1
              generalize wc.drew = w0 at *
              go_upto_region 9 with fail
              have RNB := Lib.hid RN.out.2.1
              have SZ0 := Lib.hid AD0.out.u
              have OW1 := Lib.hid (show (w0.alloc (.cells #[] 43)).drew.ownsRow U.heap.size 43 3 (.slice (some ⟨w0.heap.size, 0, none⟩) 0 0) 0 [] from own_below (empty_row w0 43 SZ0.out) ((drew_below _).mono (by simp)))
              have OW2 := Lib.hid (show ((w0.alloc (.cells #[] 43)).alloc (.cells #[.int .i64 x.f, .int .u64 (x.n : Int), .int .u64 (x.t : Int)] 43)).drew.ownsRow U.heap.size 43 3 (.slice (some ⟨w0.heap.size, 0, none⟩) 0 0) 0 [] from own_below (own_below (empty_row w0 43 SZ0.out) (boxb _ (.cells #[.int .i64 x.f, .int .u64 (x.n : Int), .int .u64 (x.t : Int)] 43))) ((drew_below _).mono (by simp)))
              have OW3 := Lib.hid (show ((w0.alloc (.cells #[.int .i64 x.f, .int .u64 (x.n : Int), .int .u64 (x.t : Int)] 43)).alloc (.cells #[] 43)).drew.ownsRow U.heap.size 43 3 (.slice (some ⟨w0.heap.size + 1, 0, none⟩) 0 0) 0 [] from by
                have h := own_below (empty_row (w0.alloc (.cells #[.int .i64 x.f, .int .u64 (x.n : Int), .int .u64 (x.t : Int)] 43)) 43 (Nat.le_trans SZ0.out (boxb w0 (.cells #[.int .i64 x.f, .int .u64 (x.n : Int), .int .u64 (x.t : Int)] 43)).size)) ((drew_below _).mono (by simp))
                rw [show (w0.alloc (.cells #[.int .i64 x.f, .int .u64 (x.n : Int), .int .u64 (x.t : Int)] 43)).heap.size = w0.heap.size + 1 by simp] at h
                exact h)
              have AD1 := Lib.hid (show AdS A W U (w0.alloc (.cells #[] 43)).drew x (some ⟨b, off, none⟩) cap n l (some ⟨b', off', none⟩) rc rn (l.drop k) from (AD0.out.below (boxb w0 (.cells #[] 43))).below ((drew_below _).mono (by simp)))
              have AD2 := Lib.hid (show AdS A W U ((w0.alloc (.cells #[] 43)).alloc (.cells #[.int .i64 x.f, .int .u64 (x.n : Int), .int .u64 (x.t : Int)] 43)).drew x (some ⟨b, off, none⟩) cap n l (some ⟨b', off', none⟩) rc rn (l.drop k) from ((AD0.out.below (boxb w0 (.cells #[] 43))).below (boxb _ (.cells #[.int .i64 x.f, .int .u64 (x.n : Int), .int .u64 (x.t : Int)] 43))).below ((drew_below _).mono (by simp)))
              have AD3 := Lib.hid (show AdS A W U ((w0.alloc (.cells #[.int .i64 x.f, .int .u64 (x.n : Int), .int .u64 (x.t : Int)] 43)).alloc (.cells #[] 43)).drew x (some ⟨b, off, none⟩) cap n l (some ⟨b', off', none⟩) rc rn (l.drop k) from ((AD0.out.below (boxb w0 (.cells #[.int .i64 x.f, .int .u64 (x.n : Int), .int .u64 (x.t : Int)] 43))).below (boxb _ (.cells #[] 43))).below ((drew_below _).mono (by simp)))
              have LX2 := Lib.hid (show LgAt (fun j => j = w0.heap.size + 1) ((w0.alloc (.cells #[] 43)).alloc (.cells #[.int .i64 x.f, .int .u64 (x.n : Int), .int .u64 (x.t : Int)] 43)).drew (some ⟨w0.heap.size + 1, 0, none⟩) 1 1 [x] from by
                have h := (lit_ent (w0.alloc (.cells #[] 43)) x 43 OX.out).below ((drew_below _).mono (by simp))
                rw [show (w0.alloc (.cells #[] 43)).heap.size = w0.heap.size + 1 by simp] at h
                exact h)
              have LX3 := Lib.hid (show LgAt (fun j => j = w0.heap.size) ((w0.alloc (.cells #[.int .i64 x.f, .int .u64 (x.n : Int), .int .u64 (x.t : Int)] 43)).alloc (.cells #[] 43)).drew (some ⟨w0.heap.size, 0, none⟩) 1 1 [x] from ((lit_ent w0 x 43 OX.out).below (boxb _ (.cells #[] 43))).below ((drew_below _).mono (by simp)))
              have x0d : w0.drew.cell? ⟨W.heap.size, 0, none⟩ = some (.int .i64 x.f) := AD0.out.x.c 0 (by decide)
              have x1d : w0.drew.cell? ⟨W.heap.size, 1, none⟩ = some (.int .u64 (x.n : Int)) := AD0.out.x.c 1 (by decide)
              have x2d : w0.drew.cell? ⟨W.heap.size, 2, none⟩ = some (.int .u64 (x.t : Int)) := AD0.out.x.c 2 (by decide)
              have q0d : (w0.alloc (.cells #[] 43)).drew.cell? ⟨W.heap.size, 0, none⟩ = some (.int .i64 x.f) := AD1.out.x.c 0 (by decide)
              have q1d : (w0.alloc (.cells #[] 43)).drew.cell? ⟨W.heap.size, 1, none⟩ = some (.int .u64 (x.n : Int)) := AD1.out.x.c 1 (by decide)
              have q2d : (w0.alloc (.cells #[] 43)).drew.cell? ⟨W.heap.size, 2, none⟩ = some (.int .u64 (x.t : Int)) := AD1.out.x.c 2 (by decide)
              have kc0 : (0 : Int) ≤ (k : Int) := by omega
              have kc1 : (k : Int) ≤ (cap : Int) := by omega
              have LT := Lib.hid (show (lgC (l.take k)).length = k * 3 from by rw [lgC_len, List.length_take, LN.out, Nat.min_eq_left hk])
              have NL := Lib.hid (fun (w : World) (h : AdS A W U w x (some ⟨b, off, none⟩) cap n l (some ⟨b', off', none⟩) rc rn (l.drop k)) => (h.l.take k hk).row)
              have NR := Lib.hid (fun (w : World) (h : AdS A W U w x (some ⟨b, off, none⟩) cap n l (some ⟨b', off', none⟩) rc rn (l.drop k)) => h.r)
              have FIN := Lib.hid (fun (w3 : World) (a3 : Option Addr) (c3 : Nat) (hA : AdS A W U w3 x (some ⟨b, off, none⟩) cap n l (some ⟨b', off', none⟩) rc rn (l.drop k)) (ho : w3.ownsRow U.heap.size 43 3 (.slice a3 (0 + k + 1 + rn) c3) (0 + k + 1 + rn) ([] ++ lgC (l.take k) ++ xC x ++ lgC (l.drop k))) =>
                show ∃ a' c', (.slice a3 (0 + k + 1 + rn) c3 : Value) = .slice a' m.length c' ∧ LgAt (NewL W A) w3 a' c' m.length m ∧ Below W.heap.size W w3 from by
                  have hlm : m.length = 0 + k + 1 + rn := by rw [HM.out, List.length_append, List.length_cons, List.length_take, LN.out, Nat.min_eq_left hk, hA.r.len]; omega
                  have hcm : lgC m = [] ++ lgC (l.take k) ++ xC x ++ lgC (l.drop k) := by rw [HM.out, lgC_append, lgC_cons]; simp [xC]
                  rw [hlm]
                  refine ⟨a3, c3, rfl, ?_, hA.b⟩
                  have hL : OwnLg 43 U.heap.size w3 (.slice a3 (0 + k + 1 + rn) c3) m := ⟨by rw [hlm, hcm]; exact ho, fun z hz => by
                    rw [HM.out] at hz
                    rcases List.mem_append.1 hz with hz | hz
                    · exact hA.l.ok z (List.mem_of_mem_take hz)
                    · rcases List.mem_cons.1 hz with rfl | hz
                      · exact OX.out
                      · exact hA.r.ok z hz⟩
                  exact (hL.at hlm).mono (fun j _ hj => Or.inr (by have := hA.hU; omega)))
              go_region_law (first
                | (refine step_append_at rfl (.tmp 56) (.tmp 59) 40 rfl U.heap.size 43 ti (.agg #[.int .i64 0, .int .u64 0, .int .u64 0]) 3 24 Try.underlying40 hi0 hz0 hz1 hz2 rfl (by decide) (.slice (some ⟨w0.heap.size, 0, none⟩) 0 0) 0 [] (by simp [Act.eval]) OW1.out (some ⟨b, off, none⟩) k cap (lgC (l.take k)) (by simp [Act.eval]) LT.out (NL.out _ AD1.out).empty (NL.out _ AD1.out).news (lgC_one _) (by unfold maxLen; omega) (by omega) AD1.out.u ?_
                   intro a1 c1 w1 hown1 hgr1 hat1
                   have kk := keep_own (v := (.slice (some ⟨w0.heap.size, 0, none⟩) 0 0)) hgr1
                   have AD := Lib.hid (AD1.out.keep kk (fun j e => (OW1.out.lt j e).1))
                   have O1 := Lib.hid hown1
                   have p0 : w1.cell? ⟨W.heap.size, 0, none⟩ = some (.int .i64 x.f) := AD.out.x.c 0 (by decide)
                   have p1 : w1.cell? ⟨W.heap.size, 1, none⟩ = some (.int .u64 (x.n : Int)) := AD.out.x.c 1 (by decide)
                   have p2 : w1.cell? ⟨W.heap.size, 2, none⟩ = some (.int .u64 (x.t : Int)) := AD.out.x.c 2 (by decide)
                   clear hown1 hgr1 hat1 kk)
                | (refine step_append_at rfl (.tmp 56) (.tmp 59) 40 rfl U.heap.size 43 ti (.agg #[.int .i64 0, .int .u64 0, .int .u64 0]) 3 24 Try.underlying40 hi0 hz0 hz1 hz2 rfl (by decide) (.slice (some ⟨w0.heap.size, 0, none⟩) 0 0) 0 [] (by simp [Act.eval]) OW2.out (some ⟨b, off, none⟩) k cap (lgC (l.take k)) (by simp [Act.eval]) LT.out (NL.out _ AD2.out).empty (NL.out _ AD2.out).news (lgC_one _) (by unfold maxLen; omega) (by omega) AD2.out.u ?_
                   intro a1 c1 w1 hown1 hgr1 hat1
                   have kk := keep_own (v := (.slice (some ⟨w0.heap.size, 0, none⟩) 0 0)) hgr1
                   have AD := Lib.hid (AD2.out.keep kk (fun j e => (OW2.out.lt j e).1))
                   have LX := Lib.hid (LX2.out.keep kk (fun j e e2 => by simp [Value.ownBlock] at e2; omega))
                   have O1 := Lib.hid hown1
                   have p0 : w1.cell? ⟨W.heap.size, 0, none⟩ = some (.int .i64 x.f) := AD.out.x.c 0 (by decide)
                   have p1 : w1.cell? ⟨W.heap.size, 1, none⟩ = some (.int .u64 (x.n : Int)) := AD.out.x.c 1 (by decide)
                   have p2 : w1.cell? ⟨W.heap.size, 2, none⟩ = some (.int .u64 (x.t : Int)) := AD.out.x.c 2 (by decide)
                   clear hown1 hgr1 hat1 kk)
                | (refine step_append_at rfl (.tmp 56) (.tmp 59) 40 rfl U.heap.size 43 ti (.agg #[.int .i64 0, .int .u64 0, .int .u64 0]) 3 24 Try.underlying40 hi0 hz0 hz1 hz2 rfl (by decide) (.slice (some ⟨w0.heap.size + 1, 0, none⟩) 0 0) 0 [] (by simp [Act.eval]) OW3.out (some ⟨b, off, none⟩) k cap (lgC (l.take k)) (by simp [Act.eval]) LT.out (NL.out _ AD3.out).empty (NL.out _ AD3.out).news (lgC_one _) (by unfold maxLen; omega) (by omega) AD3.out.u ?_
                   intro a1 c1 w1 hown1 hgr1 hat1
                   have kk := keep_own (v := (.slice (some ⟨w0.heap.size + 1, 0, none⟩) 0 0)) hgr1
                   have AD := Lib.hid (AD3.out.keep kk (fun j e => (OW3.out.lt j e).1))
                   have LX := Lib.hid (LX3.out.keep kk (fun j e e2 => by simp [Value.ownBlock] at e2; omega))
                   have O1 := Lib.hid hown1
                   have p0 : w1.cell? ⟨W.heap.size, 0, none⟩ = some (.int .i64 x.f) := AD.out.x.c 0 (by decide)
                   have p1 : w1.cell? ⟨W.heap.size, 1, none⟩ = some (.int .u64 (x.n : Int)) := AD.out.x.c 1 (by decide)
                   have p2 : w1.cell? ⟨W.heap.size, 2, none⟩ = some (.int .u64 (x.t : Int)) := AD.out.x.c 2 (by decide)
                   clear hown1 hgr1 hat1 kk)
                | (refine step_append_at rfl (.tmp 60) (.tmp 62) 40 rfl U.heap.size 43 ti (.agg #[.int .i64 0, .int .u64 0, .int .u64 0]) 3 24 Try.underlying40 hi0 hz0 hz1 hz2 rfl (by decide) (.slice a1 (0 + k) c1) (0 + k) ([] ++ lgC (l.take k)) (by simp [Act.eval]) O1.out (some ⟨w0.heap.size + 1, 0, none⟩) 1 1 (xC x) (by simp [Act.eval]) rfl (fun e => by cases e) (fun ad e j u hj => LX.out.row.news ad e j u (by simpa [lgC] using hj)) (xC_one x) (by unfold maxLen; omega) (by omega) AD.out.u ?_
                   intro a2 c2 w2 hown2 hgr2 hat2
                   have kk2 := keep_own (v := .slice a1 (0 + k) c1) hgr2
                   have AD4 := Lib.hid (AD.out.keep kk2 (fun j e => (O1.out.lt j e).1))
                   have O2 := Lib.hid hown2
                   clear hown2 hgr2 hat2 kk2)
                | (refine step_append_at rfl (.tmp 60) (.tmp 62) 40 rfl U.heap.size 43 ti (.agg #[.int .i64 0, .int .u64 0, .int .u64 0]) 3 24 Try.underlying40 hi0 hz0 hz1 hz2 rfl (by decide) (.slice a1 (0 + k) c1) (0 + k) ([] ++ lgC (l.take k)) (by simp [Act.eval]) O1.out (some ⟨w0.heap.size, 0, none⟩) 1 1 (xC x) (by simp [Act.eval]) rfl (fun e => by cases e) (fun ad e j u hj => LX.out.row.news ad e j u (by simpa [lgC] using hj)) (xC_one x) (by unfold maxLen; omega) (by omega) AD.out.u ?_
                   intro a2 c2 w2 hown2 hgr2 hat2
                   have kk2 := keep_own (v := .slice a1 (0 + k) c1) hgr2
                   have AD4 := Lib.hid (AD.out.keep kk2 (fun j e => (O1.out.lt j e).1))
                   have O2 := Lib.hid hown2
                   clear hown2 hgr2 hat2 kk2)
                | (refine step_append_at rfl (.tmp 60) (.tmp 62) 40 rfl U.heap.size 43 ti (.agg #[.int .i64 0, .int .u64 0, .int .u64 0]) 3 24 Try.underlying40 hi0 hz0 hz1 hz2 rfl (by decide) (.slice a1 (0 + k) c1) (0 + k) ([] ++ lgC (l.take k)) (by simp [Act.eval]) (own_below O1.out (boxb w1 (.cells #[.int .i64 x.f, .int .u64 (x.n : Int), .int .u64 (x.t : Int)] 43))) (some ⟨w1.heap.size, 0, none⟩) 1 1 (xC x) (by simp [Act.eval]) rfl (fun e => by cases e) (fun ad e j u hj => (lit_ent w1 x 43 OX.out).row.news ad e j u (by simpa [lgC] using hj)) (xC_one x) (by unfold maxLen; omega) (by omega) (AD.out.below (boxb w1 (.cells #[.int .i64 x.f, .int .u64 (x.n : Int), .int .u64 (x.t : Int)] 43))).u ?_
                   intro a2 c2 w2 hown2 hgr2 hat2
                   have kk2 := keep_own (v := .slice a1 (0 + k) c1) hgr2
                   have AD4 := Lib.hid ((AD.out.below (boxb w1 (.cells #[.int .i64 x.f, .int .u64 (x.n : Int), .int .u64 (x.t : Int)] 43))).keep kk2 (fun j e => (O1.out.lt j e).1))
                   have O2 := Lib.hid hown2
                   clear hown2 hgr2 hat2 kk2)
                | (refine step_append_at rfl (.tmp 63) (.tmp 64) 40 rfl U.heap.size 43 ti (.agg #[.int .i64 0, .int .u64 0, .int .u64 0]) 3 24 Try.underlying40 hi0 hz0 hz1 hz2 rfl (by decide) (.slice a2 (0 + k + 1) c2) (0 + k + 1) ([] ++ lgC (l.take k) ++ xC x) (by simp [Act.eval]) O2.out (some ⟨b', off', none⟩) rn rc (lgC (l.drop k)) (by simp [Act.eval]) (by rw [lgC_len, (NR.out _ AD4.out).len]) (NR.out _ AD4.out).row.empty (NR.out _ AD4.out).row.news (lgC_one _) (by have := RNB.out; unfold maxLen; omega) (by have := RNB.out; omega) AD4.out.u ?_
                   intro a3 c3 w3 hown3 hgr3 hat3
                   have kk3 := keep_own (v := .slice a2 (0 + k + 1) c2) hgr3
                   have AD5 := Lib.hid (AD4.out.keep kk3 (fun j e => (O2.out.lt j e).1))
                   have R5 := Lib.hid (FIN.out w3 a3 c3 AD5.out hown3)
                   clear hown3 hgr3 hat3 kk3))
              all_goals
                try go_simp
                go_wp2_with fail
                go_ret
                exact R5.out.elim fun a' h => h.elim fun c' h => ⟨a', c', by first | exact congrArg Ending.returned h.1 | (have hq := congrArg Ending.returned h.1; simpa using hq), h.2⟩
          · go_upto_region 4 with fail
            refine wp_region_noPanic ?_
            refine wp_region_held_drew (S := (fun w' => w'.cell? ⟨W.heap.size, 0, none⟩ = some (.int .i64 x.f) ∧ w'.cell? ⟨W.heap.size, 1, none⟩ = some (.int .u64 (x.n : Int)) ∧ w'.cell? ⟨W.heap.size, 2, none⟩ = some (.int .u64 (x.t : Int)) ∧ w'.cell? ⟨b, off + k * 3, none⟩ = some (.int .i64 y.f) ∧ w'.cell? ⟨b, off + k * 3 + 1, none⟩ = some (.int .u64 (y.n : Int)) ∧ w'.cell? ⟨b, off + k * 3 + 2, none⟩ = some (.int .u64 (y.t : Int)) ∧ Hid (Below wr.heap.size wr w'))) (by kernel_rfl) ?_ (fun hHeld => ?_)
            · exact ⟨x0, x1, x2, y0, y1, y2, Lib.hid (drew_below wr)⟩
            refine wpAnyH_take (i := 0) (oi := { dst := some 16, op := Op.move (Operand.tmp 5), type := 3, pos := "ref.go:170", after := #[], guard := none }) (v := ?_) rfl (by kernel_rfl) (by kernel_rfl) (by kernel_rfl) (fun _ _ _ h => h) (Or.inl ⟨by rfl, ?_⟩) (by assumption) ?_
            rotate_left
            · (intro w hSw; (try dsimp only at hSw); go_simp; try with_reducible rfl)
            ((try simp only [Act.put]); (try simp only [List.setIfInBounds_toArray]); (try simp only [List.set_cons_succ]); (try simp only [List.set_cons_zero]))
            refine wpAnyH_take (i := 1) (oi := { dst := some 17, op := Op.move (Operand.tmp 0), type := 40, pos := "ref.go:170", after := #[], guard := none }) (v := ?_) rfl (by kernel_rfl) (by kernel_rfl) (by kernel_rfl) (fun _ _ _ h => h) (Or.inl ⟨by rfl, ?_⟩) (by assumption) ?_
            rotate_left
            · (intro w hSw; (try dsimp only at hSw); go_simp; try with_reducible rfl)
            ((try simp only [Act.put]); (try simp only [List.setIfInBounds_toArray]); (try simp only [List.set_cons_succ]); (try simp only [List.set_cons_zero]))
            refine wpAnyH_take (i := 2) (oi := { dst := some 18, op := Op.call { callee := Callee.builtin Builtin.len, args := #[Operand.tmp 17], argTypes := #[40] }, type := 3, pos := "ref.go:170", after := #[{ on := 1, ground := Ground.data }], guard := none }) (v := ?_) rfl (by kernel_rfl) (by kernel_rfl) (by kernel_rfl) (fun _ _ _ h => h) (Or.inl ⟨by rfl, ?_⟩) (by assumption) ?_
            rotate_left
            · (intro w hSw; (try dsimp only at hSw); go_simp; try with_reducible rfl)
            ((try simp only [Act.put]); (try simp only [List.setIfInBounds_toArray]); (try simp only [List.set_cons_succ]); (try simp only [List.set_cons_zero]))
            refine wpAnyH_take (i := 3) (oi := { dst := some 19, op := Op.binOp BinOp.lss 3 (Operand.tmp 16) (Operand.tmp 18) 3, type := 4, pos := "ref.go:170", after := #[{ on := 0, ground := Ground.data }, { on := 2, ground := Ground.data }], guard := none }) (v := ?_) rfl (by kernel_rfl) (by kernel_rfl) (by kernel_rfl) (fun _ _ _ h => h) (Or.inl ⟨by rfl, ?_⟩) (by assumption) ?_
            rotate_left
            · (intro w hSw; (try dsimp only at hSw); go_simp; try with_reducible rfl)
            ((try simp only [Act.put]); (try simp only [List.setIfInBounds_toArray]); (try simp only [List.set_cons_succ]); (try simp only [List.set_cons_zero]))
            refine wpAnyH_take (i := 4) (oi := { dst := some 20, op := Op.move (Operand.tmp 19), type := 4, pos := "ref.go:170", after := #[{ on := 3, ground := Ground.data }], guard := none }) (v := ?_) rfl (by kernel_rfl) (by kernel_rfl) (by kernel_rfl) (fun _ _ _ h => h) (Or.inl ⟨by rfl, ?_⟩) (by assumption) ?_
            rotate_left
            · (intro w hSw; (try dsimp only at hSw); go_simp; try with_reducible rfl)
            ((try simp only [Act.put]); (try simp only [List.setIfInBounds_toArray]); (try simp only [List.set_cons_succ]); (try simp only [List.set_cons_zero]))
            refine wpAnyH_take (i := 5) (oi := { dst := some 21, op := Op.move (Operand.tmp 0), type := 40, pos := "ref.go:170", after := #[{ on := 4, ground := Ground.guard }], guard := some (4, true) }) (v := ?_) rfl (by kernel_rfl) (by kernel_rfl) (by kernel_rfl) (fun _ _ _ h => h) (Or.inl ⟨by rfl, ?_⟩) (by assumption) ?_
            rotate_left
            · (intro w hSw; (try dsimp only at hSw); go_simp; try with_reducible rfl)
            ((try simp only [Act.put]); (try simp only [List.setIfInBounds_toArray]); (try simp only [List.set_cons_succ]); (try simp only [List.set_cons_zero]))
            refine wpAnyH_take (i := 6) (oi := { dst := some 22, op := Op.move (Operand.tmp 5), type := 3, pos := "ref.go:170", after := #[{ on := 4, ground := Ground.guard }], guard := some (4, true) }) (v := ?_) rfl (by kernel_rfl) (by kernel_rfl) (by kernel_rfl) (fun _ _ _ h => h) (Or.inl ⟨by rfl, ?_⟩) (by assumption) ?_
            rotate_left
            · (intro w hSw; (try dsimp only at hSw); go_simp; try with_reducible rfl)
            ((try simp only [Act.put]); (try simp only [List.setIfInBounds_toArray]); (try simp only [List.set_cons_succ]); (try simp only [List.set_cons_zero]))
            refine wpAnyH_take (i := 7) (oi := { dst := some 23, op := Op.indexAddr 40 (Operand.tmp 21) (Operand.tmp 22), type := 0, pos := "ref.go:170", after := #[{ on := 5, ground := Ground.data }, { on := 6, ground := Ground.data }, { on := 4, ground := Ground.guard }], guard := some (4, true) }) (v := ?_) rfl (by kernel_rfl) (by kernel_rfl) (by kernel_rfl) (fun _ _ _ h => h) (Or.inl ⟨by rfl, ?_⟩) (by assumption) ?_
            rotate_left
            · (intro w hSw; (try dsimp only at hSw); go_simp; try with_reducible rfl)
            ((try simp only [Act.put]); (try simp only [List.setIfInBounds_toArray]); (try simp only [List.set_cons_succ]); (try simp only [List.set_cons_zero]))
            refine wpAnyH_take (i := 8) (oi := { dst := some 24, op := Op.load 43 (Operand.tmp 23), type := 43, pos := "ref.go:170", after := #[{ on := 7, ground := Ground.data }, { on := 4, ground := Ground.guard }], guard := some (4, true) }) (v := ?_) rfl (by kernel_rfl) (by kernel_rfl) (by kernel_rfl) (fun _ _ _ h => h) (Or.inl ⟨by rfl, ?_⟩) (by assumption) ?_
            rotate_left
            · (intro w hSw; (try dsimp only at hSw); go_simp; try with_reducible rfl)
            ((try simp only [Act.put]); (try simp only [List.setIfInBounds_toArray]); (try simp only [List.set_cons_succ]); (try simp only [List.set_cons_zero]))
            refine wpAnyH_take (i := 9) (oi := { dst := some 25, op := Op.load 43 (Operand.tmp 3), type := 43, pos := "ref.go:170", after := #[{ on := 4, ground := Ground.guard }], guard := some (4, true) }) (v := ?_) rfl (by kernel_rfl) (by kernel_rfl) (by kernel_rfl) (fun _ _ _ h => h) (Or.inl ⟨by rfl, ?_⟩) (by assumption) ?_
            rotate_left
            · (intro w hSw; (try dsimp only at hSw); go_simp; try with_reducible rfl)
            ((try simp only [Act.put]); (try simp only [List.setIfInBounds_toArray]); (try simp only [List.set_cons_succ]); (try simp only [List.set_cons_zero]))
            refine wpAnyH_ready (rs := [10]) (by kernel_rfl) (by simp) ?_
            refine AllReadyH.cons (o := { dst := some 26, op := Op.call { callee := Callee.value (Operand.func 49), args := #[Operand.tmp 24, Operand.tmp 25], argTypes := #[43, 43] }, type := 4, pos := "ref.go:170", after := #[{ on := 8, ground := Ground.data }, { on := 9, ground := Ground.data }, { on := 4, ground := Ground.chain }, { on := 4, ground := Ground.guard }], guard := some (4, true) }) rfl (fun K hK => ?_) AllReadyH.nil
            go_simp
            refine (rahead_any (x := y) (y := x) HA.out).mono ?_
            rintro e1 w3 ⟨rfl, hb⟩
            try go_wp2_with fail
            refine hK.out _ _ ?_ (fun hNew => ?_)
            · first | exact hHeld | exact ⟨cell_go hHeld.1 hb, cell_go hHeld.2.1 hb, cell_go hHeld.2.2.1 hb, cell_go hHeld.2.2.2.1 hb, cell_go hHeld.2.2.2.2.1 hb, cell_go hHeld.2.2.2.2.2.1 hb, Lib.hid ((Hid.out hHeld.2.2.2.2.2.2).trans (hb.mono (Hid.out hHeld.2.2.2.2.2.2).size))⟩
            clear hK K
            replace hHeld := hNew
            clear hNew
            ((try simp only [Act.put]); (try simp only [List.setIfInBounds_toArray]); (try simp only [List.set_cons_succ]); (try simp only [List.set_cons_zero]))
            refine wpAnyH_take (i := 11) (oi := { dst := some 27, op := Op.pick (Operand.tmp 20) (Operand.tmp 26) (Operand.const (Value.bool false)), type := 4, pos := "ref.go:170", after := #[{ on := 4, ground := Ground.data }, { on := 10, ground := Ground.data }], guard := none }) (v := ?_) rfl (by kernel_rfl) (by kernel_rfl) (by kernel_rfl) (fun _ _ _ h => h) (Or.inl ⟨by rfl, ?_⟩) (by assumption) ?_
            rotate_left
            · (intro w hSw; (try dsimp only at hSw); go_simp; try with_reducible rfl)
            ((try simp only [Act.put]); (try simp only [List.setIfInBounds_toArray]); (try simp only [List.set_cons_succ]); (try simp only [List.set_cons_zero]))
            refine wpAnyH_done (by kernel_rfl) ?_ _
            refine NoPanic.normal ?_
            skip
            have AN := Lib.hid (AK.out.below (Hid.out hHeld.2.2.2.2.2.2))
            have AH1 := Lib.hid (show ∀ j, (h : j < k + 1) → aheadX (l.getD j default) x = true from fun j h => by
              by_cases e : j = k
              · subst e; rw [← HY.out]; exact HA.out
              · exact AH.out j (by omega))
            clear hHeld
            go_wp2_with fail
            go_roundw
            case rel => exact ⟨k + 1, by omega, by go_num, AH1.out, AN.out⟩
            case measure => simp only [intOf]; omega
        · obtain rfl : k = n := by omega
          have d0 : decide ((k : Int) < (k : Int)) = false := decide_eq_false (by omega)
          have HM := Lib.hid (show m = l.take k ++ x :: [] from by
            rw [← HM0.out, add_at (k := k) HG.out HX.out (Nat.le_of_eq LN.out.symm) (fun i h => by have := AH.out i h; rwa [getD_at (by rw [LN.out]; exact h)] at this) (fun h => by rw [LN.out] at h; omega)]
            rw [if_neg (fun h => by obtain ⟨h, -⟩ := h; rw [LN.out] at h; omega), List.drop_eq_nil_of_le (by rw [LN.out]; exact Nat.le_refl _)])
          go_upto_region 4 with fail
          refine wp_region_noPanic ?_
          refine wp_region_held_drew (S := (fun w' => w'.cell? ⟨W.heap.size, 0, none⟩ = some (.int .i64 x.f) ∧ w'.cell? ⟨W.heap.size, 1, none⟩ = some (.int .u64 (x.n : Int)) ∧ w'.cell? ⟨W.heap.size, 2, none⟩ = some (.int .u64 (x.t : Int)))) (by kernel_rfl) ?_ (fun hHeld => ?_)
          · exact ⟨x0, x1, x2⟩
          refine wpAnyH_take (i := 0) (oi := { dst := some 16, op := Op.move (Operand.tmp 5), type := 3, pos := "ref.go:170", after := #[], guard := none }) (v := ?_) rfl (by kernel_rfl) (by kernel_rfl) (by kernel_rfl) (fun _ _ _ h => h) (Or.inl ⟨by rfl, ?_⟩) (by assumption) ?_
          rotate_left
          · (intro w hSw; (try dsimp only at hSw); go_simp; try with_reducible rfl)
          ((try simp only [Act.put]); (try simp only [List.setIfInBounds_toArray]); (try simp only [List.set_cons_succ]); (try simp only [List.set_cons_zero]))
          refine wpAnyH_take (i := 1) (oi := { dst := some 17, op := Op.move (Operand.tmp 0), type := 40, pos := "ref.go:170", after := #[], guard := none }) (v := ?_) rfl (by kernel_rfl) (by kernel_rfl) (by kernel_rfl) (fun _ _ _ h => h) (Or.inl ⟨by rfl, ?_⟩) (by assumption) ?_
          rotate_left
          · (intro w hSw; (try dsimp only at hSw); go_simp; try with_reducible rfl)
          ((try simp only [Act.put]); (try simp only [List.setIfInBounds_toArray]); (try simp only [List.set_cons_succ]); (try simp only [List.set_cons_zero]))
          refine wpAnyH_take (i := 2) (oi := { dst := some 18, op := Op.call { callee := Callee.builtin Builtin.len, args := #[Operand.tmp 17], argTypes := #[40] }, type := 3, pos := "ref.go:170", after := #[{ on := 1, ground := Ground.data }], guard := none }) (v := ?_) rfl (by kernel_rfl) (by kernel_rfl) (by kernel_rfl) (fun _ _ _ h => h) (Or.inl ⟨by rfl, ?_⟩) (by assumption) ?_
          rotate_left
          · (intro w hSw; (try dsimp only at hSw); go_simp; try with_reducible rfl)
          ((try simp only [Act.put]); (try simp only [List.setIfInBounds_toArray]); (try simp only [List.set_cons_succ]); (try simp only [List.set_cons_zero]))
          refine wpAnyH_take (i := 3) (oi := { dst := some 19, op := Op.binOp BinOp.lss 3 (Operand.tmp 16) (Operand.tmp 18) 3, type := 4, pos := "ref.go:170", after := #[{ on := 0, ground := Ground.data }, { on := 2, ground := Ground.data }], guard := none }) (v := ?_) rfl (by kernel_rfl) (by kernel_rfl) (by kernel_rfl) (fun _ _ _ h => h) (Or.inl ⟨by rfl, ?_⟩) (by assumption) ?_
          rotate_left
          · (intro w hSw; (try dsimp only at hSw); go_simp; try with_reducible rfl)
          ((try simp only [Act.put]); (try simp only [List.setIfInBounds_toArray]); (try simp only [List.set_cons_succ]); (try simp only [List.set_cons_zero]))
          refine wpAnyH_take (i := 4) (oi := { dst := some 20, op := Op.move (Operand.tmp 19), type := 4, pos := "ref.go:170", after := #[{ on := 3, ground := Ground.data }], guard := none }) (v := ?_) rfl (by kernel_rfl) (by kernel_rfl) (by kernel_rfl) (fun _ _ _ h => h) (Or.inl ⟨by rfl, ?_⟩) (by assumption) ?_
          rotate_left
          · (intro w hSw; (try dsimp only at hSw); go_simp; try with_reducible rfl)
          ((try simp only [Act.put]); (try simp only [List.setIfInBounds_toArray]); (try simp only [List.set_cons_succ]); (try simp only [List.set_cons_zero]))
          refine wpAnyH_take (i := 5) (oi := { dst := some 21, op := Op.move (Operand.tmp 0), type := 40, pos := "ref.go:170", after := #[{ on := 4, ground := Ground.guard }], guard := some (4, true) }) (v := undef) rfl (by kernel_rfl) (by kernel_rfl) (by kernel_rfl) (fun _ _ _ h => h) (Or.inr ⟨by rfl, rfl⟩) (by assumption) ?_
          ((try simp only [Act.put]); (try simp only [List.setIfInBounds_toArray]); (try simp only [List.set_cons_succ]); (try simp only [List.set_cons_zero]))
          refine wpAnyH_take (i := 6) (oi := { dst := some 22, op := Op.move (Operand.tmp 5), type := 3, pos := "ref.go:170", after := #[{ on := 4, ground := Ground.guard }], guard := some (4, true) }) (v := undef) rfl (by kernel_rfl) (by kernel_rfl) (by kernel_rfl) (fun _ _ _ h => h) (Or.inr ⟨by rfl, rfl⟩) (by assumption) ?_
          ((try simp only [Act.put]); (try simp only [List.setIfInBounds_toArray]); (try simp only [List.set_cons_succ]); (try simp only [List.set_cons_zero]))
          refine wpAnyH_take (i := 7) (oi := { dst := some 23, op := Op.indexAddr 40 (Operand.tmp 21) (Operand.tmp 22), type := 0, pos := "ref.go:170", after := #[{ on := 5, ground := Ground.data }, { on := 6, ground := Ground.data }, { on := 4, ground := Ground.guard }], guard := some (4, true) }) (v := undef) rfl (by kernel_rfl) (by kernel_rfl) (by kernel_rfl) (fun _ _ _ h => h) (Or.inr ⟨by rfl, rfl⟩) (by assumption) ?_
          ((try simp only [Act.put]); (try simp only [List.setIfInBounds_toArray]); (try simp only [List.set_cons_succ]); (try simp only [List.set_cons_zero]))
          refine wpAnyH_take (i := 8) (oi := { dst := some 24, op := Op.load 43 (Operand.tmp 23), type := 43, pos := "ref.go:170", after := #[{ on := 7, ground := Ground.data }, { on := 4, ground := Ground.guard }], guard := some (4, true) }) (v := undef) rfl (by kernel_rfl) (by kernel_rfl) (by kernel_rfl) (fun _ _ _ h => h) (Or.inr ⟨by rfl, rfl⟩) (by assumption) ?_
          ((try simp only [Act.put]); (try simp only [List.setIfInBounds_toArray]); (try simp only [List.set_cons_succ]); (try simp only [List.set_cons_zero]))
          refine wpAnyH_take (i := 9) (oi := { dst := some 25, op := Op.load 43 (Operand.tmp 3), type := 43, pos := "ref.go:170", after := #[{ on := 4, ground := Ground.guard }], guard := some (4, true) }) (v := undef) rfl (by kernel_rfl) (by kernel_rfl) (by kernel_rfl) (fun _ _ _ h => h) (Or.inr ⟨by rfl, rfl⟩) (by assumption) ?_
          ((try simp only [Act.put]); (try simp only [List.setIfInBounds_toArray]); (try simp only [List.set_cons_succ]); (try simp only [List.set_cons_zero]))
          refine wpAnyH_take (i := 10) (oi := { dst := some 26, op := Op.call { callee := Callee.value (Operand.func 49), args := #[Operand.tmp 24, Operand.tmp 25], argTypes := #[43, 43] }, type := 4, pos := "ref.go:170", after := #[{ on := 8, ground := Ground.data }, { on := 9, ground := Ground.data }, { on := 4, ground := Ground.chain }, { on := 4, ground := Ground.guard }], guard := some (4, true) }) (v := undef) rfl (by kernel_rfl) (by kernel_rfl) (by kernel_rfl) (fun _ _ _ h => h) (Or.inr ⟨by rfl, rfl⟩) (by assumption) ?_
          ((try simp only [Act.put]); (try simp only [List.setIfInBounds_toArray]); (try simp only [List.set_cons_succ]); (try simp only [List.set_cons_zero]))
          refine wpAnyH_take (i := 11) (oi := { dst := some 27, op := Op.pick (Operand.tmp 20) (Operand.tmp 26) (Operand.const (Value.bool false)), type := 4, pos := "ref.go:170", after := #[{ on := 4, ground := Ground.data }, { on := 10, ground := Ground.data }], guard := none }) (v := ?_) rfl (by kernel_rfl) (by kernel_rfl) (by kernel_rfl) (fun _ _ _ h => h) (Or.inl ⟨by rfl, ?_⟩) (by assumption) ?_
          rotate_left
          · (intro w hSw; (try dsimp only at hSw); go_simp; try with_reducible rfl)
          ((try simp only [Act.put]); (try simp only [List.setIfInBounds_toArray]); (try simp only [List.set_cons_succ]); (try simp only [List.set_cons_zero]))
          refine wpAnyH_done (by kernel_rfl) ?_ _
          refine NoPanic.normal ?_
          skip
          clear hHeld
          have AE := Lib.hid (AK.out.below (drew_below wr))
          clear AK x0 x1 x2
          generalize wr.drew = w8 at *
          have k1 : (k : Int) ≤ (cap : Int) := by omega
          have k2 : (0 : Int) ≤ (k : Int) := by omega
          have LD := Lib.hid (AE.out.l.drop k (Nat.le_refl k))
          go_upto_region 6 with fail
          go_cut [6] from 30 to 32 (fun v wx => ∃ ra rc, v = .slice ra 0 rc ∧ AdS A W U wx x a cap k l ra rc 0 [])
          case first =>
            have ed : l.drop k = [] := List.drop_eq_nil_of_le (by rw [LN.out]; exact Nat.le_refl _)
            have AF := Lib.hid (fun (h : LgAt (fun j => A j ∧ j < U.heap.size) w8 (if cap = k then a else a.map (·.add (k * 3))) (cap - k) (k - k) (l.drop k)) => show AdS A W U w8 x a cap k l (if cap = k then a else a.map (·.add (k * 3))) (cap - k) 0 [] from by
              rw [Nat.sub_self, ed] at h
              exact AE.out.rest h)
            have AG := Lib.hid (AF.out LD.out)
            clear AF LD ed
            by_cases hc : cap = k
            · rw [if_pos hc, show cap - k = 0 by omega] at AG
              go_wp2_with fail
              go_meet
              exact ⟨_, _, rfl, AG.out⟩
            · rw [if_neg hc] at AG
              go_wp2_with fail
              go_meet
              exact ⟨_, _, rfl, AG.out⟩
          case rest =>
          obtain ⟨ra, rc, rfl, hAD⟩ := hcut
          have AG := Lib.hid hAD
          clear hAD LD AE
          rename_i wc
          have u0 := AG.out.x.c 0 (by decide)
          go_upto_region 7 with fail
          refine wp_region_noPanic ?_
          refine wp_region_held_drew (S := (fun w' => w'.cell? ⟨W.heap.size, 0, none⟩ = some (.int .i64 x.f))) (by kernel_rfl) ?_ (fun hHeld => ?_)
          · exact u0
          refine wpAnyH_take (i := 0) (oi := { dst := some 33, op := Op.move (Operand.tmp 6), type := 40, pos := "ref.go:174", after := #[], guard := none }) (v := ?_) rfl (by kernel_rfl) (by kernel_rfl) (by kernel_rfl) (fun _ _ _ h => h) (Or.inl ⟨by rfl, ?_⟩) (by assumption) ?_
          rotate_left
          · (intro w hSw; (try dsimp only at hSw); go_simp; try with_reducible rfl)
          ((try simp only [Act.put]); (try simp only [List.setIfInBounds_toArray]); (try simp only [List.set_cons_succ]); (try simp only [List.set_cons_zero]))
          refine wpAnyH_take (i := 1) (oi := { dst := some 34, op := Op.call { callee := Callee.builtin Builtin.len, args := #[Operand.tmp 33], argTypes := #[40] }, type := 3, pos := "ref.go:174", after := #[{ on := 0, ground := Ground.data }], guard := none }) (v := ?_) rfl (by kernel_rfl) (by kernel_rfl) (by kernel_rfl) (fun _ _ _ h => h) (Or.inl ⟨by rfl, ?_⟩) (by assumption) ?_
          rotate_left
          · (intro w hSw; (try dsimp only at hSw); go_simp; try with_reducible rfl)
          ((try simp only [Act.put]); (try simp only [List.setIfInBounds_toArray]); (try simp only [List.set_cons_succ]); (try simp only [List.set_cons_zero]))
          refine wpAnyH_take (i := 2) (oi := { dst := some 35, op := Op.binOp BinOp.gtr 3 (Operand.tmp 34) (Operand.const (Value.int IntKind.i64 0)) 3, type := 4, pos := "ref.go:174", after := #[{ on := 1, ground := Ground.data }], guard := none }) (v := ?_) rfl (by kernel_rfl) (by kernel_rfl) (by kernel_rfl) (fun _ _ _ h => h) (Or.inl ⟨by rfl, ?_⟩) (by assumption) ?_
          rotate_left
          · (intro w hSw; (try dsimp only at hSw); go_simp; try with_reducible rfl)
          ((try simp only [Act.put]); (try simp only [List.setIfInBounds_toArray]); (try simp only [List.set_cons_succ]); (try simp only [List.set_cons_zero]))
          refine wpAnyH_take (i := 3) (oi := { dst := some 36, op := Op.move (Operand.tmp 35), type := 4, pos := "ref.go:174", after := #[{ on := 2, ground := Ground.data }], guard := none }) (v := ?_) rfl (by kernel_rfl) (by kernel_rfl) (by kernel_rfl) (fun _ _ _ h => h) (Or.inl ⟨by rfl, ?_⟩) (by assumption) ?_
          rotate_left
          · (intro w hSw; (try dsimp only at hSw); go_simp; try with_reducible rfl)
          ((try simp only [Act.put]); (try simp only [List.setIfInBounds_toArray]); (try simp only [List.set_cons_succ]); (try simp only [List.set_cons_zero]))
          refine wpAnyH_take (i := 4) (oi := { dst := some 37, op := Op.move (Operand.tmp 6), type := 40, pos := "ref.go:174", after := #[{ on := 3, ground := Ground.guard }], guard := some (3, true) }) (v := undef) rfl (by kernel_rfl) (by kernel_rfl) (by kernel_rfl) (fun _ _ _ h => h) (Or.inr ⟨by rfl, rfl⟩) (by assumption) ?_
          ((try simp only [Act.put]); (try simp only [List.setIfInBounds_toArray]); (try simp only [List.set_cons_succ]); (try simp only [List.set_cons_zero]))
          refine wpAnyH_take (i := 5) (oi := { dst := some 38, op := Op.indexAddr 40 (Operand.tmp 37) (Operand.const (Value.int IntKind.i64 0)), type := 0, pos := "ref.go:174", after := #[{ on := 4, ground := Ground.data }, { on := 3, ground := Ground.guard }], guard := some (3, true) }) (v := undef) rfl (by kernel_rfl) (by kernel_rfl) (by kernel_rfl) (fun _ _ _ h => h) (Or.inr ⟨by rfl, rfl⟩) (by assumption) ?_
          ((try simp only [Act.put]); (try simp only [List.setIfInBounds_toArray]); (try simp only [List.set_cons_succ]); (try simp only [List.set_cons_zero]))
          refine wpAnyH_take (i := 6) (oi := { dst := some 39, op := Op.fieldAddr 43 (Operand.tmp 38) 0, type := 0, pos := "ref.go:174", after := #[{ on := 5, ground := Ground.data }, { on := 3, ground := Ground.guard }], guard := some (3, true) }) (v := undef) rfl (by kernel_rfl) (by kernel_rfl) (by kernel_rfl) (fun _ _ _ h => h) (Or.inr ⟨by rfl, rfl⟩) (by assumption) ?_
          ((try simp only [Act.put]); (try simp only [List.setIfInBounds_toArray]); (try simp only [List.set_cons_succ]); (try simp only [List.set_cons_zero]))
          refine wpAnyH_take (i := 7) (oi := { dst := some 40, op := Op.load 3 (Operand.tmp 39), type := 3, pos := "ref.go:174", after := #[{ on := 6, ground := Ground.data }, { on := 3, ground := Ground.guard }], guard := some (3, true) }) (v := undef) rfl (by kernel_rfl) (by kernel_rfl) (by kernel_rfl) (fun _ _ _ h => h) (Or.inr ⟨by rfl, rfl⟩) (by assumption) ?_
          ((try simp only [Act.put]); (try simp only [List.setIfInBounds_toArray]); (try simp only [List.set_cons_succ]); (try simp only [List.set_cons_zero]))
          refine wpAnyH_take (i := 8) (oi := { dst := some 41, op := Op.fieldAddr 43 (Operand.tmp 3) 0, type := 0, pos := "ref.go:174", after := #[{ on := 3, ground := Ground.guard }], guard := some (3, true) }) (v := undef) rfl (by kernel_rfl) (by kernel_rfl) (by kernel_rfl) (fun _ _ _ h => h) (Or.inr ⟨by rfl, rfl⟩) (by assumption) ?_
          ((try simp only [Act.put]); (try simp only [List.setIfInBounds_toArray]); (try simp only [List.set_cons_succ]); (try simp only [List.set_cons_zero]))
          refine wpAnyH_take (i := 9) (oi := { dst := some 42, op := Op.load 3 (Operand.tmp 41), type := 3, pos := "ref.go:174", after := #[{ on := 8, ground := Ground.data }, { on := 3, ground := Ground.guard }], guard := some (3, true) }) (v := undef) rfl (by kernel_rfl) (by kernel_rfl) (by kernel_rfl) (fun _ _ _ h => h) (Or.inr ⟨by rfl, rfl⟩) (by assumption) ?_
          ((try simp only [Act.put]); (try simp only [List.setIfInBounds_toArray]); (try simp only [List.set_cons_succ]); (try simp only [List.set_cons_zero]))
          refine wpAnyH_take (i := 10) (oi := { dst := some 43, op := Op.binOp BinOp.eql 3 (Operand.tmp 40) (Operand.tmp 42) 3, type := 4, pos := "ref.go:174", after := #[{ on := 7, ground := Ground.data }, { on := 9, ground := Ground.data }, { on := 3, ground := Ground.guard }], guard := some (3, true) }) (v := undef) rfl (by kernel_rfl) (by kernel_rfl) (by kernel_rfl) (fun _ _ _ h => h) (Or.inr ⟨by rfl, rfl⟩) (by assumption) ?_
          ((try simp only [Act.put]); (try simp only [List.setIfInBounds_toArray]); (try simp only [List.set_cons_succ]); (try simp only [List.set_cons_zero]))
          refine wpAnyH_take (i := 11) (oi := { dst := some 44, op := Op.pick (Operand.tmp 36) (Operand.tmp 43) (Operand.const (Value.bool false)), type := 4, pos := "ref.go:174", after := #[{ on := 3, ground := Ground.data }, { on := 10, ground := Ground.data }], guard := none }) (v := ?_) rfl (by kernel_rfl) (by kernel_rfl) (by kernel_rfl) (fun _ _ _ h => h) (Or.inl ⟨by rfl, ?_⟩) (by assumption) ?_
          rotate_left
          · (intro w hSw; (try dsimp only at hSw); go_simp; try with_reducible rfl)
          ((try simp only [Act.put]); (try simp only [List.setIfInBounds_toArray]); (try simp only [List.set_cons_succ]); (try simp only [List.set_cons_zero]))
          refine wpAnyH_take (i := 12) (oi := { dst := some 45, op := Op.move (Operand.tmp 44), type := 4, pos := "ref.go:174", after := #[{ on := 11, ground := Ground.data }, { on := 3, ground := Ground.chain }], guard := none }) (v := ?_) rfl (by kernel_rfl) (by kernel_rfl) (by kernel_rfl) (fun _ _ _ h => h) (Or.inl ⟨by rfl, ?_⟩) (by assumption) ?_
          rotate_left
          · (intro w hSw; (try dsimp only at hSw); go_simp; try with_reducible rfl)
          ((try simp only [Act.put]); (try simp only [List.setIfInBounds_toArray]); (try simp only [List.set_cons_succ]); (try simp only [List.set_cons_zero]))
          refine wpAnyH_take (i := 13) (oi := { dst := some 46, op := Op.move (Operand.tmp 6), type := 40, pos := "ref.go:174", after := #[{ on := 12, ground := Ground.guard }], guard := some (12, true) }) (v := undef) rfl (by kernel_rfl) (by kernel_rfl) (by kernel_rfl) (fun _ _ _ h => h) (Or.inr ⟨by rfl, rfl⟩) (by assumption) ?_
          ((try simp only [Act.put]); (try simp only [List.setIfInBounds_toArray]); (try simp only [List.set_cons_succ]); (try simp only [List.set_cons_zero]))
          refine wpAnyH_take (i := 14) (oi := { dst := some 47, op := Op.indexAddr 40 (Operand.tmp 46) (Operand.const (Value.int IntKind.i64 0)), type := 0, pos := "ref.go:174", after := #[{ on := 13, ground := Ground.data }, { on := 12, ground := Ground.guard }], guard := some (12, true) }) (v := undef) rfl (by kernel_rfl) (by kernel_rfl) (by kernel_rfl) (fun _ _ _ h => h) (Or.inr ⟨by rfl, rfl⟩) (by assumption) ?_
          ((try simp only [Act.put]); (try simp only [List.setIfInBounds_toArray]); (try simp only [List.set_cons_succ]); (try simp only [List.set_cons_zero]))
          refine wpAnyH_take (i := 15) (oi := { dst := some 48, op := Op.fieldAddr 43 (Operand.tmp 47) 1, type := 0, pos := "ref.go:174", after := #[{ on := 14, ground := Ground.data }, { on := 12, ground := Ground.guard }], guard := some (12, true) }) (v := undef) rfl (by kernel_rfl) (by kernel_rfl) (by kernel_rfl) (fun _ _ _ h => h) (Or.inr ⟨by rfl, rfl⟩) (by assumption) ?_
          ((try simp only [Act.put]); (try simp only [List.setIfInBounds_toArray]); (try simp only [List.set_cons_succ]); (try simp only [List.set_cons_zero]))
          refine wpAnyH_take (i := 16) (oi := { dst := some 49, op := Op.load 23 (Operand.tmp 48), type := 23, pos := "ref.go:174", after := #[{ on := 15, ground := Ground.data }, { on := 12, ground := Ground.guard }], guard := some (12, true) }) (v := undef) rfl (by kernel_rfl) (by kernel_rfl) (by kernel_rfl) (fun _ _ _ h => h) (Or.inr ⟨by rfl, rfl⟩) (by assumption) ?_
          ((try simp only [Act.put]); (try simp only [List.setIfInBounds_toArray]); (try simp only [List.set_cons_succ]); (try simp only [List.set_cons_zero]))
          refine wpAnyH_take (i := 17) (oi := { dst := some 50, op := Op.fieldAddr 43 (Operand.tmp 3) 1, type := 0, pos := "ref.go:174", after := #[{ on := 12, ground := Ground.guard }], guard := some (12, true) }) (v := undef) rfl (by kernel_rfl) (by kernel_rfl) (by kernel_rfl) (fun _ _ _ h => h) (Or.inr ⟨by rfl, rfl⟩) (by assumption) ?_
          ((try simp only [Act.put]); (try simp only [List.setIfInBounds_toArray]); (try simp only [List.set_cons_succ]); (try simp only [List.set_cons_zero]))
          refine wpAnyH_take (i := 18) (oi := { dst := some 51, op := Op.load 23 (Operand.tmp 50), type := 23, pos := "ref.go:174", after := #[{ on := 17, ground := Ground.data }, { on := 12, ground := Ground.guard }], guard := some (12, true) }) (v := undef) rfl (by kernel_rfl) (by kernel_rfl) (by kernel_rfl) (fun _ _ _ h => h) (Or.inr ⟨by rfl, rfl⟩) (by assumption) ?_
          ((try simp only [Act.put]); (try simp only [List.setIfInBounds_toArray]); (try simp only [List.set_cons_succ]); (try simp only [List.set_cons_zero]))
          refine wpAnyH_take (i := 19) (oi := { dst := some 52, op := Op.binOp BinOp.eql 23 (Operand.tmp 49) (Operand.tmp 51) 23, type := 4, pos := "ref.go:174", after := #[{ on := 16, ground := Ground.data }, { on := 18, ground := Ground.data }, { on := 12, ground := Ground.guard }], guard := some (12, true) }) (v := undef) rfl (by kernel_rfl) (by kernel_rfl) (by kernel_rfl) (fun _ _ _ h => h) (Or.inr ⟨by rfl, rfl⟩) (by assumption) ?_
          ((try simp only [Act.put]); (try simp only [List.setIfInBounds_toArray]); (try simp only [List.set_cons_succ]); (try simp only [List.set_cons_zero]))
          refine wpAnyH_take (i := 20) (oi := { dst := some 53, op := Op.pick (Operand.tmp 45) (Operand.tmp 52) (Operand.const (Value.bool false)), type := 4, pos := "ref.go:174", after := #[{ on := 12, ground := Ground.data }, { on := 19, ground := Ground.data }], guard := none }) (v := ?_) rfl (by kernel_rfl) (by kernel_rfl) (by kernel_rfl) (fun _ _ _ h => h) (Or.inl ⟨by rfl, ?_⟩) (by assumption) ?_
          rotate_left
          · (intro w hSw; (try dsimp only at hSw); go_simp; try with_reducible rfl)
          ((try simp only [Act.put]); (try simp only [List.setIfInBounds_toArray]); (try simp only [List.set_cons_succ]); (try simp only [List.set_cons_zero]))
          refine wpAnyH_done (by kernel_rfl) ?_ _
          refine NoPanic.normal ?_
          skip
          clear hHeld
          have AD0 := Lib.hid (AG.out.below (drew_below wc))
          clear AG u0
          generalize wc.drew = w0 at *
          go_upto_region 9 with fail
          have RNB := Lib.hid (show (0 : Nat) ≤ 100000 by omega)
          have SZ0 := Lib.hid AD0.out.u
          have OW1 := Lib.hid (show (w0.alloc (.cells #[] 43)).drew.ownsRow U.heap.size 43 3 (.slice (some ⟨w0.heap.size, 0, none⟩) 0 0) 0 [] from own_below (empty_row w0 43 SZ0.out) ((drew_below _).mono (by simp)))
          have OW2 := Lib.hid (show ((w0.alloc (.cells #[] 43)).alloc (.cells #[.int .i64 x.f, .int .u64 (x.n : Int), .int .u64 (x.t : Int)] 43)).drew.ownsRow U.heap.size 43 3 (.slice (some ⟨w0.heap.size, 0, none⟩) 0 0) 0 [] from own_below (own_below (empty_row w0 43 SZ0.out) (boxb _ (.cells #[.int .i64 x.f, .int .u64 (x.n : Int), .int .u64 (x.t : Int)] 43))) ((drew_below _).mono (by simp)))
          have OW3 := Lib.hid (show ((w0.alloc (.cells #[.int .i64 x.f, .int .u64 (x.n : Int), .int .u64 (x.t : Int)] 43)).alloc (.cells #[] 43)).drew.ownsRow U.heap.size 43 3 (.slice (some ⟨w0.heap.size + 1, 0, none⟩) 0 0) 0 [] from by
            have h := own_below (empty_row (w0.alloc (.cells #[.int .i64 x.f, .int .u64 (x.n : Int), .int .u64 (x.t : Int)] 43)) 43 (Nat.le_trans SZ0.out (boxb w0 (.cells #[.int .i64 x.f, .int .u64 (x.n : Int), .int .u64 (x.t : Int)] 43)).size)) ((drew_below _).mono (by simp))
            rw [show (w0.alloc (.cells #[.int .i64 x.f, .int .u64 (x.n : Int), .int .u64 (x.t : Int)] 43)).heap.size = w0.heap.size + 1 by simp] at h
            exact h)
          have AD1 := Lib.hid (show AdS A W U (w0.alloc (.cells #[] 43)).drew x a cap k l ra rc 0 [] from (AD0.out.below (boxb w0 (.cells #[] 43))).below ((drew_below _).mono (by simp)))
          have AD2 := Lib.hid (show AdS A W U ((w0.alloc (.cells #[] 43)).alloc (.cells #[.int .i64 x.f, .int .u64 (x.n : Int), .int .u64 (x.t : Int)] 43)).drew x a cap k l ra rc 0 [] from ((AD0.out.below (boxb w0 (.cells #[] 43))).below (boxb _ (.cells #[.int .i64 x.f, .int .u64 (x.n : Int), .int .u64 (x.t : Int)] 43))).below ((drew_below _).mono (by simp)))
          have AD3 := Lib.hid (show AdS A W U ((w0.alloc (.cells #[.int .i64 x.f, .int .u64 (x.n : Int), .int .u64 (x.t : Int)] 43)).alloc (.cells #[] 43)).drew x a cap k l ra rc 0 [] from ((AD0.out.below (boxb w0 (.cells #[.int .i64 x.f, .int .u64 (x.n : Int), .int .u64 (x.t : Int)] 43))).below (boxb _ (.cells #[] 43))).below ((drew_below _).mono (by simp)))
          have LX2 := Lib.hid (show LgAt (fun j => j = w0.heap.size + 1) ((w0.alloc (.cells #[] 43)).alloc (.cells #[.int .i64 x.f, .int .u64 (x.n : Int), .int .u64 (x.t : Int)] 43)).drew (some ⟨w0.heap.size + 1, 0, none⟩) 1 1 [x] from by
            have h := (lit_ent (w0.alloc (.cells #[] 43)) x 43 OX.out).below ((drew_below _).mono (by simp))
            rw [show (w0.alloc (.cells #[] 43)).heap.size = w0.heap.size + 1 by simp] at h
            exact h)
          have LX3 := Lib.hid (show LgAt (fun j => j = w0.heap.size) ((w0.alloc (.cells #[.int .i64 x.f, .int .u64 (x.n : Int), .int .u64 (x.t : Int)] 43)).alloc (.cells #[] 43)).drew (some ⟨w0.heap.size, 0, none⟩) 1 1 [x] from ((lit_ent w0 x 43 OX.out).below (boxb _ (.cells #[] 43))).below ((drew_below _).mono (by simp)))
          have x0d : w0.drew.cell? ⟨W.heap.size, 0, none⟩ = some (.int .i64 x.f) := AD0.out.x.c 0 (by decide)
          have x1d : w0.drew.cell? ⟨W.heap.size, 1, none⟩ = some (.int .u64 (x.n : Int)) := AD0.out.x.c 1 (by decide)
          have x2d : w0.drew.cell? ⟨W.heap.size, 2, none⟩ = some (.int .u64 (x.t : Int)) := AD0.out.x.c 2 (by decide)
          have q0d : (w0.alloc (.cells #[] 43)).drew.cell? ⟨W.heap.size, 0, none⟩ = some (.int .i64 x.f) := AD1.out.x.c 0 (by decide)
          have q1d : (w0.alloc (.cells #[] 43)).drew.cell? ⟨W.heap.size, 1, none⟩ = some (.int .u64 (x.n : Int)) := AD1.out.x.c 1 (by decide)
          have q2d : (w0.alloc (.cells #[] 43)).drew.cell? ⟨W.heap.size, 2, none⟩ = some (.int .u64 (x.t : Int)) := AD1.out.x.c 2 (by decide)
          have kc0 : (0 : Int) ≤ (k : Int) := by omega
          have kc1 : (k : Int) ≤ (cap : Int) := by omega
          have LT := Lib.hid (show (lgC (l.take k)).length = k * 3 from by rw [lgC_len, List.length_take, LN.out, Nat.min_eq_left hk])
          have NL := Lib.hid (fun (w : World) (h : AdS A W U w x a cap k l ra rc 0 []) => (h.l.take k hk).row)
          have NR := Lib.hid (fun (w : World) (h : AdS A W U w x a cap k l ra rc 0 []) => h.r)
          have FIN := Lib.hid (fun (w3 : World) (a3 : Option Addr) (c3 : Nat) (hA : AdS A W U w3 x a cap k l ra rc 0 []) (ho : w3.ownsRow U.heap.size 43 3 (.slice a3 (0 + k + 1 + 0) c3) (0 + k + 1 + 0) ([] ++ lgC (l.take k) ++ xC x ++ lgC [])) =>
            show ∃ a' c', (.slice a3 (0 + k + 1 + 0) c3 : Value) = .slice a' m.length c' ∧ LgAt (NewL W A) w3 a' c' m.length m ∧ Below W.heap.size W w3 from by
              have hlm : m.length = 0 + k + 1 + 0 := by rw [HM.out, List.length_append, List.length_cons, List.length_take, LN.out, Nat.min_eq_left hk, hA.r.len]; omega
              have hcm : lgC m = [] ++ lgC (l.take k) ++ xC x ++ lgC [] := by rw [HM.out, lgC_append, lgC_cons]; simp [xC]
              rw [hlm]
              refine ⟨a3, c3, rfl, ?_, hA.b⟩
              have hL : OwnLg 43 U.heap.size w3 (.slice a3 (0 + k + 1 + 0) c3) m := ⟨by rw [hlm, hcm]; exact ho, fun z hz => by
                rw [HM.out] at hz
                rcases List.mem_append.1 hz with hz | hz
                · exact hA.l.ok z (List.mem_of_mem_take hz)
                · rcases List.mem_cons.1 hz with rfl | hz
                  · exact OX.out
                  · exact hA.r.ok z hz⟩
              exact (hL.at hlm).mono (fun j _ hj => Or.inr (by have := hA.hU; omega)))
          go_region_law (first
            | (refine step_append_at rfl (.tmp 56) (.tmp 59) 40 rfl U.heap.size 43 ti (.agg #[.int .i64 0, .int .u64 0, .int .u64 0]) 3 24 Try.underlying40 hi0 hz0 hz1 hz2 rfl (by decide) (.slice (some ⟨w0.heap.size, 0, none⟩) 0 0) 0 [] (by simp [Act.eval]) OW1.out a k cap (lgC (l.take k)) (by simp [Act.eval]) LT.out (NL.out _ AD1.out).empty (NL.out _ AD1.out).news (lgC_one _) (by unfold maxLen; omega) (by omega) AD1.out.u ?_
               intro a1 c1 w1 hown1 hgr1 hat1
               have kk := keep_own (v := (.slice (some ⟨w0.heap.size, 0, none⟩) 0 0)) hgr1
               have AD := Lib.hid (AD1.out.keep kk (fun j e => (OW1.out.lt j e).1))
               have O1 := Lib.hid hown1
               have p0 : w1.cell? ⟨W.heap.size, 0, none⟩ = some (.int .i64 x.f) := AD.out.x.c 0 (by decide)
               have p1 : w1.cell? ⟨W.heap.size, 1, none⟩ = some (.int .u64 (x.n : Int)) := AD.out.x.c 1 (by decide)
               have p2 : w1.cell? ⟨W.heap.size, 2, none⟩ = some (.int .u64 (x.t : Int)) := AD.out.x.c 2 (by decide)
               clear hown1 hgr1 hat1 kk)
            | (refine step_append_at rfl (.tmp 56) (.tmp 59) 40 rfl U.heap.size 43 ti (.agg #[.int .i64 0, .int .u64 0, .int .u64 0]) 3 24 Try.underlying40 hi0 hz0 hz1 hz2 rfl (by decide) (.slice (some ⟨w0.heap.size, 0, none⟩) 0 0) 0 [] (by simp [Act.eval]) OW2.out a k cap (lgC (l.take k)) (by simp [Act.eval]) LT.out (NL.out _ AD2.out).empty (NL.out _ AD2.out).news (lgC_one _) (by unfold maxLen; omega) (by omega) AD2.out.u ?_
               intro a1 c1 w1 hown1 hgr1 hat1
               have kk := keep_own (v := (.slice (some ⟨w0.heap.size, 0, none⟩) 0 0)) hgr1
               have AD := Lib.hid (AD2.out.keep kk (fun j e => (OW2.out.lt j e).1))
               have LX := Lib.hid (LX2.out.keep kk (fun j e e2 => by simp [Value.ownBlock] at e2; omega))
               have O1 := Lib.hid hown1
               have p0 : w1.cell? ⟨W.heap.size, 0, none⟩ = some (.int .i64 x.f) := AD.out.x.c 0 (by decide)
               have p1 : w1.cell? ⟨W.heap.size, 1, none⟩ = some (.int .u64 (x.n : Int)) := AD.out.x.c 1 (by decide)
               have p2 : w1.cell? ⟨W.heap.size, 2, none⟩ = some (.int .u64 (x.t : Int)) := AD.out.x.c 2 (by decide)
               clear hown1 hgr1 hat1 kk)
            | (refine step_append_at rfl (.tmp 56) (.tmp 59) 40 rfl U.heap.size 43 ti (.agg #[.int .i64 0, .int .u64 0, .int .u64 0]) 3 24 Try.underlying40 hi0 hz0 hz1 hz2 rfl (by decide) (.slice (some ⟨w0.heap.size + 1, 0, none⟩) 0 0) 0 [] (by simp [Act.eval]) OW3.out a k cap (lgC (l.take k)) (by simp [Act.eval]) LT.out (NL.out _ AD3.out).empty (NL.out _ AD3.out).news (lgC_one _) (by unfold maxLen; omega) (by omega) AD3.out.u ?_
               intro a1 c1 w1 hown1 hgr1 hat1
               have kk := keep_own (v := (.slice (some ⟨w0.heap.size + 1, 0, none⟩) 0 0)) hgr1
               have AD := Lib.hid (AD3.out.keep kk (fun j e => (OW3.out.lt j e).1))
               have LX := Lib.hid (LX3.out.keep kk (fun j e e2 => by simp [Value.ownBlock] at e2; omega))
               have O1 := Lib.hid hown1
               have p0 : w1.cell? ⟨W.heap.size, 0, none⟩ = some (.int .i64 x.f) := AD.out.x.c 0 (by decide)
               have p1 : w1.cell? ⟨W.heap.size, 1, none⟩ = some (.int .u64 (x.n : Int)) := AD.out.x.c 1 (by decide)
               have p2 : w1.cell? ⟨W.heap.size, 2, none⟩ = some (.int .u64 (x.t : Int)) := AD.out.x.c 2 (by decide)
               clear hown1 hgr1 hat1 kk)
            | (refine step_append_at rfl (.tmp 60) (.tmp 62) 40 rfl U.heap.size 43 ti (.agg #[.int .i64 0, .int .u64 0, .int .u64 0]) 3 24 Try.underlying40 hi0 hz0 hz1 hz2 rfl (by decide) (.slice a1 (0 + k) c1) (0 + k) ([] ++ lgC (l.take k)) (by simp [Act.eval]) O1.out (some ⟨w0.heap.size + 1, 0, none⟩) 1 1 (xC x) (by simp [Act.eval]) rfl (fun e => by cases e) (fun ad e j u hj => LX.out.row.news ad e j u (by simpa [lgC] using hj)) (xC_one x) (by unfold maxLen; omega) (by omega) AD.out.u ?_
               intro a2 c2 w2 hown2 hgr2 hat2
               have kk2 := keep_own (v := .slice a1 (0 + k) c1) hgr2
               have AD4 := Lib.hid (AD.out.keep kk2 (fun j e => (O1.out.lt j e).1))
               have O2 := Lib.hid hown2
               clear hown2 hgr2 hat2 kk2)
            | (refine step_append_at rfl (.tmp 60) (.tmp 62) 40 rfl U.heap.size 43 ti (.agg #[.int .i64 0, .int .u64 0, .int .u64 0]) 3 24 Try.underlying40 hi0 hz0 hz1 hz2 rfl (by decide) (.slice a1 (0 + k) c1) (0 + k) ([] ++ lgC (l.take k)) (by simp [Act.eval]) O1.out (some ⟨w0.heap.size, 0, none⟩) 1 1 (xC x) (by simp [Act.eval]) rfl (fun e => by cases e) (fun ad e j u hj => LX.out.row.news ad e j u (by simpa [lgC] using hj)) (xC_one x) (by unfold maxLen; omega) (by omega) AD.out.u ?_
               intro a2 c2 w2 hown2 hgr2 hat2
               have kk2 := keep_own (v := .slice a1 (0 + k) c1) hgr2
               have AD4 := Lib.hid (AD.out.keep kk2 (fun j e => (O1.out.lt j e).1))
               have O2 := Lib.hid hown2
               clear hown2 hgr2 hat2 kk2)
            | (refine step_append_at rfl (.tmp 60) (.tmp 62) 40 rfl U.heap.size 43 ti (.agg #[.int .i64 0, .int .u64 0, .int .u64 0]) 3 24 Try.underlying40 hi0 hz0 hz1 hz2 rfl (by decide) (.slice a1 (0 + k) c1) (0 + k) ([] ++ lgC (l.take k)) (by simp [Act.eval]) (own_below O1.out (boxb w1 (.cells #[.int .i64 x.f, .int .u64 (x.n : Int), .int .u64 (x.t : Int)] 43))) (some ⟨w1.heap.size, 0, none⟩) 1 1 (xC x) (by simp [Act.eval]) rfl (fun e => by cases e) (fun ad e j u hj => (lit_ent w1 x 43 OX.out).row.news ad e j u (by simpa [lgC] using hj)) (xC_one x) (by unfold maxLen; omega) (by omega) (AD.out.below (boxb w1 (.cells #[.int .i64 x.f, .int .u64 (x.n : Int), .int .u64 (x.t : Int)] 43))).u ?_
               intro a2 c2 w2 hown2 hgr2 hat2
               have kk2 := keep_own (v := .slice a1 (0 + k) c1) hgr2
               have AD4 := Lib.hid ((AD.out.below (boxb w1 (.cells #[.int .i64 x.f, .int .u64 (x.n : Int), .int .u64 (x.t : Int)] 43))).keep kk2 (fun j e => (O1.out.lt j e).1))
               have O2 := Lib.hid hown2
               clear hown2 hgr2 hat2 kk2)
            | (refine step_append_at rfl (.tmp 63) (.tmp 64) 40 rfl U.heap.size 43 ti (.agg #[.int .i64 0, .int .u64 0, .int .u64 0]) 3 24 Try.underlying40 hi0 hz0 hz1 hz2 rfl (by decide) (.slice a2 (0 + k + 1) c2) (0 + k + 1) ([] ++ lgC (l.take k) ++ xC x) (by simp [Act.eval]) O2.out ra 0 rc (lgC []) (by simp [Act.eval]) (by rw [lgC_len, (NR.out _ AD4.out).len]) (NR.out _ AD4.out).row.empty (NR.out _ AD4.out).row.news (lgC_one _) (by have := RNB.out; unfold maxLen; omega) (by have := RNB.out; omega) AD4.out.u ?_
               intro a3 c3 w3 hown3 hgr3 hat3
               have kk3 := keep_own (v := .slice a2 (0 + k + 1) c2) hgr3
               have AD5 := Lib.hid (AD4.out.keep kk3 (fun j e => (O2.out.lt j e).1))
               have R5 := Lib.hid (FIN.out w3 a3 c3 AD5.out hown3)
               clear hown3 hgr3 hat3 kk3))
          all_goals
            try go_simp
            go_wp2_with fail
            go_ret
            exact R5.out.elim fun a' h => h.elim fun c' h => ⟨a', c', by first | exact congrArg Ending.returned h.1 | (have hq := congrArg Ending.returned h.1; simpa using hq), h.2⟩

end Go.Proofs.Ytbmpeadoicjpnaa

/-
  shoalref15.JoinLog.
-/
namespace Go.Proofs.Ytbmpeadoicjpnaa
open Go.RowKit

set_option maxRecDepth 20000 in
set_option maxHeartbeats 16000000 in
theorem rjoin_any {A1 A2 : Nat → Prop} {W : World} {a1 a2 : Option Addr} {n1 c1 n2 c2 : Nat} {l1 l2 : List Le} (h1 : LgAt A1 W a1 c1 n1 l1) (h2 : LgAt A2 W a2 c2 n2 l2) (hl1 : n1 ≤ 40000) (hl2 : n2 ≤ 40000) {m : List Le} (hm : joinG l1 l2 = m) :
    Calls Try.prog 25 #[.slice a1 n1 c1, .slice a2 n2 c2] W (RjPost W m) := by
  have N1 := Lib.hid h1.len
  have N2 := Lib.hid h2.len
  have L1 := Lib.hid (h1.mono (A' := fun _ => True) (fun _ _ _ => trivial))
  have L2 := Lib.hid (h2.mono (A' := fun _ => True) (fun _ _ _ => trivial))
  have HM := Lib.hid hm
  clear h1 h2 hm
  go_enter Try.func25, Try.ntmps25
  go_wp2_with fail
  refine (rgoodl_any L1.out rfl).mono ?_
  rintro e w1 ⟨rfl, hb⟩
  have b1 := Lib.hid hb
  clear hb
  cases hg1 : goodL l1
  · obtain rfl : l1 = m := by rw [← HM.out]; exact (join_no (fun h => by rw [hg1] at h; cases h.1)).symm
    clear hg1
    go_wp2_with fail
    go_ret
    exact ⟨a1, c1, by rw [N1.out]; rfl, by rw [N1.out]; exact L1.out.below b1.out, b1.out⟩
  · have G1 := Lib.hid hg1
    clear hg1
    go_wp2_with fail
    refine (rgoodl_any (L2.out.below b1.out) rfl).mono ?_
    rintro e w2 ⟨rfl, hb⟩
    have b2 := Lib.hid (b1.out.trans (hb.mono b1.out.size))
    clear hb b1
    cases hg2 : goodL l2
    · obtain rfl : l1 = m := by rw [← HM.out]; exact (join_no (fun h => by rw [hg2] at h; cases h.2)).symm
      clear hg2
      go_wp2_with fail
      go_ret
      exact ⟨a1, c1, by rw [N1.out]; rfl, by rw [N1.out]; exact L1.out.below b2.out, b2.out⟩
    · have G2 := Lib.hid hg2
      have JM := Lib.hid (show foldL (foldL [] (l1.map (ownX l2))) (l2.map (heardX l1)) = m by rw [← HM.out]; exact (if_pos ⟨G1.out, G2.out⟩).symm)
      clear hg2 HM
      go_wp2_with fail
      go_loopw [5, 6] (fun s5 s6 wr => ∃ k : Nat, k ≤ n1 ∧ s6 = .int .i64 (k : Nat) ∧ Hid (RjS W wr (foldL [] ((l1.take k).map (ownX l2))) s5)) (fun _ s6 _ => n1 - (intOf s6).toNat)
      case atStart => exact ⟨0, Nat.zero_le _, rfl, Lib.hid ⟨none, 0, 0, rfl, LgAt.nil _ _, b2.out⟩⟩
      case round =>
        obtain ⟨k, hk, rfl, hS⟩ := hrel
        obtain ⟨a5, n5, c5, rfl, hL5, hBr⟩ := hS.out
        have S := Lib.hid hL5
        have BR := Lib.hid hBr
        clear hS hL5 hBr b2
        by_cases hlt : k < n1
        · have hkl : k < l1.length := by rw [N1.out]; exact hlt
          have dk : decide ((k : Int) < (n1 : Int)) = true := decide_eq_true (by omega)
          have FN := Lib.hid (foldL_next (ownX l2) [] hkl)
          have OX := Lib.hid (L1.out.okAt hlt)
          have SL : n5 ≤ k := by
            have h3 := fold_len [] ((l1.take k).map (ownX l2))
            rw [S.out.len, List.length_map, List.length_take] at h3
            simp only [List.length_nil] at h3
            omega
          have RL := Lib.hid (show n5 ≤ 100000 by omega)
          clear hkl SL
          obtain ⟨b, off, rfl, -, -, x0, x1, x2⟩ := (L1.out.below BR.out).cell hlt
          generalize l1.getD k default = x at *
          generalize foldL [] ((l1.take k).map (ownX l2)) = R at *
          have i0 : (0 : Int) ≤ (k : Int) := by omega
          have i1 : (k : Int) < (n1 : Int) := by omega
          have HX := Lib.hid (show xV x = .agg #[.int .i64 x.f, .int .u64 (x.n : Int), .int .u64 (x.t : Int)] from rfl)
          have FC := Lib.hid (rfind_any (L2.out.below BR.out) (x := x) rfl rfl)
          rw [HX.out] at FC
          rcases findK_some (x := x) (goodL_iff.1 G2.out).2 n2 N2.out with ⟨j, hj, ej, hf⟩ | ⟨ej, hf⟩
          · rw [ej] at FC
            generalize moreX l2 x = mb at *
            go_wp2_with fail
            refine FC.out.mono ?_
            rintro e w2 ⟨rfl, hb⟩
            have B2 := Lib.hid (BR.out.trans (hb.mono BR.out.size))
            have S2 := Lib.hid (S.out.below hb)
            have d0 := cell_go x0 hb
            have d1 := cell_go x1 hb
            have d2 := cell_go x2 hb
            obtain ⟨b2, off2, rfl, -, -, -, -, g2⟩ := (L2.out.below B2.out).cell hj
            have OY := (L2.out.okAt hj).2.2
            have FE := Lib.hid (ownX_some hf)
            rw [FE.out] at FN
            have e1 := u64_and_nat x.t (l2.getD j default).t OX.out.2.2 OY
            have OZ := Lib.hid (show OkX ⟨x.f, x.n, x.t &&& (l2.getD j default).t⟩ from ⟨OX.out.1, OX.out.2.1, Nat.lt_of_le_of_lt Nat.and_le_left OX.out.2.2⟩)
            clear x0 x1 x2 hb FC FE hf ej OY
            generalize x.t &&& (l2.getD j default).t = zt at *
            generalize (l2.getD j default).t = yt at *
            have dj : decide ((j : Int) ≥ 0) = true := decide_eq_true (by omega)
            have dj2 : decide ((0 : Int) ≤ (j : Int)) = true := decide_eq_true (by omega)
            have j0 : (0 : Int) ≤ (j : Int) := by omega
            have j1 : (j : Int) < (n2 : Int) := by omega
            go_upto_region 9 with fail
            refine wp_region_noPanic ?_
            refine wp_region_held_drew (S := (fun w' => w'.cell? ⟨b, off + k * 3, none⟩ = some (.int .i64 x.f) ∧ w'.cell? ⟨b, off + k * 3 + 1, none⟩ = some (.int .u64 (x.n : Int)) ∧ w'.cell? ⟨b, off + k * 3 + 2, none⟩ = some (.int .u64 (x.t : Int)) ∧ w'.cell? ⟨b2, off2 + j * 3 + 2, none⟩ = some (.int .u64 (yt : Int)) ∧ Hid (Below w2.heap.size w2 w'))) (by kernel_rfl) ?_ (fun hHeld => ?_)
            · exact ⟨cell_go d0 (drew_below w2), cell_go d1 (drew_below w2), cell_go d2 (drew_below w2), cell_go g2 (drew_below w2), Lib.hid (drew_below w2)⟩
            refine wpAnyH_take (i := 0) (oi := { dst := some 38, op := Op.move (Operand.tmp 5), type := 40, pos := "ref.go:229", after := #[], guard := none }) (v := ?_) rfl (by kernel_rfl) (by kernel_rfl) (by kernel_rfl) (fun _ _ _ h => h) (Or.inl ⟨by rfl, ?_⟩) (by assumption) ?_
            rotate_left
            · (intro w hSw; (try dsimp only at hSw); go_simp; try with_reducible rfl)
            ((try simp only [Act.put]); (try simp only [List.setIfInBounds_toArray]); (try simp only [List.set_cons_succ]); (try simp only [List.set_cons_zero]))
            refine wpAnyH_take (i := 1) (oi := { dst := some 39, op := Op.move (Operand.tmp 0), type := 40, pos := "ref.go:229", after := #[], guard := none }) (v := ?_) rfl (by kernel_rfl) (by kernel_rfl) (by kernel_rfl) (fun _ _ _ h => h) (Or.inl ⟨by rfl, ?_⟩) (by assumption) ?_
            rotate_left
            · (intro w hSw; (try dsimp only at hSw); go_simp; try with_reducible rfl)
            ((try simp only [Act.put]); (try simp only [List.setIfInBounds_toArray]); (try simp only [List.set_cons_succ]); (try simp only [List.set_cons_zero]))
            refine wpAnyH_take (i := 2) (oi := { dst := some 40, op := Op.move (Operand.tmp 6), type := 3, pos := "ref.go:229", after := #[], guard := none }) (v := ?_) rfl (by kernel_rfl) (by kernel_rfl) (by kernel_rfl) (fun _ _ _ h => h) (Or.inl ⟨by rfl, ?_⟩) (by assumption) ?_
            rotate_left
            · (intro w hSw; (try dsimp only at hSw); go_simp; try with_reducible rfl)
            ((try simp only [Act.put]); (try simp only [List.setIfInBounds_toArray]); (try simp only [List.set_cons_succ]); (try simp only [List.set_cons_zero]))
            refine wpAnyH_take (i := 3) (oi := { dst := some 41, op := Op.indexAddr 40 (Operand.tmp 39) (Operand.tmp 40), type := 0, pos := "ref.go:229", after := #[{ on := 1, ground := Ground.data }, { on := 2, ground := Ground.data }], guard := none }) (v := ?_) rfl (by kernel_rfl) (by kernel_rfl) (by kernel_rfl) (fun _ _ _ h => h) (Or.inl ⟨by rfl, ?_⟩) (by assumption) ?_
            rotate_left
            · (intro w hSw; (try dsimp only at hSw); go_simp; try with_reducible rfl)
            ((try simp only [Act.put]); (try simp only [List.setIfInBounds_toArray]); (try simp only [List.set_cons_succ]); (try simp only [List.set_cons_zero]))
            refine wpAnyH_take (i := 4) (oi := { dst := some 42, op := Op.fieldAddr 43 (Operand.tmp 41) 0, type := 0, pos := "ref.go:229", after := #[{ on := 3, ground := Ground.data }], guard := none }) (v := ?_) rfl (by kernel_rfl) (by kernel_rfl) (by kernel_rfl) (fun _ _ _ h => h) (Or.inl ⟨by rfl, ?_⟩) (by assumption) ?_
            rotate_left
            · (intro w hSw; (try dsimp only at hSw); go_simp; try with_reducible rfl)
            ((try simp only [Act.put]); (try simp only [List.setIfInBounds_toArray]); (try simp only [List.set_cons_succ]); (try simp only [List.set_cons_zero]))
            refine wpAnyH_take (i := 5) (oi := { dst := some 43, op := Op.load 3 (Operand.tmp 42), type := 3, pos := "ref.go:229", after := #[{ on := 4, ground := Ground.data }], guard := none }) (v := ?_) rfl (by kernel_rfl) (by kernel_rfl) (by kernel_rfl) (fun _ _ _ h => h) (Or.inl ⟨by rfl, ?_⟩) (by assumption) ?_
            rotate_left
            · (intro w hSw; (try dsimp only at hSw); go_simp; try with_reducible rfl)
            ((try simp only [Act.put]); (try simp only [List.setIfInBounds_toArray]); (try simp only [List.set_cons_succ]); (try simp only [List.set_cons_zero]))
            refine wpAnyH_take (i := 6) (oi := { dst := some 44, op := Op.move (Operand.tmp 0), type := 40, pos := "ref.go:229", after := #[], guard := none }) (v := ?_) rfl (by kernel_rfl) (by kernel_rfl) (by kernel_rfl) (fun _ _ _ h => h) (Or.inl ⟨by rfl, ?_⟩) (by assumption) ?_
            rotate_left
            · (intro w hSw; (try dsimp only at hSw); go_simp; try with_reducible rfl)
            ((try simp only [Act.put]); (try simp only [List.setIfInBounds_toArray]); (try simp only [List.set_cons_succ]); (try simp only [List.set_cons_zero]))
            refine wpAnyH_take (i := 7) (oi := { dst := some 45, op := Op.move (Operand.tmp 6), type := 3, pos := "ref.go:229", after := #[], guard := none }) (v := ?_) rfl (by kernel_rfl) (by kernel_rfl) (by kernel_rfl) (fun _ _ _ h => h) (Or.inl ⟨by rfl, ?_⟩) (by assumption) ?_
            rotate_left
            · (intro w hSw; (try dsimp only at hSw); go_simp; try with_reducible rfl)
            ((try simp only [Act.put]); (try simp only [List.setIfInBounds_toArray]); (try simp only [List.set_cons_succ]); (try simp only [List.set_cons_zero]))
            refine wpAnyH_take (i := 8) (oi := { dst := some 46, op := Op.indexAddr 40 (Operand.tmp 44) (Operand.tmp 45), type := 0, pos := "ref.go:229", after := #[{ on := 6, ground := Ground.data }, { on := 7, ground := Ground.data }], guard := none }) (v := ?_) rfl (by kernel_rfl) (by kernel_rfl) (by kernel_rfl) (fun _ _ _ h => h) (Or.inl ⟨by rfl, ?_⟩) (by assumption) ?_
            rotate_left
            · (intro w hSw; (try dsimp only at hSw); go_simp; try with_reducible rfl)
            ((try simp only [Act.put]); (try simp only [List.setIfInBounds_toArray]); (try simp only [List.set_cons_succ]); (try simp only [List.set_cons_zero]))
            refine wpAnyH_take (i := 9) (oi := { dst := some 47, op := Op.fieldAddr 43 (Operand.tmp 46) 1, type := 0, pos := "ref.go:229", after := #[{ on := 8, ground := Ground.data }], guard := none }) (v := ?_) rfl (by kernel_rfl) (by kernel_rfl) (by kernel_rfl) (fun _ _ _ h => h) (Or.inl ⟨by rfl, ?_⟩) (by assumption) ?_
            rotate_left
            · (intro w hSw; (try dsimp only at hSw); go_simp; try with_reducible rfl)
            ((try simp only [Act.put]); (try simp only [List.setIfInBounds_toArray]); (try simp only [List.set_cons_succ]); (try simp only [List.set_cons_zero]))
            refine wpAnyH_take (i := 10) (oi := { dst := some 48, op := Op.load 23 (Operand.tmp 47), type := 23, pos := "ref.go:229", after := #[{ on := 9, ground := Ground.data }], guard := none }) (v := ?_) rfl (by kernel_rfl) (by kernel_rfl) (by kernel_rfl) (fun _ _ _ h => h) (Or.inl ⟨by rfl, ?_⟩) (by assumption) ?_
            rotate_left
            · (intro w hSw; (try dsimp only at hSw); go_simp; try with_reducible rfl)
            ((try simp only [Act.put]); (try simp only [List.setIfInBounds_toArray]); (try simp only [List.set_cons_succ]); (try simp only [List.set_cons_zero]))
            refine wpAnyH_take (i := 11) (oi := { dst := some 49, op := Op.move (Operand.tmp 0), type := 40, pos := "ref.go:229", after := #[], guard := none }) (v := ?_) rfl (by kernel_rfl) (by kernel_rfl) (by kernel_rfl) (fun _ _ _ h => h) (Or.inl ⟨by rfl, ?_⟩) (by assumption) ?_
            rotate_left
            · (intro w hSw; (try dsimp only at hSw); go_simp; try with_reducible rfl)
            ((try simp only [Act.put]); (try simp only [List.setIfInBounds_toArray]); (try simp only [List.set_cons_succ]); (try simp only [List.set_cons_zero]))
            refine wpAnyH_take (i := 12) (oi := { dst := some 50, op := Op.move (Operand.tmp 6), type := 3, pos := "ref.go:229", after := #[], guard := none }) (v := ?_) rfl (by kernel_rfl) (by kernel_rfl) (by kernel_rfl) (fun _ _ _ h => h) (Or.inl ⟨by rfl, ?_⟩) (by assumption) ?_
            rotate_left
            · (intro w hSw; (try dsimp only at hSw); go_simp; try with_reducible rfl)
            ((try simp only [Act.put]); (try simp only [List.setIfInBounds_toArray]); (try simp only [List.set_cons_succ]); (try simp only [List.set_cons_zero]))
            refine wpAnyH_take (i := 13) (oi := { dst := some 51, op := Op.indexAddr 40 (Operand.tmp 49) (Operand.tmp 50), type := 0, pos := "ref.go:229", after := #[{ on := 11, ground := Ground.data }, { on := 12, ground := Ground.data }], guard := none }) (v := ?_) rfl (by kernel_rfl) (by kernel_rfl) (by kernel_rfl) (fun _ _ _ h => h) (Or.inl ⟨by rfl, ?_⟩) (by assumption) ?_
            rotate_left
            · (intro w hSw; (try dsimp only at hSw); go_simp; try with_reducible rfl)
            ((try simp only [Act.put]); (try simp only [List.setIfInBounds_toArray]); (try simp only [List.set_cons_succ]); (try simp only [List.set_cons_zero]))
            refine wpAnyH_take (i := 14) (oi := { dst := some 52, op := Op.fieldAddr 43 (Operand.tmp 51) 2, type := 0, pos := "ref.go:229", after := #[{ on := 13, ground := Ground.data }], guard := none }) (v := ?_) rfl (by kernel_rfl) (by kernel_rfl) (by kernel_rfl) (fun _ _ _ h => h) (Or.inl ⟨by rfl, ?_⟩) (by assumption) ?_
            rotate_left
            · (intro w hSw; (try dsimp only at hSw); go_simp; try with_reducible rfl)
            ((try simp only [Act.put]); (try simp only [List.setIfInBounds_toArray]); (try simp only [List.set_cons_succ]); (try simp only [List.set_cons_zero]))
            refine wpAnyH_take (i := 15) (oi := { dst := some 53, op := Op.load 23 (Operand.tmp 52), type := 23, pos := "ref.go:229", after := #[{ on := 14, ground := Ground.data }], guard := none }) (v := ?_) rfl (by kernel_rfl) (by kernel_rfl) (by kernel_rfl) (fun _ _ _ h => h) (Or.inl ⟨by rfl, ?_⟩) (by assumption) ?_
            rotate_left
            · (intro w hSw; (try dsimp only at hSw); go_simp; try with_reducible rfl)
            ((try simp only [Act.put]); (try simp only [List.setIfInBounds_toArray]); (try simp only [List.set_cons_succ]); (try simp only [List.set_cons_zero]))
            refine wpAnyH_take (i := 16) (oi := { dst := some 54, op := Op.move (Operand.tmp 1), type := 40, pos := "ref.go:229", after := #[], guard := none }) (v := ?_) rfl (by kernel_rfl) (by kernel_rfl) (by kernel_rfl) (fun _ _ _ h => h) (Or.inl ⟨by rfl, ?_⟩) (by assumption) ?_
            rotate_left
            · (intro w hSw; (try dsimp only at hSw); go_simp; try with_reducible rfl)
            ((try simp only [Act.put]); (try simp only [List.setIfInBounds_toArray]); (try simp only [List.set_cons_succ]); (try simp only [List.set_cons_zero]))
            refine wpAnyH_take (i := 17) (oi := { dst := some 55, op := Op.move (Operand.tmp 7), type := 3, pos := "ref.go:229", after := #[], guard := none }) (v := ?_) rfl (by kernel_rfl) (by kernel_rfl) (by kernel_rfl) (fun _ _ _ h => h) (Or.inl ⟨by rfl, ?_⟩) (by assumption) ?_
            rotate_left
            · (intro w hSw; (try dsimp only at hSw); go_simp; try with_reducible rfl)
            ((try simp only [Act.put]); (try simp only [List.setIfInBounds_toArray]); (try simp only [List.set_cons_succ]); (try simp only [List.set_cons_zero]))
            refine wpAnyH_take (i := 18) (oi := { dst := some 56, op := Op.indexAddr 40 (Operand.tmp 54) (Operand.tmp 55), type := 0, pos := "ref.go:229", after := #[{ on := 16, ground := Ground.data }, { on := 17, ground := Ground.data }], guard := none }) (v := ?_) rfl (by kernel_rfl) (by kernel_rfl) (by kernel_rfl) (fun _ _ _ h => h) (Or.inl ⟨by rfl, ?_⟩) (by assumption) ?_
            rotate_left
            · (intro w hSw; (try dsimp only at hSw); go_simp; try with_reducible rfl)
            ((try simp only [Act.put]); (try simp only [List.setIfInBounds_toArray]); (try simp only [List.set_cons_succ]); (try simp only [List.set_cons_zero]))
            refine wpAnyH_take (i := 19) (oi := { dst := some 57, op := Op.fieldAddr 43 (Operand.tmp 56) 2, type := 0, pos := "ref.go:229", after := #[{ on := 18, ground := Ground.data }], guard := none }) (v := ?_) rfl (by kernel_rfl) (by kernel_rfl) (by kernel_rfl) (fun _ _ _ h => h) (Or.inl ⟨by rfl, ?_⟩) (by assumption) ?_
            rotate_left
            · (intro w hSw; (try dsimp only at hSw); go_simp; try with_reducible rfl)
            ((try simp only [Act.put]); (try simp only [List.setIfInBounds_toArray]); (try simp only [List.set_cons_succ]); (try simp only [List.set_cons_zero]))
            refine wpAnyH_take (i := 20) (oi := { dst := some 58, op := Op.load 23 (Operand.tmp 57), type := 23, pos := "ref.go:229", after := #[{ on := 19, ground := Ground.data }], guard := none }) (v := ?_) rfl (by kernel_rfl) (by kernel_rfl) (by kernel_rfl) (fun _ _ _ h => h) (Or.inl ⟨by rfl, ?_⟩) (by assumption) ?_
            rotate_left
            · (intro w hSw; (try dsimp only at hSw); go_simp; try with_reducible rfl)
            ((try simp only [Act.put]); (try simp only [List.setIfInBounds_toArray]); (try simp only [List.set_cons_succ]); (try simp only [List.set_cons_zero]))
            refine wpAnyH_take (i := 21) (oi := { dst := some 59, op := Op.binOp BinOp.and 23 (Operand.tmp 53) (Operand.tmp 58) 23, type := 23, pos := "ref.go:229", after := #[{ on := 15, ground := Ground.data }, { on := 20, ground := Ground.data }], guard := none }) (v := ?_) rfl (by kernel_rfl) (by kernel_rfl) (by kernel_rfl) (fun _ _ _ h => h) (Or.inl ⟨by rfl, ?_⟩) (by assumption) ?_
            rotate_left
            · (intro w hSw; (try dsimp only at hSw); go_simp; try with_reducible rfl)
            ((try simp only [Act.put]); (try simp only [List.setIfInBounds_toArray]); (try simp only [List.set_cons_succ]); (try simp only [List.set_cons_zero]))
            refine wpAnyH_take (i := 22) (oi := { dst := some 60, op := Op.build 43 #[(0, Operand.tmp 43), (1, Operand.tmp 48), (2, Operand.tmp 59)], type := 43, pos := "ref.go:229", after := #[{ on := 5, ground := Ground.data }, { on := 10, ground := Ground.data }, { on := 21, ground := Ground.data }], guard := none }) (v := ?_) rfl (by kernel_rfl) (by kernel_rfl) (by kernel_rfl) (fun _ _ _ h => h) (Or.inl ⟨by rfl, ?_⟩) (by assumption) ?_
            rotate_left
            · (intro w hSw; (try dsimp only at hSw); go_simp; try with_reducible rfl)
            ((try simp only [Act.put]); (try simp only [List.setIfInBounds_toArray]); (try simp only [List.set_cons_succ]); (try simp only [List.set_cons_zero]))
            refine wpAnyH_ready (rs := [23]) (by kernel_rfl) (by simp) ?_
            refine AllReadyH.cons (o := { dst := some 61, op := Op.call { callee := Callee.value (Operand.func 21), args := #[Operand.tmp 38, Operand.tmp 60], argTypes := #[40, 43] }, type := 40, pos := "ref.go:229", after := #[{ on := 0, ground := Ground.data }, { on := 22, ground := Ground.data }], guard := none }) rfl (fun K hK => ?_) AllReadyH.nil
            go_simp
            refine (radd_any (x := ⟨x.f, x.n, zt⟩) (S2.out.below (Hid.out hHeld.2.2.2.2)) RL.out OZ.out rfl).mono ?_
            rintro e w3 ⟨a8, c8, rfl, hL, hb⟩
            have L8 := Lib.hid hL
            clear hL
            try go_wp2_with fail
            refine hK.out _ _ ?_ (fun hNew => ?_)
            · exact ⟨cell_go hHeld.1 hb, cell_go hHeld.2.1 hb, cell_go hHeld.2.2.1 hb, cell_go hHeld.2.2.2.1 hb, Lib.hid ((Hid.out hHeld.2.2.2.2).trans (hb.mono (Hid.out hHeld.2.2.2.2).size))⟩
            clear hK K
            replace hHeld := hNew
            clear hNew
            ((try simp only [Act.put]); (try simp only [List.setIfInBounds_toArray]); (try simp only [List.set_cons_succ]); (try simp only [List.set_cons_zero]))
            refine wpAnyH_take (i := 24) (oi := { dst := some 5, op := Op.assign (Operand.tmp 61), type := 40, pos := "ref.go:229", after := #[{ on := 23, ground := Ground.data }, { on := 23, ground := Ground.chain }, { on := 0, ground := Ground.phase }, { on := 1, ground := Ground.phase }, { on := 2, ground := Ground.phase }, { on := 3, ground := Ground.phase }, { on := 4, ground := Ground.phase }, { on := 5, ground := Ground.phase }, { on := 6, ground := Ground.phase }, { on := 7, ground := Ground.phase }, { on := 8, ground := Ground.phase }, { on := 9, ground := Ground.phase }, { on := 10, ground := Ground.phase }, { on := 11, ground := Ground.phase }, { on := 12, ground := Ground.phase }, { on := 13, ground := Ground.phase }, { on := 14, ground := Ground.phase }, { on := 15, ground := Ground.phase }, { on := 16, ground := Ground.phase }, { on := 17, ground := Ground.phase }, { on := 18, ground := Ground.phase }, { on := 19, ground := Ground.phase }, { on := 20, ground := Ground.phase }, { on := 21, ground := Ground.phase }, { on := 22, ground := Ground.phase }, { on := 23, ground := Ground.phase }], guard := none }) (v := ?_) rfl (by kernel_rfl) (by kernel_rfl) (by kernel_rfl) (fun _ _ _ h => h) (Or.inl ⟨by rfl, ?_⟩) (by assumption) ?_
            rotate_left
            · (intro w hSw; (try dsimp only at hSw); go_simp; try with_reducible rfl)
            ((try simp only [Act.put]); (try simp only [List.setIfInBounds_toArray]); (try simp only [List.set_cons_succ]); (try simp only [List.set_cons_zero]))
            refine wpAnyH_done (by kernel_rfl) ?_ _
            refine NoPanic.normal ?_
            have B3 := Lib.hid (Hid.out hHeld.2.2.2.2)
            clear hHeld
            go_wp2_with fail
            go_roundw
            case rel => exact ⟨k + 1, by omega, by go_num, Lib.hid ⟨a8, _, c8, rfl, by rw [FN.out]; exact L8.out.mono (fun _ _ _ => trivial), B2.out.trans (B3.out.mono B2.out.size)⟩⟩
            case measure => simp only [intOf]; omega
          · rw [ej] at FC
            have FE := Lib.hid (ownX_none hf)
            cases hmx : moreX l2 x
            · rw [hmx] at FC FE
              rw [FE.out] at FN
              clear hf hmx FE ej
              go_wp2_with fail
              refine FC.out.mono ?_
              rintro e w2 ⟨rfl, hb⟩
              have B2 := Lib.hid (BR.out.trans (hb.mono BR.out.size))
              have S2 := Lib.hid (S.out.below hb)
              have d0 := cell_go x0 hb
              have d1 := cell_go x1 hb
              have d2 := cell_go x2 hb
              clear x0 x1 x2 hb FC
              have AC := Lib.hid (radd_any (x := x) S2.out RL.out OX.out rfl)
              rw [HX.out] at AC
              go_wp2_with fail
              refine AC.out.mono ?_
              rintro e w3 ⟨a8, c8, rfl, hL, hb⟩
              have L8 := Lib.hid hL
              have B3 := Lib.hid (B2.out.trans (hb.mono B2.out.size))
              clear hL hb AC d0 d1 d2
              go_wp2_with fail
              go_roundw
              case rel => exact ⟨k + 1, by omega, by go_num, Lib.hid ⟨a8, _, c8, rfl, by rw [FN.out]; exact L8.out.mono (fun _ _ _ => trivial), B3.out⟩⟩
              case measure => simp only [intOf]; omega
            · rw [hmx] at FC FE
              rw [FE.out] at FN
              clear hf hmx FE ej
              go_wp2_with fail
              refine FC.out.mono ?_
              rintro e w2 ⟨rfl, hb⟩
              have B2 := Lib.hid (BR.out.trans (hb.mono BR.out.size))
              have S2 := Lib.hid (S.out.below hb)
              clear x0 x1 x2 hb FC
              go_wp2_with fail
              go_roundw
              case rel => exact ⟨k + 1, by omega, by go_num, Lib.hid ⟨a5, _, c5, rfl, by rw [FN.out]; exact S2.out, B2.out⟩⟩
              case measure => simp only [intOf]; omega
        · obtain rfl : k = n1 := by omega
          have dk : decide ((k : Int) < (k : Int)) = false := decide_eq_false (by omega)
          have TK : l1.take k = l1 := List.take_of_length_le (by rw [N1.out]; exact Nat.le_refl _)
          have RL0 := fold_len [] (l1.map (ownX l2))
          rw [List.length_map, N1.out, List.length_nil] at RL0
          rw [TK] at S
          obtain ⟨R1, hR1⟩ : ∃ R1, R1 = foldL [] (l1.map (ownX l2)) := ⟨_, rfl⟩
          rw [← hR1] at S JM RL0
          have RL1 := Lib.hid (show R1.length ≤ k by omega)
          clear TK RL0 hR1
          go_wp2_with fail
          go_loopw [5, 9] (fun s5 s9 wv => ∃ i : Nat, i ≤ n2 ∧ s9 = .int .i64 (i : Nat) ∧ Hid (RjS W wv (foldL R1 ((l2.take i).map (heardX l1))) s5)) (fun _ s9 _ => n2 - (intOf s9).toNat)
          case atStart => exact ⟨0, Nat.zero_le _, rfl, Lib.hid ⟨a5, n5, c5, rfl, S.out, BR.out⟩⟩
          case round =>
            obtain ⟨i, hi, rfl, hS⟩ := hrel
            obtain ⟨a6, n6, c6, rfl, hL6, hBv⟩ := hS.out
            replace S := Lib.hid hL6
            have BV := Lib.hid hBv
            clear hS hL6 hBv BR
            by_cases hlt2 : i < n2
            · have hil : i < l2.length := by rw [N2.out]; exact hlt2
              have di : decide ((i : Int) < (n2 : Int)) = true := decide_eq_true (by omega)
              have FN := Lib.hid (foldL_next (heardX l1) R1 hil)
              have OX := Lib.hid (L2.out.okAt hlt2)
              have SL : n6 ≤ k + i := by
                have h3 := fold_len R1 ((l2.take i).map (heardX l1))
                rw [S.out.len, List.length_map, List.length_take] at h3
                have := RL1.out
                omega
              have RL := Lib.hid (show n6 ≤ 100000 by omega)
              clear hil SL
              obtain ⟨b, off, rfl, -, -, x0, x1, x2⟩ := (L2.out.below BV.out).cell hlt2
              generalize l2.getD i default = x at *
              generalize foldL R1 ((l2.take i).map (heardX l1)) = R at *
              have i0 : (0 : Int) ≤ (i : Int) := by omega
              have i1 : (i : Int) < (n2 : Int) := by omega
              have HX := Lib.hid (show xV x = .agg #[.int .i64 x.f, .int .u64 (x.n : Int), .int .u64 (x.t : Int)] from rfl)
              have FC := Lib.hid (rfind_any (L1.out.below BV.out) (x := x) rfl rfl)
              rw [HX.out] at FC
              rcases findK_some (x := x) (goodL_iff.1 G1.out).2 k N1.out with ⟨j, hj, ej, hf⟩ | ⟨ej, hf⟩
              · rw [ej] at FC
                generalize moreX l1 x = mb at *
                have FE := Lib.hid (heardX_some hf)
                rw [FE.out] at FN
                have dj : decide ((j : Int) < 0) = false := decide_eq_false (by omega)
                clear hf FE ej
                go_wp2_with fail
                refine FC.out.mono ?_
                rintro e w2 ⟨rfl, hb⟩
                have B2 := Lib.hid (BV.out.trans (hb.mono BV.out.size))
                have S2 := Lib.hid (S.out.below hb)
                clear x0 x1 x2 hb FC
                go_wp2_with fail
                go_roundw
                case rel => exact ⟨i + 1, by omega, by go_num, Lib.hid ⟨a6, _, c6, rfl, by rw [FN.out]; exact S2.out, B2.out⟩⟩
                case measure => simp only [intOf]; omega
              · rw [ej] at FC
                have FE := Lib.hid (heardX_none hf)
                cases hmx : moreX l1 x
                · rw [hmx] at FC FE
                  rw [FE.out] at FN
                  clear hf hmx FE ej
                  go_wp2_with fail
                  refine FC.out.mono ?_
                  rintro e w2 ⟨rfl, hb⟩
                  have B2 := Lib.hid (BV.out.trans (hb.mono BV.out.size))
                  have S2 := Lib.hid (S.out.below hb)
                  have d0 := cell_go x0 hb
                  have d1 := cell_go x1 hb
                  have d2 := cell_go x2 hb
                  clear x0 x1 x2 hb FC
                  have AC := Lib.hid (radd_any (x := x) S2.out RL.out OX.out rfl)
                  rw [HX.out] at AC
                  go_wp2_with fail
                  refine AC.out.mono ?_
                  rintro e w3 ⟨a8, c8, rfl, hL, hb⟩
                  have L8 := Lib.hid hL
                  have B3 := Lib.hid (B2.out.trans (hb.mono B2.out.size))
                  clear hL hb AC d0 d1 d2
                  go_wp2_with fail
                  go_roundw
                  case rel => exact ⟨i + 1, by omega, by go_num, Lib.hid ⟨a8, _, c8, rfl, by rw [FN.out]; exact L8.out.mono (fun _ _ _ => trivial), B3.out⟩⟩
                  case measure => simp only [intOf]; omega
                · rw [hmx] at FC FE
                  rw [FE.out] at FN
                  clear hf hmx FE ej
                  go_wp2_with fail
                  refine FC.out.mono ?_
                  rintro e w2 ⟨rfl, hb⟩
                  have B2 := Lib.hid (BV.out.trans (hb.mono BV.out.size))
                  have S2 := Lib.hid (S.out.below hb)
                  clear x0 x1 x2 hb FC
                  go_wp2_with fail
                  go_roundw
                  case rel => exact ⟨i + 1, by omega, by go_num, Lib.hid ⟨a6, _, c6, rfl, by rw [FN.out]; exact S2.out, B2.out⟩⟩
                  case measure => simp only [intOf]; omega
            · obtain rfl : i = n2 := by omega
              have di : decide ((i : Int) < (i : Int)) = false := decide_eq_false (by omega)
              have TK : l2.take i = l2 := List.take_of_length_le (by rw [N2.out]; exact Nat.le_refl _)
              rw [TK, JM.out] at S
              obtain rfl := S.out.len
              clear TK
              go_wp2_with fail
              go_ret
              exact ⟨a6, c6, rfl, S.out, BV.out⟩

end Go.Proofs.Ytbmpeadoicjpnaa
