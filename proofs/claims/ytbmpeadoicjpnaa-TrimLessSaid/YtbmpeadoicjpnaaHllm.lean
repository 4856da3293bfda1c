/-
  TrimLess.
-/
import Derived.Test.YtbmpeadoicjpnaaHawm
import Derived.Test.YtbmpeadoicjpnaaMag
import Derived.Test.YtbmpeadoicjpnaaWregm
import Derived.Deep.RegionHeld3
import Derived.Deep.Cut
import Derived.Deep.CutBlock
import Derived.Deep.CutRange
namespace Go.Proofs.Ytbmpeadoicjpnaa
open Go.RowKit Go.Sort

/-- Both are made. -/
def LessW (V : World) (l : List Le) (n ts : Nat) (d : Int) (v9 v10 : Value) (wx : World) : Prop :=
  ∃ px py a5 c5 a6 c6, v9 = .pointer (some ⟨px, 0, none⟩) ∧ v10 = .pointer (some ⟨py, 0, none⟩) ∧ wx.cell? ⟨px, 0, none⟩ = some (.slice a5 n c5) ∧ wx.cell? ⟨py, 0, none⟩ = some (.slice a6 n c6) ∧ LgAt (fun _ => True) wx a5 c5 n (butL l ts (-1)) ∧ LgAt (fun _ => True) wx a6 c6 n (butL l ts d) ∧ Below V.heap.size V wx

set_option maxRecDepth 20000 in
set_option maxHeartbeats 8000000 in
theorem law_TrimLess (l : List Le) (ao : Option Addr) (cap ts : Nat) (d : Int) (W : World) (h : LgAt (fun _ => True) W ao cap l.length l) (hto : ts < 18446744073709551616) (hd : IntOk d) :
    Calls Try.prog 7 #[.slice ao l.length cap, .int .u64 (ts : Int), .int .i64 d] W fun e w' => e = .returned (.bool true) ∧ Below W.heap.size W w' := by
  obtain ⟨n, hn⟩ : ∃ n, n = l.length := ⟨_, rfl⟩
  rw [← hn] at h ⊢
  have HN := Lib.hid hn.symm
  have L0 := Lib.hid h
  have HT := Lib.hid hto
  have HD := Lib.hid hd
  have AW := Lib.hid (awake_any W)
  clear h hn
  go_enter Try.func7, Try.ntmps7
  go_wp2_with fail
  refine AW.out.mono ?_
  rintro e w1 ⟨rfl, hb⟩
  obtain ⟨U, hU⟩ : ∃ U, U = w1.alloc (.cells #[.slice ao n cap] 29) := ⟨_, rfl⟩
  have bU := Lib.hid (show Below W.heap.size W U from hb.trans (by rw [hU]; exact (boxb w1 _).mono hb.size))
  have CU := Lib.hid (show Cel 1 U w1.heap.size (gcE ao n cap) by rw [hU]; exact boxG w1 ao n cap _)
  have g0 : U.cell? ⟨w1.heap.size, 0, none⟩ = some (.slice ao n cap) := CU.out.c 0 (by decide)
  have HU := Lib.hid hU.symm
  clear hb hU AW
  by_cases h40 : n > 40
  · have d1 : decide ((n : Int) > 40) = true := decide_eq_true (by omega)
    have d1' : decide (40 < n) = true := decide_eq_true h40
    go_upto_region 4 with fail
    rw [HU.out]
    go_wp2_with fail
    go_ret
    exact ⟨rfl, bU.out⟩
  · have d1 : decide ((n : Int) > 40) = false := decide_eq_false (by omega)
    have d1' : decide (40 < n) = false := decide_eq_false h40
    go_upto_region 4 with fail
    rw [HU.out]
    clear HU
    generalize w1.heap.size = pg at *
    go_wp2_with fail
    refine (tgood_any (L0.out.below bU.out) rfl).mono ?_
    rintro e V ⟨rfl, hb⟩
    have bV := Lib.hid (bU.out.trans (hb.mono bU.out.size))
    have CC := Lib.hid (CU.out.below hb)
    have CG := Lib.hid (CC.out.c 0 (by decide))
    have L := Lib.hid (L0.out.below bV.out)
    clear hb g0 CU
    cases hg : goodL l
    · clear hg
      go_wp2_with fail
      go_ret
      exact ⟨rfl, bV.out⟩
    · have HG := Lib.hid hg
      by_cases hd0 : d < 0
      · have d2 : decide (d < 0) = true := decide_eq_true hd0
        go_wp2_with fail
        go_ret
        exact ⟨rfl, bV.out⟩
      have d2 : decide (d < 0) = false := decide_eq_false hd0
      by_cases hd1 : d > 15
      · have d3 : decide (d > 15) = true := decide_eq_true hd1
        have d3' : decide (15 < d) = true := decide_eq_true hd1
        go_wp2_with fail
        go_ret
        exact ⟨rfl, bV.out⟩
      have d3 : decide (d > 15) = false := decide_eq_false hd1
      have d3' : decide (15 < d) = false := decide_eq_false hd1
      clear hg
      go_upto_region 7 with fail
      go_cut [9, 10] from 33 to 39 (fun v9 v10 wx => LessW V l n ts d v9 v10 wx)
      case first =>
        refine wp_region_noPanic ?_
        refine wp_region_z (S := (fun w' => w'.cell? ⟨pg, 0, none⟩ = some (.slice ao n cap) ∧ Hid (Below V.heap.size V w'))) (z := 10) (by kernel_rfl) ?_ (fun hHeld => ?_)
        · exact ⟨cell_go CG.out (drew_below V), Lib.hid (drew_below V)⟩
        generalize V.drew = w_ at *
        refine anyZ_take (i := 0) (oi := { dst := some 33, op := Op.load 29 (Operand.tmp 7), type := 29, pos := "more.go:18", after := #[], guard := none }) (v := ?_) rfl (by kernel_rfl) (by kernel_rfl) (by kernel_rfl) (by kernel_rfl) (fun _ _ _ h => h) (Or.inl ⟨by rfl, ?_⟩) (by assumption) ?_
        rotate_left
        · (intro w hSw; (try dsimp only at hSw); go_simp; try with_reducible rfl)
        ((try simp only [Act.put]); (try simp only [List.setIfInBounds_toArray]); (try simp only [List.set_cons_succ]); (try simp only [List.set_cons_zero]))
        refine anyZ_take (i := 1) (oi := { dst := some 34, op := Op.move (Operand.tmp 8), type := 24, pos := "more.go:18", after := #[], guard := none }) (v := ?_) rfl (by kernel_rfl) (by kernel_rfl) (by kernel_rfl) (by kernel_rfl) (fun _ _ _ h => h) (Or.inl ⟨by rfl, ?_⟩) (by assumption) ?_
        rotate_left
        · (intro w hSw; (try dsimp only at hSw); go_simp; try with_reducible rfl)
        ((try simp only [Act.put]); (try simp only [List.setIfInBounds_toArray]); (try simp only [List.set_cons_succ]); (try simp only [List.set_cons_zero]))
        refine anyZ_take (i := 3) (oi := { dst := some 36, op := Op.load 29 (Operand.tmp 7), type := 29, pos := "more.go:18", after := #[], guard := none }) (v := ?_) rfl (by kernel_rfl) (by kernel_rfl) (by kernel_rfl) (by kernel_rfl) (fun _ _ _ h => h) (Or.inl ⟨by rfl, ?_⟩) (by assumption) ?_
        rotate_left
        · (intro w hSw; (try dsimp only at hSw); go_simp; try with_reducible rfl)
        ((try simp only [Act.put]); (try simp only [List.setIfInBounds_toArray]); (try simp only [List.set_cons_succ]); (try simp only [List.set_cons_zero]))
        refine anyZ_take (i := 4) (oi := { dst := some 37, op := Op.move (Operand.tmp 8), type := 24, pos := "more.go:18", after := #[], guard := none }) (v := ?_) rfl (by kernel_rfl) (by kernel_rfl) (by kernel_rfl) (by kernel_rfl) (fun _ _ _ h => h) (Or.inl ⟨by rfl, ?_⟩) (by assumption) ?_
        rotate_left
        · (intro w hSw; (try dsimp only at hSw); go_simp; try with_reducible rfl)
        ((try simp only [Act.put]); (try simp only [List.setIfInBounds_toArray]); (try simp only [List.set_cons_succ]); (try simp only [List.set_cons_zero]))
        refine anyZ_take (i := 5) (oi := { dst := some 38, op := Op.move (Operand.tmp 2), type := 3, pos := "more.go:18", after := #[], guard := none }) (v := ?_) rfl (by kernel_rfl) (by kernel_rfl) (by kernel_rfl) (by kernel_rfl) (fun _ _ _ h => h) (Or.inl ⟨by rfl, ?_⟩) (by assumption) ?_
        rotate_left
        · (intro w hSw; (try dsimp only at hSw); go_simp; try with_reducible rfl)
        ((try simp only [Act.put]); (try simp only [List.setIfInBounds_toArray]); (try simp only [List.set_cons_succ]); (try simp only [List.set_cons_zero]))
        refine anyZ_ready (rs := [2, 7, 8]) (by kernel_rfl) (by simp) ?_
        refine AllZ.cons (o := { dst := some 35, op := Op.call { callee := Callee.value (Operand.func 10), args := #[Operand.tmp 33, Operand.tmp 34], argTypes := #[29, 24] }, type := 29, pos := "more.go:18", after := #[{ on := 0, ground := Ground.data }, { on := 1, ground := Ground.data }], guard := none }) rfl (fun K hK => ?_) (AllZ.cons (o := { dst := some 9, op := Op.alloc 29, type := 0, pos := "more.go:18", after := #[], guard := none }) rfl (fun K hK => ?_) (AllZ.cons (o := { dst := some 10, op := Op.alloc 29, type := 0, pos := "more.go:18", after := #[], guard := none }) rfl (fun K hK => ?_) AllZ.nil))
        · skip
          go_simp
          refine (less_any (L.out.below (Hid.out hHeld.2)) (by omega) HT.out).mono ?_
          rintro e1 w_2 ⟨a5, c5, rfl, hO, hO2, hb⟩
          have X := Lib.hid ((hO.at hO2).mono (A' := fun k => True) (fun k hk hA => by trivial))
          clear hO hO2
          refine hK.out _ _ ?_ (fun hNew => ?_)
          · first | exact ⟨cell_go hHeld.1 hb, Lib.hid ((Hid.out hHeld.2).trans (hb.mono (Hid.out hHeld.2).size))⟩ | exact ⟨HS.out, Lib.hid BS.out⟩
          clear hK K
          replace hHeld := hNew
          clear hNew
          ((try simp only [Act.put]); (try simp only [List.setIfInBounds_toArray]); (try simp only [List.set_cons_succ]); (try simp only [List.set_cons_zero]))
          refine anyZ_ready (rs := [6, 7, 8]) (by kernel_rfl) (by simp) ?_
          refine AllZ.cons (o := { dst := some 39, op := Op.call { callee := Callee.value (Operand.func 12), args := #[Operand.tmp 36, Operand.tmp 37, Operand.tmp 38], argTypes := #[29, 24, 3] }, type := 29, pos := "more.go:18", after := #[{ on := 3, ground := Ground.data }, { on := 4, ground := Ground.data }, { on := 5, ground := Ground.data }, { on := 2, ground := Ground.chain }], guard := none }) rfl (fun K hK => ?_) (AllZ.cons (o := { dst := some 9, op := Op.alloc 29, type := 0, pos := "more.go:18", after := #[], guard := none }) rfl (fun K hK => ?_) (AllZ.cons (o := { dst := some 10, op := Op.alloc 29, type := 0, pos := "more.go:18", after := #[], guard := none }) rfl (fun K hK => ?_) AllZ.nil))
          · skip
            go_simp
            refine (but_any (L.out.below (Hid.out hHeld.2)) (by omega) HT.out HD.out).mono ?_
            rintro e1 w_2_6 ⟨a6, c6, rfl, hO, hO2, hb⟩
            replace X := Lib.hid (X.out.below hb)
            have Y := Lib.hid ((hO.at hO2).mono (A' := fun k => True) (fun k hk hA => by trivial))
            clear hO hO2
            refine hK.out _ _ ?_ (fun hNew => ?_)
            · first | exact ⟨cell_go hHeld.1 hb, Lib.hid ((Hid.out hHeld.2).trans (hb.mono (Hid.out hHeld.2).size))⟩ | exact ⟨HS.out, Lib.hid BS.out⟩
            clear hK K
            replace hHeld := hNew
            clear hNew
            ((try simp only [Act.put]); (try simp only [List.setIfInBounds_toArray]); (try simp only [List.set_cons_succ]); (try simp only [List.set_cons_zero]))
            refine anyZ_ready (rs := [7, 8]) (by kernel_rfl) (by simp) ?_
            refine AllZ.cons (o := { dst := some 9, op := Op.alloc 29, type := 0, pos := "more.go:18", after := #[], guard := none }) rfl (fun K hK => ?_) (AllZ.cons (o := { dst := some 10, op := Op.alloc 29, type := 0, pos := "more.go:18", after := #[], guard := none }) rfl (fun K hK => ?_) AllZ.nil)
            · skip
              go_simp
              obtain ⟨w_2_6_7, hw⟩ : ∃ w, w = w_2_6.alloc (.cells #[.slice none 0 0] 29) := ⟨_, rfl⟩
              obtain ⟨px, hp⟩ : ∃ p, p = w_2_6.heap.size := ⟨_, rfl⟩
              have hb : Below w_2_6.heap.size w_2_6 w_2_6_7 := by rw [hw]; exact boxb _ _
              have Cpx := Lib.hid (show Cel 1 w_2_6_7 px (gcE none 0 0) by rw [hw, hp]; exact boxG _ none 0 0 _)
              have Vpx : V.heap.size ≤ px := by rw [hp]; exact (Hid.out hHeld.2).size
              replace X := Lib.hid ((X.out.mono (A' := fun k => k ≠ px) (fun k hk hA => by show k ≠ _; omega)).below hb)
              replace Y := Lib.hid ((Y.out.mono (A' := fun k => k ≠ px) (fun k hk hA => by show k ≠ _; omega)).below hb)
              rw [← hw, ← hp]
              clear hw hp
              refine hK.out _ _ ?_ (fun hNew => ?_)
              · first | exact ⟨cell_go hHeld.1 hb, Lib.hid ((Hid.out hHeld.2).trans (hb.mono (Hid.out hHeld.2).size))⟩ | exact ⟨HS.out, Lib.hid BS.out⟩
              clear hK K
              replace hHeld := hNew
              clear hNew
              ((try simp only [Act.put]); (try simp only [List.setIfInBounds_toArray]); (try simp only [List.set_cons_succ]); (try simp only [List.set_cons_zero]))
              refine anyZ_ready (rs := [8]) (by kernel_rfl) (by simp) ?_
              refine AllZ.cons (o := { dst := some 10, op := Op.alloc 29, type := 0, pos := "more.go:18", after := #[], guard := none }) rfl (fun K hK => ?_) AllZ.nil
              go_simp
              obtain ⟨w_2_6_7_8, hw⟩ : ∃ w, w = w_2_6_7.alloc (.cells #[.slice none 0 0] 29) := ⟨_, rfl⟩
              obtain ⟨py, hp⟩ : ∃ p, p = w_2_6_7.heap.size := ⟨_, rfl⟩
              have hb : Below w_2_6_7.heap.size w_2_6_7 w_2_6_7_8 := by rw [hw]; exact boxb _ _
              have Cpy := Lib.hid (show Cel 1 w_2_6_7_8 py (gcE none 0 0) by rw [hw, hp]; exact boxG _ none 0 0 _)
              have Vpy : V.heap.size ≤ py := by rw [hp]; exact (Hid.out hHeld.2).size
              have Npx : px ≠ py := by have := Cpx.out.lt; omega
              replace X := Lib.hid ((X.out.mono (A' := fun k => k ≠ px ∧ k ≠ py) (fun k hk hA => by have hA2 : k ≠ px := hA; exact ⟨hA2, by omega⟩)).below hb)
              replace Y := Lib.hid ((Y.out.mono (A' := fun k => k ≠ px ∧ k ≠ py) (fun k hk hA => by have hA2 : k ≠ px := hA; exact ⟨hA2, by omega⟩)).below hb)
              replace Cpx := Lib.hid (Cpx.out.below hb)
              rw [← hw, ← hp]
              clear hw hp
              refine hK.out _ _ ?_ (fun hNew => ?_)
              · first | exact ⟨cell_go hHeld.1 hb, Lib.hid ((Hid.out hHeld.2).trans (hb.mono (Hid.out hHeld.2).size))⟩ | exact ⟨HS.out, Lib.hid BS.out⟩
              clear hK K
              replace hHeld := hNew
              clear hNew
              ((try simp only [Act.put]); (try simp only [List.setIfInBounds_toArray]); (try simp only [List.set_cons_succ]); (try simp only [List.set_cons_zero]))
              refine anyZ_ready (rs := [9]) (by kernel_rfl) (by simp) ?_
              refine AllZ.cons (o := { dst := none, op := Op.store 29 (Operand.tmp 9) (Operand.tmp 35), type := 0, pos := "more.go:18", after := #[{ on := 7, ground := Ground.data }, { on := 2, ground := Ground.data }, { on := 6, ground := Ground.chain }, { on := 0, ground := Ground.phase }, { on := 1, ground := Ground.phase }, { on := 2, ground := Ground.phase }, { on := 3, ground := Ground.textOnly Departure.lateStores }, { on := 4, ground := Ground.textOnly Departure.lateStores }, { on := 5, ground := Ground.textOnly Departure.lateStores }, { on := 6, ground := Ground.textOnly Departure.lateStoresUnsure }, { on := 7, ground := Ground.phase }, { on := 8, ground := Ground.phase }], guard := none }) rfl (fun K hK => ?_) AllZ.nil
              go_simp
              have s1 := Cpx.out.c 0 (by decide)
              have s2 := Cpx.out.fz 0
              try go_simp
              obtain ⟨w_2_6_7_8_9, hw⟩ : ∃ w, w = w_2_6_7_8.setCell ⟨px, 0, none⟩ (.slice a5 n c5) := ⟨_, rfl⟩
              have hk : Keep (fun k => k = px) w_2_6_7_8 w_2_6_7_8_9 := by rw [hw]; exact (Keep.refl _ _).put 0 _
              replace X := Lib.hid (X.out.keep hk (fun k hA => hA.1))
              replace Y := Lib.hid (Y.out.keep hk (fun k hA => hA.1))
              replace Cpy := Lib.hid (Cpy.out.keep hk (by omega))
              replace Cpx := Lib.hid (show Cel 1 w_2_6_7_8_9 px (gcE a5 n c5) by rw [hw]; exact (Cpx.out.put 0 _).conv (fun o ho => by rcases (show o = 0 by omega) with rfl; rfl))
              have BS := Lib.hid (show Below V.heap.size V w_2_6_7_8_9 by rw [hw]; exact (Hid.out hHeld.2).setCell (by omega) _)
              have HS := Lib.hid (show w_2_6_7_8_9.cell? ⟨pg, 0, none⟩ = some (.slice ao n cap) from cell_go CG.out BS.out)
              rw [← hw]
              clear hw hk s1 s2
              refine hK.out _ _ ?_ (fun hNew => ?_)
              · first | exact ⟨cell_go hHeld.1 hb, Lib.hid ((Hid.out hHeld.2).trans (hb.mono (Hid.out hHeld.2).size))⟩ | exact ⟨HS.out, Lib.hid BS.out⟩
              clear hK K
              replace hHeld := hNew
              clear hNew
              ((try simp only [Act.put]); (try simp only [List.setIfInBounds_toArray]); (try simp only [List.set_cons_succ]); (try simp only [List.set_cons_zero]))
              refine anyZ_ready (rs := [10]) (by kernel_rfl) (by simp) ?_
              refine AllZ.last (o := { dst := none, op := Op.store 29 (Operand.tmp 10) (Operand.tmp 39), type := 0, pos := "more.go:18", after := #[{ on := 8, ground := Ground.data }, { on := 6, ground := Ground.data }, { on := 9, ground := Ground.chain }, { on := 0, ground := Ground.phase }, { on := 1, ground := Ground.phase }, { on := 2, ground := Ground.phase }, { on := 3, ground := Ground.phase }, { on := 4, ground := Ground.phase }, { on := 5, ground := Ground.phase }, { on := 6, ground := Ground.phase }, { on := 7, ground := Ground.phase }, { on := 8, ground := Ground.phase }, { on := 9, ground := Ground.phase }], guard := none }) rfl (fun K hK => ?_)
              go_simp
              have s1 := Cpy.out.c 0 (by decide)
              have s2 := Cpy.out.fz 0
              try go_simp
              obtain ⟨w_2_6_7_8_9_10, hw⟩ : ∃ w, w = w_2_6_7_8_9.setCell ⟨py, 0, none⟩ (.slice a6 n c6) := ⟨_, rfl⟩
              have hk : Keep (fun k => k = py) w_2_6_7_8_9 w_2_6_7_8_9_10 := by rw [hw]; exact (Keep.refl _ _).put 0 _
              replace X := Lib.hid (X.out.keep hk (fun k hA => hA.2))
              replace Y := Lib.hid (Y.out.keep hk (fun k hA => hA.2))
              replace Cpx := Lib.hid (Cpx.out.keep hk (by omega))
              replace Cpy := Lib.hid (show Cel 1 w_2_6_7_8_9_10 py (gcE a6 n c6) by rw [hw]; exact (Cpy.out.put 0 _).conv (fun o ho => by rcases (show o = 0 by omega) with rfl; rfl))
              have BS := Lib.hid (show Below V.heap.size V w_2_6_7_8_9_10 by rw [hw]; exact (Hid.out hHeld.2).setCell (by omega) _)
              have HS := Lib.hid (show w_2_6_7_8_9_10.cell? ⟨pg, 0, none⟩ = some (.slice ao n cap) from cell_go CG.out BS.out)
              rw [← hw]
              clear hw hk s1 s2
              refine hK.out _ _ ?_
              clear hK K
              ((try simp only [Act.put]); (try simp only [List.setIfInBounds_toArray]); (try simp only [List.set_cons_succ]); (try simp only [List.set_cons_zero]))
              refine anyZ_done (by kernel_rfl) ?_ _
              refine NoPanic.normal ?_
              go_wp2_with fail
              go_meet
              exact ⟨px, py, a5, c5, a6, c6, rfl, rfl, Cpx.out.c 0 (by decide), Cpy.out.c 0 (by decide), X.out.mono (fun _ _ _ => trivial), Y.out.mono (fun _ _ _ => trivial), BS.out⟩
            · skip
              go_simp
              obtain ⟨w_2_6_8, hw⟩ : ∃ w, w = w_2_6.alloc (.cells #[.slice none 0 0] 29) := ⟨_, rfl⟩
              obtain ⟨py, hp⟩ : ∃ p, p = w_2_6.heap.size := ⟨_, rfl⟩
              have hb : Below w_2_6.heap.size w_2_6 w_2_6_8 := by rw [hw]; exact boxb _ _
              have Cpy := Lib.hid (show Cel 1 w_2_6_8 py (gcE none 0 0) by rw [hw, hp]; exact boxG _ none 0 0 _)
              have Vpy : V.heap.size ≤ py := by rw [hp]; exact (Hid.out hHeld.2).size
              replace X := Lib.hid ((X.out.mono (A' := fun k => k ≠ py) (fun k hk hA => by show k ≠ _; omega)).below hb)
              replace Y := Lib.hid ((Y.out.mono (A' := fun k => k ≠ py) (fun k hk hA => by show k ≠ _; omega)).below hb)
              rw [← hw, ← hp]
              clear hw hp
              refine hK.out _ _ ?_ (fun hNew => ?_)
              · first | exact ⟨cell_go hHeld.1 hb, Lib.hid ((Hid.out hHeld.2).trans (hb.mono (Hid.out hHeld.2).size))⟩ | exact ⟨HS.out, Lib.hid BS.out⟩
              clear hK K
              replace hHeld := hNew
              clear hNew
              ((try simp only [Act.put]); (try simp only [List.setIfInBounds_toArray]); (try simp only [List.set_cons_succ]); (try simp only [List.set_cons_zero]))
              refine anyZ_ready (rs := [7]) (by kernel_rfl) (by simp) ?_
              refine AllZ.cons (o := { dst := some 9, op := Op.alloc 29, type := 0, pos := "more.go:18", after := #[], guard := none }) rfl (fun K hK => ?_) AllZ.nil
              go_simp
              obtain ⟨w_2_6_8_7, hw⟩ : ∃ w, w = w_2_6_8.alloc (.cells #[.slice none 0 0] 29) := ⟨_, rfl⟩
              obtain ⟨px, hp⟩ : ∃ p, p = w_2_6_8.heap.size := ⟨_, rfl⟩
              have hb : Below w_2_6_8.heap.size w_2_6_8 w_2_6_8_7 := by rw [hw]; exact boxb _ _
              have Cpx := Lib.hid (show Cel 1 w_2_6_8_7 px (gcE none 0 0) by rw [hw, hp]; exact boxG _ none 0 0 _)
              have Vpx : V.heap.size ≤ px := by rw [hp]; exact (Hid.out hHeld.2).size
              have Npy : py ≠ px := by have := Cpy.out.lt; omega
              replace X := Lib.hid ((X.out.mono (A' := fun k => k ≠ px ∧ k ≠ py) (fun k hk hA => by have hA2 : k ≠ py := hA; exact ⟨by omega, hA2⟩)).below hb)
              replace Y := Lib.hid ((Y.out.mono (A' := fun k => k ≠ px ∧ k ≠ py) (fun k hk hA => by have hA2 : k ≠ py := hA; exact ⟨by omega, hA2⟩)).below hb)
              replace Cpy := Lib.hid (Cpy.out.below hb)
              rw [← hw, ← hp]
              clear hw hp
              refine hK.out _ _ ?_ (fun hNew => ?_)
              · first | exact ⟨cell_go hHeld.1 hb, Lib.hid ((Hid.out hHeld.2).trans (hb.mono (Hid.out hHeld.2).size))⟩ | exact ⟨HS.out, Lib.hid BS.out⟩
              clear hK K
              replace hHeld := hNew
              clear hNew
              ((try simp only [Act.put]); (try simp only [List.setIfInBounds_toArray]); (try simp only [List.set_cons_succ]); (try simp only [List.set_cons_zero]))
              refine anyZ_ready (rs := [9]) (by kernel_rfl) (by simp) ?_
              refine AllZ.cons (o := { dst := none, op := Op.store 29 (Operand.tmp 9) (Operand.tmp 35), type := 0, pos := "more.go:18", after := #[{ on := 7, ground := Ground.data }, { on := 2, ground := Ground.data }, { on := 6, ground := Ground.chain }, { on := 0, ground := Ground.phase }, { on := 1, ground := Ground.phase }, { on := 2, ground := Ground.phase }, { on := 3, ground := Ground.textOnly Departure.lateStores }, { on := 4, ground := Ground.textOnly Departure.lateStores }, { on := 5, ground := Ground.textOnly Departure.lateStores }, { on := 6, ground := Ground.textOnly Departure.lateStoresUnsure }, { on := 7, ground := Ground.phase }, { on := 8, ground := Ground.phase }], guard := none }) rfl (fun K hK => ?_) AllZ.nil
              go_simp
              have s1 := Cpx.out.c 0 (by decide)
              have s2 := Cpx.out.fz 0
              try go_simp
              obtain ⟨w_2_6_8_7_9, hw⟩ : ∃ w, w = w_2_6_8_7.setCell ⟨px, 0, none⟩ (.slice a5 n c5) := ⟨_, rfl⟩
              have hk : Keep (fun k => k = px) w_2_6_8_7 w_2_6_8_7_9 := by rw [hw]; exact (Keep.refl _ _).put 0 _
              replace X := Lib.hid (X.out.keep hk (fun k hA => hA.1))
              replace Y := Lib.hid (Y.out.keep hk (fun k hA => hA.1))
              replace Cpy := Lib.hid (Cpy.out.keep hk (by omega))
              replace Cpx := Lib.hid (show Cel 1 w_2_6_8_7_9 px (gcE a5 n c5) by rw [hw]; exact (Cpx.out.put 0 _).conv (fun o ho => by rcases (show o = 0 by omega) with rfl; rfl))
              have BS := Lib.hid (show Below V.heap.size V w_2_6_8_7_9 by rw [hw]; exact (Hid.out hHeld.2).setCell (by omega) _)
              have HS := Lib.hid (show w_2_6_8_7_9.cell? ⟨pg, 0, none⟩ = some (.slice ao n cap) from cell_go CG.out BS.out)
              rw [← hw]
              clear hw hk s1 s2
              refine hK.out _ _ ?_ (fun hNew => ?_)
              · first | exact ⟨cell_go hHeld.1 hb, Lib.hid ((Hid.out hHeld.2).trans (hb.mono (Hid.out hHeld.2).size))⟩ | exact ⟨HS.out, Lib.hid BS.out⟩
              clear hK K
              replace hHeld := hNew
              clear hNew
              ((try simp only [Act.put]); (try simp only [List.setIfInBounds_toArray]); (try simp only [List.set_cons_succ]); (try simp only [List.set_cons_zero]))
              refine anyZ_ready (rs := [10]) (by kernel_rfl) (by simp) ?_
              refine AllZ.last (o := { dst := none, op := Op.store 29 (Operand.tmp 10) (Operand.tmp 39), type := 0, pos := "more.go:18", after := #[{ on := 8, ground := Ground.data }, { on := 6, ground := Ground.data }, { on := 9, ground := Ground.chain }, { on := 0, ground := Ground.phase }, { on := 1, ground := Ground.phase }, { on := 2, ground := Ground.phase }, { on := 3, ground := Ground.phase }, { on := 4, ground := Ground.phase }, { on := 5, ground := Ground.phase }, { on := 6, ground := Ground.phase }, { on := 7, ground := Ground.phase }, { on := 8, ground := Ground.phase }, { on := 9, ground := Ground.phase }], guard := none }) rfl (fun K hK => ?_)
              go_simp
              have s1 := Cpy.out.c 0 (by decide)
              have s2 := Cpy.out.fz 0
              try go_simp
              obtain ⟨w_2_6_8_7_9_10, hw⟩ : ∃ w, w = w_2_6_8_7_9.setCell ⟨py, 0, none⟩ (.slice a6 n c6) := ⟨_, rfl⟩
              have hk : Keep (fun k => k = py) w_2_6_8_7_9 w_2_6_8_7_9_10 := by rw [hw]; exact (Keep.refl _ _).put 0 _
              replace X := Lib.hid (X.out.keep hk (fun k hA => hA.2))
              replace Y := Lib.hid (Y.out.keep hk (fun k hA => hA.2))
              replace Cpx := Lib.hid (Cpx.out.keep hk (by omega))
              replace Cpy := Lib.hid (show Cel 1 w_2_6_8_7_9_10 py (gcE a6 n c6) by rw [hw]; exact (Cpy.out.put 0 _).conv (fun o ho => by rcases (show o = 0 by omega) with rfl; rfl))
              have BS := Lib.hid (show Below V.heap.size V w_2_6_8_7_9_10 by rw [hw]; exact (Hid.out hHeld.2).setCell (by omega) _)
              have HS := Lib.hid (show w_2_6_8_7_9_10.cell? ⟨pg, 0, none⟩ = some (.slice ao n cap) from cell_go CG.out BS.out)
              rw [← hw]
              clear hw hk s1 s2
              refine hK.out _ _ ?_
              clear hK K
              ((try simp only [Act.put]); (try simp only [List.setIfInBounds_toArray]); (try simp only [List.set_cons_succ]); (try simp only [List.set_cons_zero]))
              refine anyZ_done (by kernel_rfl) ?_ _
              refine NoPanic.normal ?_
              go_wp2_with fail
              go_meet
              exact ⟨px, py, a5, c5, a6, c6, rfl, rfl, Cpx.out.c 0 (by decide), Cpy.out.c 0 (by decide), X.out.mono (fun _ _ _ => trivial), Y.out.mono (fun _ _ _ => trivial), BS.out⟩
          · skip
            go_simp
            obtain ⟨w_2_7, hw⟩ : ∃ w, w = w_2.alloc (.cells #[.slice none 0 0] 29) := ⟨_, rfl⟩
            obtain ⟨px, hp⟩ : ∃ p, p = w_2.heap.size := ⟨_, rfl⟩
            have hb : Below w_2.heap.size w_2 w_2_7 := by rw [hw]; exact boxb _ _
            have Cpx := Lib.hid (show Cel 1 w_2_7 px (gcE none 0 0) by rw [hw, hp]; exact boxG _ none 0 0 _)
            have Vpx : V.heap.size ≤ px := by rw [hp]; exact (Hid.out hHeld.2).size
            replace X := Lib.hid ((X.out.mono (A' := fun k => k ≠ px) (fun k hk hA => by show k ≠ _; omega)).below hb)
            rw [← hw, ← hp]
            clear hw hp
            refine hK.out _ _ ?_ (fun hNew => ?_)
            · first | exact ⟨cell_go hHeld.1 hb, Lib.hid ((Hid.out hHeld.2).trans (hb.mono (Hid.out hHeld.2).size))⟩ | exact ⟨HS.out, Lib.hid BS.out⟩
            clear hK K
            replace hHeld := hNew
            clear hNew
            ((try simp only [Act.put]); (try simp only [List.setIfInBounds_toArray]); (try simp only [List.set_cons_succ]); (try simp only [List.set_cons_zero]))
            refine anyZ_ready (rs := [6, 8]) (by kernel_rfl) (by simp) ?_
            refine AllZ.cons (o := { dst := some 39, op := Op.call { callee := Callee.value (Operand.func 12), args := #[Operand.tmp 36, Operand.tmp 37, Operand.tmp 38], argTypes := #[29, 24, 3] }, type := 29, pos := "more.go:18", after := #[{ on := 3, ground := Ground.data }, { on := 4, ground := Ground.data }, { on := 5, ground := Ground.data }, { on := 2, ground := Ground.chain }], guard := none }) rfl (fun K hK => ?_) (AllZ.cons (o := { dst := some 10, op := Op.alloc 29, type := 0, pos := "more.go:18", after := #[], guard := none }) rfl (fun K hK => ?_) AllZ.nil)
            · skip
              go_simp
              refine (but_any (L.out.below (Hid.out hHeld.2)) (by omega) HT.out HD.out).mono ?_
              rintro e1 w_2_7_6 ⟨a6, c6, rfl, hO, hO2, hb⟩
              have lpx := Cpx.out.lt
              replace X := Lib.hid (X.out.below hb)
              replace Cpx := Lib.hid (Cpx.out.below hb)
              have Y := Lib.hid ((hO.at hO2).mono (A' := fun k => k ≠ px) (fun k hk hA => by have hA2 : w_2_7.heap.size ≤ k := hA; (first | trivial | (refine ⟨?_, ?_⟩ <;> omega) | (show k ≠ _; omega))))
              clear hO hO2 lpx
              refine hK.out _ _ ?_ (fun hNew => ?_)
              · first | exact ⟨cell_go hHeld.1 hb, Lib.hid ((Hid.out hHeld.2).trans (hb.mono (Hid.out hHeld.2).size))⟩ | exact ⟨HS.out, Lib.hid BS.out⟩
              clear hK K
              replace hHeld := hNew
              clear hNew
              ((try simp only [Act.put]); (try simp only [List.setIfInBounds_toArray]); (try simp only [List.set_cons_succ]); (try simp only [List.set_cons_zero]))
              refine anyZ_ready (rs := [8]) (by kernel_rfl) (by simp) ?_
              refine AllZ.cons (o := { dst := some 10, op := Op.alloc 29, type := 0, pos := "more.go:18", after := #[], guard := none }) rfl (fun K hK => ?_) AllZ.nil
              go_simp
              obtain ⟨w_2_7_6_8, hw⟩ : ∃ w, w = w_2_7_6.alloc (.cells #[.slice none 0 0] 29) := ⟨_, rfl⟩
              obtain ⟨py, hp⟩ : ∃ p, p = w_2_7_6.heap.size := ⟨_, rfl⟩
              have hb : Below w_2_7_6.heap.size w_2_7_6 w_2_7_6_8 := by rw [hw]; exact boxb _ _
              have Cpy := Lib.hid (show Cel 1 w_2_7_6_8 py (gcE none 0 0) by rw [hw, hp]; exact boxG _ none 0 0 _)
              have Vpy : V.heap.size ≤ py := by rw [hp]; exact (Hid.out hHeld.2).size
              have Npx : px ≠ py := by have := Cpx.out.lt; omega
              replace X := Lib.hid ((X.out.mono (A' := fun k => k ≠ px ∧ k ≠ py) (fun k hk hA => by have hA2 : k ≠ px := hA; exact ⟨hA2, by omega⟩)).below hb)
              replace Y := Lib.hid ((Y.out.mono (A' := fun k => k ≠ px ∧ k ≠ py) (fun k hk hA => by have hA2 : k ≠ px := hA; exact ⟨hA2, by omega⟩)).below hb)
              replace Cpx := Lib.hid (Cpx.out.below hb)
              rw [← hw, ← hp]
              clear hw hp
              refine hK.out _ _ ?_ (fun hNew => ?_)
              · first | exact ⟨cell_go hHeld.1 hb, Lib.hid ((Hid.out hHeld.2).trans (hb.mono (Hid.out hHeld.2).size))⟩ | exact ⟨HS.out, Lib.hid BS.out⟩
              clear hK K
              replace hHeld := hNew
              clear hNew
              ((try simp only [Act.put]); (try simp only [List.setIfInBounds_toArray]); (try simp only [List.set_cons_succ]); (try simp only [List.set_cons_zero]))
              refine anyZ_ready (rs := [9]) (by kernel_rfl) (by simp) ?_
              refine AllZ.cons (o := { dst := none, op := Op.store 29 (Operand.tmp 9) (Operand.tmp 35), type := 0, pos := "more.go:18", after := #[{ on := 7, ground := Ground.data }, { on := 2, ground := Ground.data }, { on := 6, ground := Ground.chain }, { on := 0, ground := Ground.phase }, { on := 1, ground := Ground.phase }, { on := 2, ground := Ground.phase }, { on := 3, ground := Ground.textOnly Departure.lateStores }, { on := 4, ground := Ground.textOnly Departure.lateStores }, { on := 5, ground := Ground.textOnly Departure.lateStores }, { on := 6, ground := Ground.textOnly Departure.lateStoresUnsure }, { on := 7, ground := Ground.phase }, { on := 8, ground := Ground.phase }], guard := none }) rfl (fun K hK => ?_) AllZ.nil
              go_simp
              have s1 := Cpx.out.c 0 (by decide)
              have s2 := Cpx.out.fz 0
              try go_simp
              obtain ⟨w_2_7_6_8_9, hw⟩ : ∃ w, w = w_2_7_6_8.setCell ⟨px, 0, none⟩ (.slice a5 n c5) := ⟨_, rfl⟩
              have hk : Keep (fun k => k = px) w_2_7_6_8 w_2_7_6_8_9 := by rw [hw]; exact (Keep.refl _ _).put 0 _
              replace X := Lib.hid (X.out.keep hk (fun k hA => hA.1))
              replace Y := Lib.hid (Y.out.keep hk (fun k hA => hA.1))
              replace Cpy := Lib.hid (Cpy.out.keep hk (by omega))
              replace Cpx := Lib.hid (show Cel 1 w_2_7_6_8_9 px (gcE a5 n c5) by rw [hw]; exact (Cpx.out.put 0 _).conv (fun o ho => by rcases (show o = 0 by omega) with rfl; rfl))
              have BS := Lib.hid (show Below V.heap.size V w_2_7_6_8_9 by rw [hw]; exact (Hid.out hHeld.2).setCell (by omega) _)
              have HS := Lib.hid (show w_2_7_6_8_9.cell? ⟨pg, 0, none⟩ = some (.slice ao n cap) from cell_go CG.out BS.out)
              rw [← hw]
              clear hw hk s1 s2
              refine hK.out _ _ ?_ (fun hNew => ?_)
              · first | exact ⟨cell_go hHeld.1 hb, Lib.hid ((Hid.out hHeld.2).trans (hb.mono (Hid.out hHeld.2).size))⟩ | exact ⟨HS.out, Lib.hid BS.out⟩
              clear hK K
              replace hHeld := hNew
              clear hNew
              ((try simp only [Act.put]); (try simp only [List.setIfInBounds_toArray]); (try simp only [List.set_cons_succ]); (try simp only [List.set_cons_zero]))
              refine anyZ_ready (rs := [10]) (by kernel_rfl) (by simp) ?_
              refine AllZ.last (o := { dst := none, op := Op.store 29 (Operand.tmp 10) (Operand.tmp 39), type := 0, pos := "more.go:18", after := #[{ on := 8, ground := Ground.data }, { on := 6, ground := Ground.data }, { on := 9, ground := Ground.chain }, { on := 0, ground := Ground.phase }, { on := 1, ground := Ground.phase }, { on := 2, ground := Ground.phase }, { on := 3, ground := Ground.phase }, { on := 4, ground := Ground.phase }, { on := 5, ground := Ground.phase }, { on := 6, ground := Ground.phase }, { on := 7, ground := Ground.phase }, { on := 8, ground := Ground.phase }, { on := 9, ground := Ground.phase }], guard := none }) rfl (fun K hK => ?_)
              go_simp
              have s1 := Cpy.out.c 0 (by decide)
              have s2 := Cpy.out.fz 0
              try go_simp
              obtain ⟨w_2_7_6_8_9_10, hw⟩ : ∃ w, w = w_2_7_6_8_9.setCell ⟨py, 0, none⟩ (.slice a6 n c6) := ⟨_, rfl⟩
              have hk : Keep (fun k => k = py) w_2_7_6_8_9 w_2_7_6_8_9_10 := by rw [hw]; exact (Keep.refl _ _).put 0 _
              replace X := Lib.hid (X.out.keep hk (fun k hA => hA.2))
              replace Y := Lib.hid (Y.out.keep hk (fun k hA => hA.2))
              replace Cpx := Lib.hid (Cpx.out.keep hk (by omega))
              replace Cpy := Lib.hid (show Cel 1 w_2_7_6_8_9_10 py (gcE a6 n c6) by rw [hw]; exact (Cpy.out.put 0 _).conv (fun o ho => by rcases (show o = 0 by omega) with rfl; rfl))
              have BS := Lib.hid (show Below V.heap.size V w_2_7_6_8_9_10 by rw [hw]; exact (Hid.out hHeld.2).setCell (by omega) _)
              have HS := Lib.hid (show w_2_7_6_8_9_10.cell? ⟨pg, 0, none⟩ = some (.slice ao n cap) from cell_go CG.out BS.out)
              rw [← hw]
              clear hw hk s1 s2
              refine hK.out _ _ ?_
              clear hK K
              ((try simp only [Act.put]); (try simp only [List.setIfInBounds_toArray]); (try simp only [List.set_cons_succ]); (try simp only [List.set_cons_zero]))
              refine anyZ_done (by kernel_rfl) ?_ _
              refine NoPanic.normal ?_
              go_wp2_with fail
              go_meet
              exact ⟨px, py, a5, c5, a6, c6, rfl, rfl, Cpx.out.c 0 (by decide), Cpy.out.c 0 (by decide), X.out.mono (fun _ _ _ => trivial), Y.out.mono (fun _ _ _ => trivial), BS.out⟩
            · skip
              go_simp
              obtain ⟨w_2_7_8, hw⟩ : ∃ w, w = w_2_7.alloc (.cells #[.slice none 0 0] 29) := ⟨_, rfl⟩
              obtain ⟨py, hp⟩ : ∃ p, p = w_2_7.heap.size := ⟨_, rfl⟩
              have hb : Below w_2_7.heap.size w_2_7 w_2_7_8 := by rw [hw]; exact boxb _ _
              have Cpy := Lib.hid (show Cel 1 w_2_7_8 py (gcE none 0 0) by rw [hw, hp]; exact boxG _ none 0 0 _)
              have Vpy : V.heap.size ≤ py := by rw [hp]; exact (Hid.out hHeld.2).size
              have Npx : px ≠ py := by have := Cpx.out.lt; omega
              replace X := Lib.hid ((X.out.mono (A' := fun k => k ≠ px ∧ k ≠ py) (fun k hk hA => by have hA2 : k ≠ px := hA; exact ⟨hA2, by omega⟩)).below hb)
              replace Cpx := Lib.hid (Cpx.out.below hb)
              rw [← hw, ← hp]
              clear hw hp
              refine hK.out _ _ ?_ (fun hNew => ?_)
              · first | exact ⟨cell_go hHeld.1 hb, Lib.hid ((Hid.out hHeld.2).trans (hb.mono (Hid.out hHeld.2).size))⟩ | exact ⟨HS.out, Lib.hid BS.out⟩
              clear hK K
              replace hHeld := hNew
              clear hNew
              ((try simp only [Act.put]); (try simp only [List.setIfInBounds_toArray]); (try simp only [List.set_cons_succ]); (try simp only [List.set_cons_zero]))
              refine anyZ_ready (rs := [6]) (by kernel_rfl) (by simp) ?_
              refine AllZ.cons (o := { dst := some 39, op := Op.call { callee := Callee.value (Operand.func 12), args := #[Operand.tmp 36, Operand.tmp 37, Operand.tmp 38], argTypes := #[29, 24, 3] }, type := 29, pos := "more.go:18", after := #[{ on := 3, ground := Ground.data }, { on := 4, ground := Ground.data }, { on := 5, ground := Ground.data }, { on := 2, ground := Ground.chain }], guard := none }) rfl (fun K hK => ?_) AllZ.nil
              go_simp
              refine (but_any (L.out.below (Hid.out hHeld.2)) (by omega) HT.out HD.out).mono ?_
              rintro e1 w_2_7_8_6 ⟨a6, c6, rfl, hO, hO2, hb⟩
              have lpx := Cpx.out.lt
              have lpy := Cpy.out.lt
              replace X := Lib.hid (X.out.below hb)
              replace Cpx := Lib.hid (Cpx.out.below hb)
              replace Cpy := Lib.hid (Cpy.out.below hb)
              have Y := Lib.hid ((hO.at hO2).mono (A' := fun k => k ≠ px ∧ k ≠ py) (fun k hk hA => by have hA2 : w_2_7_8.heap.size ≤ k := hA; (first | trivial | (refine ⟨?_, ?_⟩ <;> omega) | (show k ≠ _; omega))))
              clear hO hO2 lpx lpy
              refine hK.out _ _ ?_ (fun hNew => ?_)
              · first | exact ⟨cell_go hHeld.1 hb, Lib.hid ((Hid.out hHeld.2).trans (hb.mono (Hid.out hHeld.2).size))⟩ | exact ⟨HS.out, Lib.hid BS.out⟩
              clear hK K
              replace hHeld := hNew
              clear hNew
              ((try simp only [Act.put]); (try simp only [List.setIfInBounds_toArray]); (try simp only [List.set_cons_succ]); (try simp only [List.set_cons_zero]))
              refine anyZ_ready (rs := [9]) (by kernel_rfl) (by simp) ?_
              refine AllZ.cons (o := { dst := none, op := Op.store 29 (Operand.tmp 9) (Operand.tmp 35), type := 0, pos := "more.go:18", after := #[{ on := 7, ground := Ground.data }, { on := 2, ground := Ground.data }, { on := 6, ground := Ground.chain }, { on := 0, ground := Ground.phase }, { on := 1, ground := Ground.phase }, { on := 2, ground := Ground.phase }, { on := 3, ground := Ground.textOnly Departure.lateStores }, { on := 4, ground := Ground.textOnly Departure.lateStores }, { on := 5, ground := Ground.textOnly Departure.lateStores }, { on := 6, ground := Ground.textOnly Departure.lateStoresUnsure }, { on := 7, ground := Ground.phase }, { on := 8, ground := Ground.phase }], guard := none }) rfl (fun K hK => ?_) AllZ.nil
              go_simp
              have s1 := Cpx.out.c 0 (by decide)
              have s2 := Cpx.out.fz 0
              try go_simp
              obtain ⟨w_2_7_8_6_9, hw⟩ : ∃ w, w = w_2_7_8_6.setCell ⟨px, 0, none⟩ (.slice a5 n c5) := ⟨_, rfl⟩
              have hk : Keep (fun k => k = px) w_2_7_8_6 w_2_7_8_6_9 := by rw [hw]; exact (Keep.refl _ _).put 0 _
              replace X := Lib.hid (X.out.keep hk (fun k hA => hA.1))
              replace Y := Lib.hid (Y.out.keep hk (fun k hA => hA.1))
              replace Cpy := Lib.hid (Cpy.out.keep hk (by omega))
              replace Cpx := Lib.hid (show Cel 1 w_2_7_8_6_9 px (gcE a5 n c5) by rw [hw]; exact (Cpx.out.put 0 _).conv (fun o ho => by rcases (show o = 0 by omega) with rfl; rfl))
              have BS := Lib.hid (show Below V.heap.size V w_2_7_8_6_9 by rw [hw]; exact (Hid.out hHeld.2).setCell (by omega) _)
              have HS := Lib.hid (show w_2_7_8_6_9.cell? ⟨pg, 0, none⟩ = some (.slice ao n cap) from cell_go CG.out BS.out)
              rw [← hw]
              clear hw hk s1 s2
              refine hK.out _ _ ?_ (fun hNew => ?_)
              · first | exact ⟨cell_go hHeld.1 hb, Lib.hid ((Hid.out hHeld.2).trans (hb.mono (Hid.out hHeld.2).size))⟩ | exact ⟨HS.out, Lib.hid BS.out⟩
              clear hK K
              replace hHeld := hNew
              clear hNew
              ((try simp only [Act.put]); (try simp only [List.setIfInBounds_toArray]); (try simp only [List.set_cons_succ]); (try simp only [List.set_cons_zero]))
              refine anyZ_ready (rs := [10]) (by kernel_rfl) (by simp) ?_
              refine AllZ.last (o := { dst := none, op := Op.store 29 (Operand.tmp 10) (Operand.tmp 39), type := 0, pos := "more.go:18", after := #[{ on := 8, ground := Ground.data }, { on := 6, ground := Ground.data }, { on := 9, ground := Ground.chain }, { on := 0, ground := Ground.phase }, { on := 1, ground := Ground.phase }, { on := 2, ground := Ground.phase }, { on := 3, ground := Ground.phase }, { on := 4, ground := Ground.phase }, { on := 5, ground := Ground.phase }, { on := 6, ground := Ground.phase }, { on := 7, ground := Ground.phase }, { on := 8, ground := Ground.phase }, { on := 9, ground := Ground.phase }], guard := none }) rfl (fun K hK => ?_)
              go_simp
              have s1 := Cpy.out.c 0 (by decide)
              have s2 := Cpy.out.fz 0
              try go_simp
              obtain ⟨w_2_7_8_6_9_10, hw⟩ : ∃ w, w = w_2_7_8_6_9.setCell ⟨py, 0, none⟩ (.slice a6 n c6) := ⟨_, rfl⟩
              have hk : Keep (fun k => k = py) w_2_7_8_6_9 w_2_7_8_6_9_10 := by rw [hw]; exact (Keep.refl _ _).put 0 _
              replace X := Lib.hid (X.out.keep hk (fun k hA => hA.2))
              replace Y := Lib.hid (Y.out.keep hk (fun k hA => hA.2))
              replace Cpx := Lib.hid (Cpx.out.keep hk (by omega))
              replace Cpy := Lib.hid (show Cel 1 w_2_7_8_6_9_10 py (gcE a6 n c6) by rw [hw]; exact (Cpy.out.put 0 _).conv (fun o ho => by rcases (show o = 0 by omega) with rfl; rfl))
              have BS := Lib.hid (show Below V.heap.size V w_2_7_8_6_9_10 by rw [hw]; exact (Hid.out hHeld.2).setCell (by omega) _)
              have HS := Lib.hid (show w_2_7_8_6_9_10.cell? ⟨pg, 0, none⟩ = some (.slice ao n cap) from cell_go CG.out BS.out)
              rw [← hw]
              clear hw hk s1 s2
              refine hK.out _ _ ?_
              clear hK K
              ((try simp only [Act.put]); (try simp only [List.setIfInBounds_toArray]); (try simp only [List.set_cons_succ]); (try simp only [List.set_cons_zero]))
              refine anyZ_done (by kernel_rfl) ?_ _
              refine NoPanic.normal ?_
              go_wp2_with fail
              go_meet
              exact ⟨px, py, a5, c5, a6, c6, rfl, rfl, Cpx.out.c 0 (by decide), Cpy.out.c 0 (by decide), X.out.mono (fun _ _ _ => trivial), Y.out.mono (fun _ _ _ => trivial), BS.out⟩
          · skip
            go_simp
            obtain ⟨w_2_8, hw⟩ : ∃ w, w = w_2.alloc (.cells #[.slice none 0 0] 29) := ⟨_, rfl⟩
            obtain ⟨py, hp⟩ : ∃ p, p = w_2.heap.size := ⟨_, rfl⟩
            have hb : Below w_2.heap.size w_2 w_2_8 := by rw [hw]; exact boxb _ _
            have Cpy := Lib.hid (show Cel 1 w_2_8 py (gcE none 0 0) by rw [hw, hp]; exact boxG _ none 0 0 _)
            have Vpy : V.heap.size ≤ py := by rw [hp]; exact (Hid.out hHeld.2).size
            replace X := Lib.hid ((X.out.mono (A' := fun k => k ≠ py) (fun k hk hA => by show k ≠ _; omega)).below hb)
            rw [← hw, ← hp]
            clear hw hp
            refine hK.out _ _ ?_ (fun hNew => ?_)
            · first | exact ⟨cell_go hHeld.1 hb, Lib.hid ((Hid.out hHeld.2).trans (hb.mono (Hid.out hHeld.2).size))⟩ | exact ⟨HS.out, Lib.hid BS.out⟩
            clear hK K
            replace hHeld := hNew
            clear hNew
            ((try simp only [Act.put]); (try simp only [List.setIfInBounds_toArray]); (try simp only [List.set_cons_succ]); (try simp only [List.set_cons_zero]))
            refine anyZ_ready (rs := [6, 7]) (by kernel_rfl) (by simp) ?_
            refine AllZ.cons (o := { dst := some 39, op := Op.call { callee := Callee.value (Operand.func 12), args := #[Operand.tmp 36, Operand.tmp 37, Operand.tmp 38], argTypes := #[29, 24, 3] }, type := 29, pos := "more.go:18", after := #[{ on := 3, ground := Ground.data }, { on := 4, ground := Ground.data }, { on := 5, ground := Ground.data }, { on := 2, ground := Ground.chain }], guard := none }) rfl (fun K hK => ?_) (AllZ.cons (o := { dst := some 9, op := Op.alloc 29, type := 0, pos := "more.go:18", after := #[], guard := none }) rfl (fun K hK => ?_) AllZ.nil)
            · skip
              go_simp
              refine (but_any (L.out.below (Hid.out hHeld.2)) (by omega) HT.out HD.out).mono ?_
              rintro e1 w_2_8_6 ⟨a6, c6, rfl, hO, hO2, hb⟩
              have lpy := Cpy.out.lt
              replace X := Lib.hid (X.out.below hb)
              replace Cpy := Lib.hid (Cpy.out.below hb)
              have Y := Lib.hid ((hO.at hO2).mono (A' := fun k => k ≠ py) (fun k hk hA => by have hA2 : w_2_8.heap.size ≤ k := hA; (first | trivial | (refine ⟨?_, ?_⟩ <;> omega) | (show k ≠ _; omega))))
              clear hO hO2 lpy
              refine hK.out _ _ ?_ (fun hNew => ?_)
              · first | exact ⟨cell_go hHeld.1 hb, Lib.hid ((Hid.out hHeld.2).trans (hb.mono (Hid.out hHeld.2).size))⟩ | exact ⟨HS.out, Lib.hid BS.out⟩
              clear hK K
              replace hHeld := hNew
              clear hNew
              ((try simp only [Act.put]); (try simp only [List.setIfInBounds_toArray]); (try simp only [List.set_cons_succ]); (try simp only [List.set_cons_zero]))
              refine anyZ_ready (rs := [7]) (by kernel_rfl) (by simp) ?_
              refine AllZ.cons (o := { dst := some 9, op := Op.alloc 29, type := 0, pos := "more.go:18", after := #[], guard := none }) rfl (fun K hK => ?_) AllZ.nil
              go_simp
              obtain ⟨w_2_8_6_7, hw⟩ : ∃ w, w = w_2_8_6.alloc (.cells #[.slice none 0 0] 29) := ⟨_, rfl⟩
              obtain ⟨px, hp⟩ : ∃ p, p = w_2_8_6.heap.size := ⟨_, rfl⟩
              have hb : Below w_2_8_6.heap.size w_2_8_6 w_2_8_6_7 := by rw [hw]; exact boxb _ _
              have Cpx := Lib.hid (show Cel 1 w_2_8_6_7 px (gcE none 0 0) by rw [hw, hp]; exact boxG _ none 0 0 _)
              have Vpx : V.heap.size ≤ px := by rw [hp]; exact (Hid.out hHeld.2).size
              have Npy : py ≠ px := by have := Cpy.out.lt; omega
              replace X := Lib.hid ((X.out.mono (A' := fun k => k ≠ px ∧ k ≠ py) (fun k hk hA => by have hA2 : k ≠ py := hA; exact ⟨by omega, hA2⟩)).below hb)
              replace Y := Lib.hid ((Y.out.mono (A' := fun k => k ≠ px ∧ k ≠ py) (fun k hk hA => by have hA2 : k ≠ py := hA; exact ⟨by omega, hA2⟩)).below hb)
              replace Cpy := Lib.hid (Cpy.out.below hb)
              rw [← hw, ← hp]
              clear hw hp
              refine hK.out _ _ ?_ (fun hNew => ?_)
              · first | exact ⟨cell_go hHeld.1 hb, Lib.hid ((Hid.out hHeld.2).trans (hb.mono (Hid.out hHeld.2).size))⟩ | exact ⟨HS.out, Lib.hid BS.out⟩
              clear hK K
              replace hHeld := hNew
              clear hNew
              ((try simp only [Act.put]); (try simp only [List.setIfInBounds_toArray]); (try simp only [List.set_cons_succ]); (try simp only [List.set_cons_zero]))
              refine anyZ_ready (rs := [9]) (by kernel_rfl) (by simp) ?_
              refine AllZ.cons (o := { dst := none, op := Op.store 29 (Operand.tmp 9) (Operand.tmp 35), type := 0, pos := "more.go:18", after := #[{ on := 7, ground := Ground.data }, { on := 2, ground := Ground.data }, { on := 6, ground := Ground.chain }, { on := 0, ground := Ground.phase }, { on := 1, ground := Ground.phase }, { on := 2, ground := Ground.phase }, { on := 3, ground := Ground.textOnly Departure.lateStores }, { on := 4, ground := Ground.textOnly Departure.lateStores }, { on := 5, ground := Ground.textOnly Departure.lateStores }, { on := 6, ground := Ground.textOnly Departure.lateStoresUnsure }, { on := 7, ground := Ground.phase }, { on := 8, ground := Ground.phase }], guard := none }) rfl (fun K hK => ?_) AllZ.nil
              go_simp
              have s1 := Cpx.out.c 0 (by decide)
              have s2 := Cpx.out.fz 0
              try go_simp
              obtain ⟨w_2_8_6_7_9, hw⟩ : ∃ w, w = w_2_8_6_7.setCell ⟨px, 0, none⟩ (.slice a5 n c5) := ⟨_, rfl⟩
              have hk : Keep (fun k => k = px) w_2_8_6_7 w_2_8_6_7_9 := by rw [hw]; exact (Keep.refl _ _).put 0 _
              replace X := Lib.hid (X.out.keep hk (fun k hA => hA.1))
              replace Y := Lib.hid (Y.out.keep hk (fun k hA => hA.1))
              replace Cpy := Lib.hid (Cpy.out.keep hk (by omega))
              replace Cpx := Lib.hid (show Cel 1 w_2_8_6_7_9 px (gcE a5 n c5) by rw [hw]; exact (Cpx.out.put 0 _).conv (fun o ho => by rcases (show o = 0 by omega) with rfl; rfl))
              have BS := Lib.hid (show Below V.heap.size V w_2_8_6_7_9 by rw [hw]; exact (Hid.out hHeld.2).setCell (by omega) _)
              have HS := Lib.hid (show w_2_8_6_7_9.cell? ⟨pg, 0, none⟩ = some (.slice ao n cap) from cell_go CG.out BS.out)
              rw [← hw]
              clear hw hk s1 s2
              refine hK.out _ _ ?_ (fun hNew => ?_)
              · first | exact ⟨cell_go hHeld.1 hb, Lib.hid ((Hid.out hHeld.2).trans (hb.mono (Hid.out hHeld.2).size))⟩ | exact ⟨HS.out, Lib.hid BS.out⟩
              clear hK K
              replace hHeld := hNew
              clear hNew
              ((try simp only [Act.put]); (try simp only [List.setIfInBounds_toArray]); (try simp only [List.set_cons_succ]); (try simp only [List.set_cons_zero]))
              refine anyZ_ready (rs := [10]) (by kernel_rfl) (by simp) ?_
              refine AllZ.last (o := { dst := none, op := Op.store 29 (Operand.tmp 10) (Operand.tmp 39), type := 0, pos := "more.go:18", after := #[{ on := 8, ground := Ground.data }, { on := 6, ground := Ground.data }, { on := 9, ground := Ground.chain }, { on := 0, ground := Ground.phase }, { on := 1, ground := Ground.phase }, { on := 2, ground := Ground.phase }, { on := 3, ground := Ground.phase }, { on := 4, ground := Ground.phase }, { on := 5, ground := Ground.phase }, { on := 6, ground := Ground.phase }, { on := 7, ground := Ground.phase }, { on := 8, ground := Ground.phase }, { on := 9, ground := Ground.phase }], guard := none }) rfl (fun K hK => ?_)
              go_simp
              have s1 := Cpy.out.c 0 (by decide)
              have s2 := Cpy.out.fz 0
              try go_simp
              obtain ⟨w_2_8_6_7_9_10, hw⟩ : ∃ w, w = w_2_8_6_7_9.setCell ⟨py, 0, none⟩ (.slice a6 n c6) := ⟨_, rfl⟩
              have hk : Keep (fun k => k = py) w_2_8_6_7_9 w_2_8_6_7_9_10 := by rw [hw]; exact (Keep.refl _ _).put 0 _
              replace X := Lib.hid (X.out.keep hk (fun k hA => hA.2))
              replace Y := Lib.hid (Y.out.keep hk (fun k hA => hA.2))
              replace Cpx := Lib.hid (Cpx.out.keep hk (by omega))
              replace Cpy := Lib.hid (show Cel 1 w_2_8_6_7_9_10 py (gcE a6 n c6) by rw [hw]; exact (Cpy.out.put 0 _).conv (fun o ho => by rcases (show o = 0 by omega) with rfl; rfl))
              have BS := Lib.hid (show Below V.heap.size V w_2_8_6_7_9_10 by rw [hw]; exact (Hid.out hHeld.2).setCell (by omega) _)
              have HS := Lib.hid (show w_2_8_6_7_9_10.cell? ⟨pg, 0, none⟩ = some (.slice ao n cap) from cell_go CG.out BS.out)
              rw [← hw]
              clear hw hk s1 s2
              refine hK.out _ _ ?_
              clear hK K
              ((try simp only [Act.put]); (try simp only [List.setIfInBounds_toArray]); (try simp only [List.set_cons_succ]); (try simp only [List.set_cons_zero]))
              refine anyZ_done (by kernel_rfl) ?_ _
              refine NoPanic.normal ?_
              go_wp2_with fail
              go_meet
              exact ⟨px, py, a5, c5, a6, c6, rfl, rfl, Cpx.out.c 0 (by decide), Cpy.out.c 0 (by decide), X.out.mono (fun _ _ _ => trivial), Y.out.mono (fun _ _ _ => trivial), BS.out⟩
            · skip
              go_simp
              obtain ⟨w_2_8_7, hw⟩ : ∃ w, w = w_2_8.alloc (.cells #[.slice none 0 0] 29) := ⟨_, rfl⟩
              obtain ⟨px, hp⟩ : ∃ p, p = w_2_8.heap.size := ⟨_, rfl⟩
              have hb : Below w_2_8.heap.size w_2_8 w_2_8_7 := by rw [hw]; exact boxb _ _
              have Cpx := Lib.hid (show Cel 1 w_2_8_7 px (gcE none 0 0) by rw [hw, hp]; exact boxG _ none 0 0 _)
              have Vpx : V.heap.size ≤ px := by rw [hp]; exact (Hid.out hHeld.2).size
              have Npy : py ≠ px := by have := Cpy.out.lt; omega
              replace X := Lib.hid ((X.out.mono (A' := fun k => k ≠ px ∧ k ≠ py) (fun k hk hA => by have hA2 : k ≠ py := hA; exact ⟨by omega, hA2⟩)).below hb)
              replace Cpy := Lib.hid (Cpy.out.below hb)
              rw [← hw, ← hp]
              clear hw hp
              refine hK.out _ _ ?_ (fun hNew => ?_)
              · first | exact ⟨cell_go hHeld.1 hb, Lib.hid ((Hid.out hHeld.2).trans (hb.mono (Hid.out hHeld.2).size))⟩ | exact ⟨HS.out, Lib.hid BS.out⟩
              clear hK K
              replace hHeld := hNew
              clear hNew
              ((try simp only [Act.put]); (try simp only [List.setIfInBounds_toArray]); (try simp only [List.set_cons_succ]); (try simp only [List.set_cons_zero]))
              refine anyZ_ready (rs := [6]) (by kernel_rfl) (by simp) ?_
              refine AllZ.cons (o := { dst := some 39, op := Op.call { callee := Callee.value (Operand.func 12), args := #[Operand.tmp 36, Operand.tmp 37, Operand.tmp 38], argTypes := #[29, 24, 3] }, type := 29, pos := "more.go:18", after := #[{ on := 3, ground := Ground.data }, { on := 4, ground := Ground.data }, { on := 5, ground := Ground.data }, { on := 2, ground := Ground.chain }], guard := none }) rfl (fun K hK => ?_) AllZ.nil
              go_simp
              refine (but_any (L.out.below (Hid.out hHeld.2)) (by omega) HT.out HD.out).mono ?_
              rintro e1 w_2_8_7_6 ⟨a6, c6, rfl, hO, hO2, hb⟩
              have lpx := Cpx.out.lt
              have lpy := Cpy.out.lt
              replace X := Lib.hid (X.out.below hb)
              replace Cpx := Lib.hid (Cpx.out.below hb)
              replace Cpy := Lib.hid (Cpy.out.below hb)
              have Y := Lib.hid ((hO.at hO2).mono (A' := fun k => k ≠ px ∧ k ≠ py) (fun k hk hA => by have hA2 : w_2_8_7.heap.size ≤ k := hA; (first | trivial | (refine ⟨?_, ?_⟩ <;> omega) | (show k ≠ _; omega))))
              clear hO hO2 lpx lpy
              refine hK.out _ _ ?_ (fun hNew => ?_)
              · first | exact ⟨cell_go hHeld.1 hb, Lib.hid ((Hid.out hHeld.2).trans (hb.mono (Hid.out hHeld.2).size))⟩ | exact ⟨HS.out, Lib.hid BS.out⟩
              clear hK K
              replace hHeld := hNew
              clear hNew
              ((try simp only [Act.put]); (try simp only [List.setIfInBounds_toArray]); (try simp only [List.set_cons_succ]); (try simp only [List.set_cons_zero]))
              refine anyZ_ready (rs := [9]) (by kernel_rfl) (by simp) ?_
              refine AllZ.cons (o := { dst := none, op := Op.store 29 (Operand.tmp 9) (Operand.tmp 35), type := 0, pos := "more.go:18", after := #[{ on := 7, ground := Ground.data }, { on := 2, ground := Ground.data }, { on := 6, ground := Ground.chain }, { on := 0, ground := Ground.phase }, { on := 1, ground := Ground.phase }, { on := 2, ground := Ground.phase }, { on := 3, ground := Ground.textOnly Departure.lateStores }, { on := 4, ground := Ground.textOnly Departure.lateStores }, { on := 5, ground := Ground.textOnly Departure.lateStores }, { on := 6, ground := Ground.textOnly Departure.lateStoresUnsure }, { on := 7, ground := Ground.phase }, { on := 8, ground := Ground.phase }], guard := none }) rfl (fun K hK => ?_) AllZ.nil
              go_simp
              have s1 := Cpx.out.c 0 (by decide)
              have s2 := Cpx.out.fz 0
              try go_simp
              obtain ⟨w_2_8_7_6_9, hw⟩ : ∃ w, w = w_2_8_7_6.setCell ⟨px, 0, none⟩ (.slice a5 n c5) := ⟨_, rfl⟩
              have hk : Keep (fun k => k = px) w_2_8_7_6 w_2_8_7_6_9 := by rw [hw]; exact (Keep.refl _ _).put 0 _
              replace X := Lib.hid (X.out.keep hk (fun k hA => hA.1))
              replace Y := Lib.hid (Y.out.keep hk (fun k hA => hA.1))
              replace Cpy := Lib.hid (Cpy.out.keep hk (by omega))
              replace Cpx := Lib.hid (show Cel 1 w_2_8_7_6_9 px (gcE a5 n c5) by rw [hw]; exact (Cpx.out.put 0 _).conv (fun o ho => by rcases (show o = 0 by omega) with rfl; rfl))
              have BS := Lib.hid (show Below V.heap.size V w_2_8_7_6_9 by rw [hw]; exact (Hid.out hHeld.2).setCell (by omega) _)
              have HS := Lib.hid (show w_2_8_7_6_9.cell? ⟨pg, 0, none⟩ = some (.slice ao n cap) from cell_go CG.out BS.out)
              rw [← hw]
              clear hw hk s1 s2
              refine hK.out _ _ ?_ (fun hNew => ?_)
              · first | exact ⟨cell_go hHeld.1 hb, Lib.hid ((Hid.out hHeld.2).trans (hb.mono (Hid.out hHeld.2).size))⟩ | exact ⟨HS.out, Lib.hid BS.out⟩
              clear hK K
              replace hHeld := hNew
              clear hNew
              ((try simp only [Act.put]); (try simp only [List.setIfInBounds_toArray]); (try simp only [List.set_cons_succ]); (try simp only [List.set_cons_zero]))
              refine anyZ_ready (rs := [10]) (by kernel_rfl) (by simp) ?_
              refine AllZ.last (o := { dst := none, op := Op.store 29 (Operand.tmp 10) (Operand.tmp 39), type := 0, pos := "more.go:18", after := #[{ on := 8, ground := Ground.data }, { on := 6, ground := Ground.data }, { on := 9, ground := Ground.chain }, { on := 0, ground := Ground.phase }, { on := 1, ground := Ground.phase }, { on := 2, ground := Ground.phase }, { on := 3, ground := Ground.phase }, { on := 4, ground := Ground.phase }, { on := 5, ground := Ground.phase }, { on := 6, ground := Ground.phase }, { on := 7, ground := Ground.phase }, { on := 8, ground := Ground.phase }, { on := 9, ground := Ground.phase }], guard := none }) rfl (fun K hK => ?_)
              go_simp
              have s1 := Cpy.out.c 0 (by decide)
              have s2 := Cpy.out.fz 0
              try go_simp
              obtain ⟨w_2_8_7_6_9_10, hw⟩ : ∃ w, w = w_2_8_7_6_9.setCell ⟨py, 0, none⟩ (.slice a6 n c6) := ⟨_, rfl⟩
              have hk : Keep (fun k => k = py) w_2_8_7_6_9 w_2_8_7_6_9_10 := by rw [hw]; exact (Keep.refl _ _).put 0 _
              replace X := Lib.hid (X.out.keep hk (fun k hA => hA.2))
              replace Y := Lib.hid (Y.out.keep hk (fun k hA => hA.2))
              replace Cpx := Lib.hid (Cpx.out.keep hk (by omega))
              replace Cpy := Lib.hid (show Cel 1 w_2_8_7_6_9_10 py (gcE a6 n c6) by rw [hw]; exact (Cpy.out.put 0 _).conv (fun o ho => by rcases (show o = 0 by omega) with rfl; rfl))
              have BS := Lib.hid (show Below V.heap.size V w_2_8_7_6_9_10 by rw [hw]; exact (Hid.out hHeld.2).setCell (by omega) _)
              have HS := Lib.hid (show w_2_8_7_6_9_10.cell? ⟨pg, 0, none⟩ = some (.slice ao n cap) from cell_go CG.out BS.out)
              rw [← hw]
              clear hw hk s1 s2
              refine hK.out _ _ ?_
              clear hK K
              ((try simp only [Act.put]); (try simp only [List.setIfInBounds_toArray]); (try simp only [List.set_cons_succ]); (try simp only [List.set_cons_zero]))
              refine anyZ_done (by kernel_rfl) ?_ _
              refine NoPanic.normal ?_
              go_wp2_with fail
              go_meet
              exact ⟨px, py, a5, c5, a6, c6, rfl, rfl, Cpx.out.c 0 (by decide), Cpy.out.c 0 (by decide), X.out.mono (fun _ _ _ => trivial), Y.out.mono (fun _ _ _ => trivial), BS.out⟩
        · skip
          go_simp
          obtain ⟨w_7, hw⟩ : ∃ w, w = w_.alloc (.cells #[.slice none 0 0] 29) := ⟨_, rfl⟩
          obtain ⟨px, hp⟩ : ∃ p, p = w_.heap.size := ⟨_, rfl⟩
          have hb : Below w_.heap.size w_ w_7 := by rw [hw]; exact boxb _ _
          have Cpx := Lib.hid (show Cel 1 w_7 px (gcE none 0 0) by rw [hw, hp]; exact boxG _ none 0 0 _)
          have Vpx : V.heap.size ≤ px := by rw [hp]; exact (Hid.out hHeld.2).size
          rw [← hw, ← hp]
          clear hw hp
          refine hK.out _ _ ?_ (fun hNew => ?_)
          · first | exact ⟨cell_go hHeld.1 hb, Lib.hid ((Hid.out hHeld.2).trans (hb.mono (Hid.out hHeld.2).size))⟩ | exact ⟨HS.out, Lib.hid BS.out⟩
          clear hK K
          replace hHeld := hNew
          clear hNew
          ((try simp only [Act.put]); (try simp only [List.setIfInBounds_toArray]); (try simp only [List.set_cons_succ]); (try simp only [List.set_cons_zero]))
          refine anyZ_ready (rs := [2, 8]) (by kernel_rfl) (by simp) ?_
          refine AllZ.cons (o := { dst := some 35, op := Op.call { callee := Callee.value (Operand.func 10), args := #[Operand.tmp 33, Operand.tmp 34], argTypes := #[29, 24] }, type := 29, pos := "more.go:18", after := #[{ on := 0, ground := Ground.data }, { on := 1, ground := Ground.data }], guard := none }) rfl (fun K hK => ?_) (AllZ.cons (o := { dst := some 10, op := Op.alloc 29, type := 0, pos := "more.go:18", after := #[], guard := none }) rfl (fun K hK => ?_) AllZ.nil)
          · skip
            go_simp
            refine (less_any (L.out.below (Hid.out hHeld.2)) (by omega) HT.out).mono ?_
            rintro e1 w_7_2 ⟨a5, c5, rfl, hO, hO2, hb⟩
            have lpx := Cpx.out.lt
            replace Cpx := Lib.hid (Cpx.out.below hb)
            have X := Lib.hid ((hO.at hO2).mono (A' := fun k => k ≠ px) (fun k hk hA => by have hA2 : w_7.heap.size ≤ k := hA; (first | trivial | (refine ⟨?_, ?_⟩ <;> omega) | (show k ≠ _; omega))))
            clear hO hO2 lpx
            refine hK.out _ _ ?_ (fun hNew => ?_)
            · first | exact ⟨cell_go hHeld.1 hb, Lib.hid ((Hid.out hHeld.2).trans (hb.mono (Hid.out hHeld.2).size))⟩ | exact ⟨HS.out, Lib.hid BS.out⟩
            clear hK K
            replace hHeld := hNew
            clear hNew
            ((try simp only [Act.put]); (try simp only [List.setIfInBounds_toArray]); (try simp only [List.set_cons_succ]); (try simp only [List.set_cons_zero]))
            refine anyZ_ready (rs := [6, 8]) (by kernel_rfl) (by simp) ?_
            refine AllZ.cons (o := { dst := some 39, op := Op.call { callee := Callee.value (Operand.func 12), args := #[Operand.tmp 36, Operand.tmp 37, Operand.tmp 38], argTypes := #[29, 24, 3] }, type := 29, pos := "more.go:18", after := #[{ on := 3, ground := Ground.data }, { on := 4, ground := Ground.data }, { on := 5, ground := Ground.data }, { on := 2, ground := Ground.chain }], guard := none }) rfl (fun K hK => ?_) (AllZ.cons (o := { dst := some 10, op := Op.alloc 29, type := 0, pos := "more.go:18", after := #[], guard := none }) rfl (fun K hK => ?_) AllZ.nil)
            · skip
              go_simp
              refine (but_any (L.out.below (Hid.out hHeld.2)) (by omega) HT.out HD.out).mono ?_
              rintro e1 w_7_2_6 ⟨a6, c6, rfl, hO, hO2, hb⟩
              have lpx := Cpx.out.lt
              replace X := Lib.hid (X.out.below hb)
              replace Cpx := Lib.hid (Cpx.out.below hb)
              have Y := Lib.hid ((hO.at hO2).mono (A' := fun k => k ≠ px) (fun k hk hA => by have hA2 : w_7_2.heap.size ≤ k := hA; (first | trivial | (refine ⟨?_, ?_⟩ <;> omega) | (show k ≠ _; omega))))
              clear hO hO2 lpx
              refine hK.out _ _ ?_ (fun hNew => ?_)
              · first | exact ⟨cell_go hHeld.1 hb, Lib.hid ((Hid.out hHeld.2).trans (hb.mono (Hid.out hHeld.2).size))⟩ | exact ⟨HS.out, Lib.hid BS.out⟩
              clear hK K
              replace hHeld := hNew
              clear hNew
              ((try simp only [Act.put]); (try simp only [List.setIfInBounds_toArray]); (try simp only [List.set_cons_succ]); (try simp only [List.set_cons_zero]))
              refine anyZ_ready (rs := [8]) (by kernel_rfl) (by simp) ?_
              refine AllZ.cons (o := { dst := some 10, op := Op.alloc 29, type := 0, pos := "more.go:18", after := #[], guard := none }) rfl (fun K hK => ?_) AllZ.nil
              go_simp
              obtain ⟨w_7_2_6_8, hw⟩ : ∃ w, w = w_7_2_6.alloc (.cells #[.slice none 0 0] 29) := ⟨_, rfl⟩
              obtain ⟨py, hp⟩ : ∃ p, p = w_7_2_6.heap.size := ⟨_, rfl⟩
              have hb : Below w_7_2_6.heap.size w_7_2_6 w_7_2_6_8 := by rw [hw]; exact boxb _ _
              have Cpy := Lib.hid (show Cel 1 w_7_2_6_8 py (gcE none 0 0) by rw [hw, hp]; exact boxG _ none 0 0 _)
              have Vpy : V.heap.size ≤ py := by rw [hp]; exact (Hid.out hHeld.2).size
              have Npx : px ≠ py := by have := Cpx.out.lt; omega
              replace X := Lib.hid ((X.out.mono (A' := fun k => k ≠ px ∧ k ≠ py) (fun k hk hA => by have hA2 : k ≠ px := hA; exact ⟨hA2, by omega⟩)).below hb)
              replace Y := Lib.hid ((Y.out.mono (A' := fun k => k ≠ px ∧ k ≠ py) (fun k hk hA => by have hA2 : k ≠ px := hA; exact ⟨hA2, by omega⟩)).below hb)
              replace Cpx := Lib.hid (Cpx.out.below hb)
              rw [← hw, ← hp]
              clear hw hp
              refine hK.out _ _ ?_ (fun hNew => ?_)
              · first | exact ⟨cell_go hHeld.1 hb, Lib.hid ((Hid.out hHeld.2).trans (hb.mono (Hid.out hHeld.2).size))⟩ | exact ⟨HS.out, Lib.hid BS.out⟩
              clear hK K
              replace hHeld := hNew
              clear hNew
              ((try simp only [Act.put]); (try simp only [List.setIfInBounds_toArray]); (try simp only [List.set_cons_succ]); (try simp only [List.set_cons_zero]))
              refine anyZ_ready (rs := [9]) (by kernel_rfl) (by simp) ?_
              refine AllZ.cons (o := { dst := none, op := Op.store 29 (Operand.tmp 9) (Operand.tmp 35), type := 0, pos := "more.go:18", after := #[{ on := 7, ground := Ground.data }, { on := 2, ground := Ground.data }, { on := 6, ground := Ground.chain }, { on := 0, ground := Ground.phase }, { on := 1, ground := Ground.phase }, { on := 2, ground := Ground.phase }, { on := 3, ground := Ground.textOnly Departure.lateStores }, { on := 4, ground := Ground.textOnly Departure.lateStores }, { on := 5, ground := Ground.textOnly Departure.lateStores }, { on := 6, ground := Ground.textOnly Departure.lateStoresUnsure }, { on := 7, ground := Ground.phase }, { on := 8, ground := Ground.phase }], guard := none }) rfl (fun K hK => ?_) AllZ.nil
              go_simp
              have s1 := Cpx.out.c 0 (by decide)
              have s2 := Cpx.out.fz 0
              try go_simp
              obtain ⟨w_7_2_6_8_9, hw⟩ : ∃ w, w = w_7_2_6_8.setCell ⟨px, 0, none⟩ (.slice a5 n c5) := ⟨_, rfl⟩
              have hk : Keep (fun k => k = px) w_7_2_6_8 w_7_2_6_8_9 := by rw [hw]; exact (Keep.refl _ _).put 0 _
              replace X := Lib.hid (X.out.keep hk (fun k hA => hA.1))
              replace Y := Lib.hid (Y.out.keep hk (fun k hA => hA.1))
              replace Cpy := Lib.hid (Cpy.out.keep hk (by omega))
              replace Cpx := Lib.hid (show Cel 1 w_7_2_6_8_9 px (gcE a5 n c5) by rw [hw]; exact (Cpx.out.put 0 _).conv (fun o ho => by rcases (show o = 0 by omega) with rfl; rfl))
              have BS := Lib.hid (show Below V.heap.size V w_7_2_6_8_9 by rw [hw]; exact (Hid.out hHeld.2).setCell (by omega) _)
              have HS := Lib.hid (show w_7_2_6_8_9.cell? ⟨pg, 0, none⟩ = some (.slice ao n cap) from cell_go CG.out BS.out)
              rw [← hw]
              clear hw hk s1 s2
              refine hK.out _ _ ?_ (fun hNew => ?_)
              · first | exact ⟨cell_go hHeld.1 hb, Lib.hid ((Hid.out hHeld.2).trans (hb.mono (Hid.out hHeld.2).size))⟩ | exact ⟨HS.out, Lib.hid BS.out⟩
              clear hK K
              replace hHeld := hNew
              clear hNew
              ((try simp only [Act.put]); (try simp only [List.setIfInBounds_toArray]); (try simp only [List.set_cons_succ]); (try simp only [List.set_cons_zero]))
              refine anyZ_ready (rs := [10]) (by kernel_rfl) (by simp) ?_
              refine AllZ.last (o := { dst := none, op := Op.store 29 (Operand.tmp 10) (Operand.tmp 39), type := 0, pos := "more.go:18", after := #[{ on := 8, ground := Ground.data }, { on := 6, ground := Ground.data }, { on := 9, ground := Ground.chain }, { on := 0, ground := Ground.phase }, { on := 1, ground := Ground.phase }, { on := 2, ground := Ground.phase }, { on := 3, ground := Ground.phase }, { on := 4, ground := Ground.phase }, { on := 5, ground := Ground.phase }, { on := 6, ground := Ground.phase }, { on := 7, ground := Ground.phase }, { on := 8, ground := Ground.phase }, { on := 9, ground := Ground.phase }], guard := none }) rfl (fun K hK => ?_)
              go_simp
              have s1 := Cpy.out.c 0 (by decide)
              have s2 := Cpy.out.fz 0
              try go_simp
              obtain ⟨w_7_2_6_8_9_10, hw⟩ : ∃ w, w = w_7_2_6_8_9.setCell ⟨py, 0, none⟩ (.slice a6 n c6) := ⟨_, rfl⟩
              have hk : Keep (fun k => k = py) w_7_2_6_8_9 w_7_2_6_8_9_10 := by rw [hw]; exact (Keep.refl _ _).put 0 _
              replace X := Lib.hid (X.out.keep hk (fun k hA => hA.2))
              replace Y := Lib.hid (Y.out.keep hk (fun k hA => hA.2))
              replace Cpx := Lib.hid (Cpx.out.keep hk (by omega))
              replace Cpy := Lib.hid (show Cel 1 w_7_2_6_8_9_10 py (gcE a6 n c6) by rw [hw]; exact (Cpy.out.put 0 _).conv (fun o ho => by rcases (show o = 0 by omega) with rfl; rfl))
              have BS := Lib.hid (show Below V.heap.size V w_7_2_6_8_9_10 by rw [hw]; exact (Hid.out hHeld.2).setCell (by omega) _)
              have HS := Lib.hid (show w_7_2_6_8_9_10.cell? ⟨pg, 0, none⟩ = some (.slice ao n cap) from cell_go CG.out BS.out)
              rw [← hw]
              clear hw hk s1 s2
              refine hK.out _ _ ?_
              clear hK K
              ((try simp only [Act.put]); (try simp only [List.setIfInBounds_toArray]); (try simp only [List.set_cons_succ]); (try simp only [List.set_cons_zero]))
              refine anyZ_done (by kernel_rfl) ?_ _
              refine NoPanic.normal ?_
              go_wp2_with fail
              go_meet
              exact ⟨px, py, a5, c5, a6, c6, rfl, rfl, Cpx.out.c 0 (by decide), Cpy.out.c 0 (by decide), X.out.mono (fun _ _ _ => trivial), Y.out.mono (fun _ _ _ => trivial), BS.out⟩
            · skip
              go_simp
              obtain ⟨w_7_2_8, hw⟩ : ∃ w, w = w_7_2.alloc (.cells #[.slice none 0 0] 29) := ⟨_, rfl⟩
              obtain ⟨py, hp⟩ : ∃ p, p = w_7_2.heap.size := ⟨_, rfl⟩
              have hb : Below w_7_2.heap.size w_7_2 w_7_2_8 := by rw [hw]; exact boxb _ _
              have Cpy := Lib.hid (show Cel 1 w_7_2_8 py (gcE none 0 0) by rw [hw, hp]; exact boxG _ none 0 0 _)
              have Vpy : V.heap.size ≤ py := by rw [hp]; exact (Hid.out hHeld.2).size
              have Npx : px ≠ py := by have := Cpx.out.lt; omega
              replace X := Lib.hid ((X.out.mono (A' := fun k => k ≠ px ∧ k ≠ py) (fun k hk hA => by have hA2 : k ≠ px := hA; exact ⟨hA2, by omega⟩)).below hb)
              replace Cpx := Lib.hid (Cpx.out.below hb)
              rw [← hw, ← hp]
              clear hw hp
              refine hK.out _ _ ?_ (fun hNew => ?_)
              · first | exact ⟨cell_go hHeld.1 hb, Lib.hid ((Hid.out hHeld.2).trans (hb.mono (Hid.out hHeld.2).size))⟩ | exact ⟨HS.out, Lib.hid BS.out⟩
              clear hK K
              replace hHeld := hNew
              clear hNew
              ((try simp only [Act.put]); (try simp only [List.setIfInBounds_toArray]); (try simp only [List.set_cons_succ]); (try simp only [List.set_cons_zero]))
              refine anyZ_ready (rs := [6]) (by kernel_rfl) (by simp) ?_
              refine AllZ.cons (o := { dst := some 39, op := Op.call { callee := Callee.value (Operand.func 12), args := #[Operand.tmp 36, Operand.tmp 37, Operand.tmp 38], argTypes := #[29, 24, 3] }, type := 29, pos := "more.go:18", after := #[{ on := 3, ground := Ground.data }, { on := 4, ground := Ground.data }, { on := 5, ground := Ground.data }, { on := 2, ground := Ground.chain }], guard := none }) rfl (fun K hK => ?_) AllZ.nil
              go_simp
              refine (but_any (L.out.below (Hid.out hHeld.2)) (by omega) HT.out HD.out).mono ?_
              rintro e1 w_7_2_8_6 ⟨a6, c6, rfl, hO, hO2, hb⟩
              have lpx := Cpx.out.lt
              have lpy := Cpy.out.lt
              replace X := Lib.hid (X.out.below hb)
              replace Cpx := Lib.hid (Cpx.out.below hb)
              replace Cpy := Lib.hid (Cpy.out.below hb)
              have Y := Lib.hid ((hO.at hO2).mono (A' := fun k => k ≠ px ∧ k ≠ py) (fun k hk hA => by have hA2 : w_7_2_8.heap.size ≤ k := hA; (first | trivial | (refine ⟨?_, ?_⟩ <;> omega) | (show k ≠ _; omega))))
              clear hO hO2 lpx lpy
              refine hK.out _ _ ?_ (fun hNew => ?_)
              · first | exact ⟨cell_go hHeld.1 hb, Lib.hid ((Hid.out hHeld.2).trans (hb.mono (Hid.out hHeld.2).size))⟩ | exact ⟨HS.out, Lib.hid BS.out⟩
              clear hK K
              replace hHeld := hNew
              clear hNew
              ((try simp only [Act.put]); (try simp only [List.setIfInBounds_toArray]); (try simp only [List.set_cons_succ]); (try simp only [List.set_cons_zero]))
              refine anyZ_ready (rs := [9]) (by kernel_rfl) (by simp) ?_
              refine AllZ.cons (o := { dst := none, op := Op.store 29 (Operand.tmp 9) (Operand.tmp 35), type := 0, pos := "more.go:18", after := #[{ on := 7, ground := Ground.data }, { on := 2, ground := Ground.data }, { on := 6, ground := Ground.chain }, { on := 0, ground := Ground.phase }, { on := 1, ground := Ground.phase }, { on := 2, ground := Ground.phase }, { on := 3, ground := Ground.textOnly Departure.lateStores }, { on := 4, ground := Ground.textOnly Departure.lateStores }, { on := 5, ground := Ground.textOnly Departure.lateStores }, { on := 6, ground := Ground.textOnly Departure.lateStoresUnsure }, { on := 7, ground := Ground.phase }, { on := 8, ground := Ground.phase }], guard := none }) rfl (fun K hK => ?_) AllZ.nil
              go_simp
              have s1 := Cpx.out.c 0 (by decide)
              have s2 := Cpx.out.fz 0
              try go_simp
              obtain ⟨w_7_2_8_6_9, hw⟩ : ∃ w, w = w_7_2_8_6.setCell ⟨px, 0, none⟩ (.slice a5 n c5) := ⟨_, rfl⟩
              have hk : Keep (fun k => k = px) w_7_2_8_6 w_7_2_8_6_9 := by rw [hw]; exact (Keep.refl _ _).put 0 _
              replace X := Lib.hid (X.out.keep hk (fun k hA => hA.1))
              replace Y := Lib.hid (Y.out.keep hk (fun k hA => hA.1))
              replace Cpy := Lib.hid (Cpy.out.keep hk (by omega))
              replace Cpx := Lib.hid (show Cel 1 w_7_2_8_6_9 px (gcE a5 n c5) by rw [hw]; exact (Cpx.out.put 0 _).conv (fun o ho => by rcases (show o = 0 by omega) with rfl; rfl))
              have BS := Lib.hid (show Below V.heap.size V w_7_2_8_6_9 by rw [hw]; exact (Hid.out hHeld.2).setCell (by omega) _)
              have HS := Lib.hid (show w_7_2_8_6_9.cell? ⟨pg, 0, none⟩ = some (.slice ao n cap) from cell_go CG.out BS.out)
              rw [← hw]
              clear hw hk s1 s2
              refine hK.out _ _ ?_ (fun hNew => ?_)
              · first | exact ⟨cell_go hHeld.1 hb, Lib.hid ((Hid.out hHeld.2).trans (hb.mono (Hid.out hHeld.2).size))⟩ | exact ⟨HS.out, Lib.hid BS.out⟩
              clear hK K
              replace hHeld := hNew
              clear hNew
              ((try simp only [Act.put]); (try simp only [List.setIfInBounds_toArray]); (try simp only [List.set_cons_succ]); (try simp only [List.set_cons_zero]))
              refine anyZ_ready (rs := [10]) (by kernel_rfl) (by simp) ?_
              refine AllZ.last (o := { dst := none, op := Op.store 29 (Operand.tmp 10) (Operand.tmp 39), type := 0, pos := "more.go:18", after := #[{ on := 8, ground := Ground.data }, { on := 6, ground := Ground.data }, { on := 9, ground := Ground.chain }, { on := 0, ground := Ground.phase }, { on := 1, ground := Ground.phase }, { on := 2, ground := Ground.phase }, { on := 3, ground := Ground.phase }, { on := 4, ground := Ground.phase }, { on := 5, ground := Ground.phase }, { on := 6, ground := Ground.phase }, { on := 7, ground := Ground.phase }, { on := 8, ground := Ground.phase }, { on := 9, ground := Ground.phase }], guard := none }) rfl (fun K hK => ?_)
              go_simp
              have s1 := Cpy.out.c 0 (by decide)
              have s2 := Cpy.out.fz 0
              try go_simp
              obtain ⟨w_7_2_8_6_9_10, hw⟩ : ∃ w, w = w_7_2_8_6_9.setCell ⟨py, 0, none⟩ (.slice a6 n c6) := ⟨_, rfl⟩
              have hk : Keep (fun k => k = py) w_7_2_8_6_9 w_7_2_8_6_9_10 := by rw [hw]; exact (Keep.refl _ _).put 0 _
              replace X := Lib.hid (X.out.keep hk (fun k hA => hA.2))
              replace Y := Lib.hid (Y.out.keep hk (fun k hA => hA.2))
              replace Cpx := Lib.hid (Cpx.out.keep hk (by omega))
              replace Cpy := Lib.hid (show Cel 1 w_7_2_8_6_9_10 py (gcE a6 n c6) by rw [hw]; exact (Cpy.out.put 0 _).conv (fun o ho => by rcases (show o = 0 by omega) with rfl; rfl))
              have BS := Lib.hid (show Below V.heap.size V w_7_2_8_6_9_10 by rw [hw]; exact (Hid.out hHeld.2).setCell (by omega) _)
              have HS := Lib.hid (show w_7_2_8_6_9_10.cell? ⟨pg, 0, none⟩ = some (.slice ao n cap) from cell_go CG.out BS.out)
              rw [← hw]
              clear hw hk s1 s2
              refine hK.out _ _ ?_
              clear hK K
              ((try simp only [Act.put]); (try simp only [List.setIfInBounds_toArray]); (try simp only [List.set_cons_succ]); (try simp only [List.set_cons_zero]))
              refine anyZ_done (by kernel_rfl) ?_ _
              refine NoPanic.normal ?_
              go_wp2_with fail
              go_meet
              exact ⟨px, py, a5, c5, a6, c6, rfl, rfl, Cpx.out.c 0 (by decide), Cpy.out.c 0 (by decide), X.out.mono (fun _ _ _ => trivial), Y.out.mono (fun _ _ _ => trivial), BS.out⟩
          · skip
            go_simp
            obtain ⟨w_7_8, hw⟩ : ∃ w, w = w_7.alloc (.cells #[.slice none 0 0] 29) := ⟨_, rfl⟩
            obtain ⟨py, hp⟩ : ∃ p, p = w_7.heap.size := ⟨_, rfl⟩
            have hb : Below w_7.heap.size w_7 w_7_8 := by rw [hw]; exact boxb _ _
            have Cpy := Lib.hid (show Cel 1 w_7_8 py (gcE none 0 0) by rw [hw, hp]; exact boxG _ none 0 0 _)
            have Vpy : V.heap.size ≤ py := by rw [hp]; exact (Hid.out hHeld.2).size
            have Npx : px ≠ py := by have := Cpx.out.lt; omega
            replace Cpx := Lib.hid (Cpx.out.below hb)
            rw [← hw, ← hp]
            clear hw hp
            refine hK.out _ _ ?_ (fun hNew => ?_)
            · first | exact ⟨cell_go hHeld.1 hb, Lib.hid ((Hid.out hHeld.2).trans (hb.mono (Hid.out hHeld.2).size))⟩ | exact ⟨HS.out, Lib.hid BS.out⟩
            clear hK K
            replace hHeld := hNew
            clear hNew
            ((try simp only [Act.put]); (try simp only [List.setIfInBounds_toArray]); (try simp only [List.set_cons_succ]); (try simp only [List.set_cons_zero]))
            refine anyZ_ready (rs := [2]) (by kernel_rfl) (by simp) ?_
            refine AllZ.cons (o := { dst := some 35, op := Op.call { callee := Callee.value (Operand.func 10), args := #[Operand.tmp 33, Operand.tmp 34], argTypes := #[29, 24] }, type := 29, pos := "more.go:18", after := #[{ on := 0, ground := Ground.data }, { on := 1, ground := Ground.data }], guard := none }) rfl (fun K hK => ?_) AllZ.nil
            go_simp
            refine (less_any (L.out.below (Hid.out hHeld.2)) (by omega) HT.out).mono ?_
            rintro e1 w_7_8_2 ⟨a5, c5, rfl, hO, hO2, hb⟩
            have lpx := Cpx.out.lt
            have lpy := Cpy.out.lt
            replace Cpx := Lib.hid (Cpx.out.below hb)
            replace Cpy := Lib.hid (Cpy.out.below hb)
            have X := Lib.hid ((hO.at hO2).mono (A' := fun k => k ≠ px ∧ k ≠ py) (fun k hk hA => by have hA2 : w_7_8.heap.size ≤ k := hA; (first | trivial | (refine ⟨?_, ?_⟩ <;> omega) | (show k ≠ _; omega))))
            clear hO hO2 lpx lpy
            refine hK.out _ _ ?_ (fun hNew => ?_)
            · first | exact ⟨cell_go hHeld.1 hb, Lib.hid ((Hid.out hHeld.2).trans (hb.mono (Hid.out hHeld.2).size))⟩ | exact ⟨HS.out, Lib.hid BS.out⟩
            clear hK K
            replace hHeld := hNew
            clear hNew
            ((try simp only [Act.put]); (try simp only [List.setIfInBounds_toArray]); (try simp only [List.set_cons_succ]); (try simp only [List.set_cons_zero]))
            refine anyZ_ready (rs := [6]) (by kernel_rfl) (by simp) ?_
            refine AllZ.cons (o := { dst := some 39, op := Op.call { callee := Callee.value (Operand.func 12), args := #[Operand.tmp 36, Operand.tmp 37, Operand.tmp 38], argTypes := #[29, 24, 3] }, type := 29, pos := "more.go:18", after := #[{ on := 3, ground := Ground.data }, { on := 4, ground := Ground.data }, { on := 5, ground := Ground.data }, { on := 2, ground := Ground.chain }], guard := none }) rfl (fun K hK => ?_) AllZ.nil
            go_simp
            refine (but_any (L.out.below (Hid.out hHeld.2)) (by omega) HT.out HD.out).mono ?_
            rintro e1 w_7_8_2_6 ⟨a6, c6, rfl, hO, hO2, hb⟩
            have lpx := Cpx.out.lt
            have lpy := Cpy.out.lt
            replace X := Lib.hid (X.out.below hb)
            replace Cpx := Lib.hid (Cpx.out.below hb)
            replace Cpy := Lib.hid (Cpy.out.below hb)
            have Y := Lib.hid ((hO.at hO2).mono (A' := fun k => k ≠ px ∧ k ≠ py) (fun k hk hA => by have hA2 : w_7_8_2.heap.size ≤ k := hA; (first | trivial | (refine ⟨?_, ?_⟩ <;> omega) | (show k ≠ _; omega))))
            clear hO hO2 lpx lpy
            refine hK.out _ _ ?_ (fun hNew => ?_)
            · first | exact ⟨cell_go hHeld.1 hb, Lib.hid ((Hid.out hHeld.2).trans (hb.mono (Hid.out hHeld.2).size))⟩ | exact ⟨HS.out, Lib.hid BS.out⟩
            clear hK K
            replace hHeld := hNew
            clear hNew
            ((try simp only [Act.put]); (try simp only [List.setIfInBounds_toArray]); (try simp only [List.set_cons_succ]); (try simp only [List.set_cons_zero]))
            refine anyZ_ready (rs := [9]) (by kernel_rfl) (by simp) ?_
            refine AllZ.cons (o := { dst := none, op := Op.store 29 (Operand.tmp 9) (Operand.tmp 35), type := 0, pos := "more.go:18", after := #[{ on := 7, ground := Ground.data }, { on := 2, ground := Ground.data }, { on := 6, ground := Ground.chain }, { on := 0, ground := Ground.phase }, { on := 1, ground := Ground.phase }, { on := 2, ground := Ground.phase }, { on := 3, ground := Ground.textOnly Departure.lateStores }, { on := 4, ground := Ground.textOnly Departure.lateStores }, { on := 5, ground := Ground.textOnly Departure.lateStores }, { on := 6, ground := Ground.textOnly Departure.lateStoresUnsure }, { on := 7, ground := Ground.phase }, { on := 8, ground := Ground.phase }], guard := none }) rfl (fun K hK => ?_) AllZ.nil
            go_simp
            have s1 := Cpx.out.c 0 (by decide)
            have s2 := Cpx.out.fz 0
            try go_simp
            obtain ⟨w_7_8_2_6_9, hw⟩ : ∃ w, w = w_7_8_2_6.setCell ⟨px, 0, none⟩ (.slice a5 n c5) := ⟨_, rfl⟩
            have hk : Keep (fun k => k = px) w_7_8_2_6 w_7_8_2_6_9 := by rw [hw]; exact (Keep.refl _ _).put 0 _
            replace X := Lib.hid (X.out.keep hk (fun k hA => hA.1))
            replace Y := Lib.hid (Y.out.keep hk (fun k hA => hA.1))
            replace Cpy := Lib.hid (Cpy.out.keep hk (by omega))
            replace Cpx := Lib.hid (show Cel 1 w_7_8_2_6_9 px (gcE a5 n c5) by rw [hw]; exact (Cpx.out.put 0 _).conv (fun o ho => by rcases (show o = 0 by omega) with rfl; rfl))
            have BS := Lib.hid (show Below V.heap.size V w_7_8_2_6_9 by rw [hw]; exact (Hid.out hHeld.2).setCell (by omega) _)
            have HS := Lib.hid (show w_7_8_2_6_9.cell? ⟨pg, 0, none⟩ = some (.slice ao n cap) from cell_go CG.out BS.out)
            rw [← hw]
            clear hw hk s1 s2
            refine hK.out _ _ ?_ (fun hNew => ?_)
            · first | exact ⟨cell_go hHeld.1 hb, Lib.hid ((Hid.out hHeld.2).trans (hb.mono (Hid.out hHeld.2).size))⟩ | exact ⟨HS.out, Lib.hid BS.out⟩
            clear hK K
            replace hHeld := hNew
            clear hNew
            ((try simp only [Act.put]); (try simp only [List.setIfInBounds_toArray]); (try simp only [List.set_cons_succ]); (try simp only [List.set_cons_zero]))
            refine anyZ_ready (rs := [10]) (by kernel_rfl) (by simp) ?_
            refine AllZ.last (o := { dst := none, op := Op.store 29 (Operand.tmp 10) (Operand.tmp 39), type := 0, pos := "more.go:18", after := #[{ on := 8, ground := Ground.data }, { on := 6, ground := Ground.data }, { on := 9, ground := Ground.chain }, { on := 0, ground := Ground.phase }, { on := 1, ground := Ground.phase }, { on := 2, ground := Ground.phase }, { on := 3, ground := Ground.phase }, { on := 4, ground := Ground.phase }, { on := 5, ground := Ground.phase }, { on := 6, ground := Ground.phase }, { on := 7, ground := Ground.phase }, { on := 8, ground := Ground.phase }, { on := 9, ground := Ground.phase }], guard := none }) rfl (fun K hK => ?_)
            go_simp
            have s1 := Cpy.out.c 0 (by decide)
            have s2 := Cpy.out.fz 0
            try go_simp
            obtain ⟨w_7_8_2_6_9_10, hw⟩ : ∃ w, w = w_7_8_2_6_9.setCell ⟨py, 0, none⟩ (.slice a6 n c6) := ⟨_, rfl⟩
            have hk : Keep (fun k => k = py) w_7_8_2_6_9 w_7_8_2_6_9_10 := by rw [hw]; exact (Keep.refl _ _).put 0 _
            replace X := Lib.hid (X.out.keep hk (fun k hA => hA.2))
            replace Y := Lib.hid (Y.out.keep hk (fun k hA => hA.2))
            replace Cpx := Lib.hid (Cpx.out.keep hk (by omega))
            replace Cpy := Lib.hid (show Cel 1 w_7_8_2_6_9_10 py (gcE a6 n c6) by rw [hw]; exact (Cpy.out.put 0 _).conv (fun o ho => by rcases (show o = 0 by omega) with rfl; rfl))
            have BS := Lib.hid (show Below V.heap.size V w_7_8_2_6_9_10 by rw [hw]; exact (Hid.out hHeld.2).setCell (by omega) _)
            have HS := Lib.hid (show w_7_8_2_6_9_10.cell? ⟨pg, 0, none⟩ = some (.slice ao n cap) from cell_go CG.out BS.out)
            rw [← hw]
            clear hw hk s1 s2
            refine hK.out _ _ ?_
            clear hK K
            ((try simp only [Act.put]); (try simp only [List.setIfInBounds_toArray]); (try simp only [List.set_cons_succ]); (try simp only [List.set_cons_zero]))
            refine anyZ_done (by kernel_rfl) ?_ _
            refine NoPanic.normal ?_
            go_wp2_with fail
            go_meet
            exact ⟨px, py, a5, c5, a6, c6, rfl, rfl, Cpx.out.c 0 (by decide), Cpy.out.c 0 (by decide), X.out.mono (fun _ _ _ => trivial), Y.out.mono (fun _ _ _ => trivial), BS.out⟩
        · skip
          go_simp
          obtain ⟨w_8, hw⟩ : ∃ w, w = w_.alloc (.cells #[.slice none 0 0] 29) := ⟨_, rfl⟩
          obtain ⟨py, hp⟩ : ∃ p, p = w_.heap.size := ⟨_, rfl⟩
          have hb : Below w_.heap.size w_ w_8 := by rw [hw]; exact boxb _ _
          have Cpy := Lib.hid (show Cel 1 w_8 py (gcE none 0 0) by rw [hw, hp]; exact boxG _ none 0 0 _)
          have Vpy : V.heap.size ≤ py := by rw [hp]; exact (Hid.out hHeld.2).size
          rw [← hw, ← hp]
          clear hw hp
          refine hK.out _ _ ?_ (fun hNew => ?_)
          · first | exact ⟨cell_go hHeld.1 hb, Lib.hid ((Hid.out hHeld.2).trans (hb.mono (Hid.out hHeld.2).size))⟩ | exact ⟨HS.out, Lib.hid BS.out⟩
          clear hK K
          replace hHeld := hNew
          clear hNew
          ((try simp only [Act.put]); (try simp only [List.setIfInBounds_toArray]); (try simp only [List.set_cons_succ]); (try simp only [List.set_cons_zero]))
          refine anyZ_ready (rs := [2, 7]) (by kernel_rfl) (by simp) ?_
          refine AllZ.cons (o := { dst := some 35, op := Op.call { callee := Callee.value (Operand.func 10), args := #[Operand.tmp 33, Operand.tmp 34], argTypes := #[29, 24] }, type := 29, pos := "more.go:18", after := #[{ on := 0, ground := Ground.data }, { on := 1, ground := Ground.data }], guard := none }) rfl (fun K hK => ?_) (AllZ.cons (o := { dst := some 9, op := Op.alloc 29, type := 0, pos := "more.go:18", after := #[], guard := none }) rfl (fun K hK => ?_) AllZ.nil)
          · skip
            go_simp
            refine (less_any (L.out.below (Hid.out hHeld.2)) (by omega) HT.out).mono ?_
            rintro e1 w_8_2 ⟨a5, c5, rfl, hO, hO2, hb⟩
            have lpy := Cpy.out.lt
            replace Cpy := Lib.hid (Cpy.out.below hb)
            have X := Lib.hid ((hO.at hO2).mono (A' := fun k => k ≠ py) (fun k hk hA => by have hA2 : w_8.heap.size ≤ k := hA; (first | trivial | (refine ⟨?_, ?_⟩ <;> omega) | (show k ≠ _; omega))))
            clear hO hO2 lpy
            refine hK.out _ _ ?_ (fun hNew => ?_)
            · first | exact ⟨cell_go hHeld.1 hb, Lib.hid ((Hid.out hHeld.2).trans (hb.mono (Hid.out hHeld.2).size))⟩ | exact ⟨HS.out, Lib.hid BS.out⟩
            clear hK K
            replace hHeld := hNew
            clear hNew
            ((try simp only [Act.put]); (try simp only [List.setIfInBounds_toArray]); (try simp only [List.set_cons_succ]); (try simp only [List.set_cons_zero]))
            refine anyZ_ready (rs := [6, 7]) (by kernel_rfl) (by simp) ?_
            refine AllZ.cons (o := { dst := some 39, op := Op.call { callee := Callee.value (Operand.func 12), args := #[Operand.tmp 36, Operand.tmp 37, Operand.tmp 38], argTypes := #[29, 24, 3] }, type := 29, pos := "more.go:18", after := #[{ on := 3, ground := Ground.data }, { on := 4, ground := Ground.data }, { on := 5, ground := Ground.data }, { on := 2, ground := Ground.chain }], guard := none }) rfl (fun K hK => ?_) (AllZ.cons (o := { dst := some 9, op := Op.alloc 29, type := 0, pos := "more.go:18", after := #[], guard := none }) rfl (fun K hK => ?_) AllZ.nil)
            · skip
              go_simp
              refine (but_any (L.out.below (Hid.out hHeld.2)) (by omega) HT.out HD.out).mono ?_
              rintro e1 w_8_2_6 ⟨a6, c6, rfl, hO, hO2, hb⟩
              have lpy := Cpy.out.lt
              replace X := Lib.hid (X.out.below hb)
              replace Cpy := Lib.hid (Cpy.out.below hb)
              have Y := Lib.hid ((hO.at hO2).mono (A' := fun k => k ≠ py) (fun k hk hA => by have hA2 : w_8_2.heap.size ≤ k := hA; (first | trivial | (refine ⟨?_, ?_⟩ <;> omega) | (show k ≠ _; omega))))
              clear hO hO2 lpy
              refine hK.out _ _ ?_ (fun hNew => ?_)
              · first | exact ⟨cell_go hHeld.1 hb, Lib.hid ((Hid.out hHeld.2).trans (hb.mono (Hid.out hHeld.2).size))⟩ | exact ⟨HS.out, Lib.hid BS.out⟩
              clear hK K
              replace hHeld := hNew
              clear hNew
              ((try simp only [Act.put]); (try simp only [List.setIfInBounds_toArray]); (try simp only [List.set_cons_succ]); (try simp only [List.set_cons_zero]))
              refine anyZ_ready (rs := [7]) (by kernel_rfl) (by simp) ?_
              refine AllZ.cons (o := { dst := some 9, op := Op.alloc 29, type := 0, pos := "more.go:18", after := #[], guard := none }) rfl (fun K hK => ?_) AllZ.nil
              go_simp
              obtain ⟨w_8_2_6_7, hw⟩ : ∃ w, w = w_8_2_6.alloc (.cells #[.slice none 0 0] 29) := ⟨_, rfl⟩
              obtain ⟨px, hp⟩ : ∃ p, p = w_8_2_6.heap.size := ⟨_, rfl⟩
              have hb : Below w_8_2_6.heap.size w_8_2_6 w_8_2_6_7 := by rw [hw]; exact boxb _ _
              have Cpx := Lib.hid (show Cel 1 w_8_2_6_7 px (gcE none 0 0) by rw [hw, hp]; exact boxG _ none 0 0 _)
              have Vpx : V.heap.size ≤ px := by rw [hp]; exact (Hid.out hHeld.2).size
              have Npy : py ≠ px := by have := Cpy.out.lt; omega
              replace X := Lib.hid ((X.out.mono (A' := fun k => k ≠ px ∧ k ≠ py) (fun k hk hA => by have hA2 : k ≠ py := hA; exact ⟨by omega, hA2⟩)).below hb)
              replace Y := Lib.hid ((Y.out.mono (A' := fun k => k ≠ px ∧ k ≠ py) (fun k hk hA => by have hA2 : k ≠ py := hA; exact ⟨by omega, hA2⟩)).below hb)
              replace Cpy := Lib.hid (Cpy.out.below hb)
              rw [← hw, ← hp]
              clear hw hp
              refine hK.out _ _ ?_ (fun hNew => ?_)
              · first | exact ⟨cell_go hHeld.1 hb, Lib.hid ((Hid.out hHeld.2).trans (hb.mono (Hid.out hHeld.2).size))⟩ | exact ⟨HS.out, Lib.hid BS.out⟩
              clear hK K
              replace hHeld := hNew
              clear hNew
              ((try simp only [Act.put]); (try simp only [List.setIfInBounds_toArray]); (try simp only [List.set_cons_succ]); (try simp only [List.set_cons_zero]))
              refine anyZ_ready (rs := [9]) (by kernel_rfl) (by simp) ?_
              refine AllZ.cons (o := { dst := none, op := Op.store 29 (Operand.tmp 9) (Operand.tmp 35), type := 0, pos := "more.go:18", after := #[{ on := 7, ground := Ground.data }, { on := 2, ground := Ground.data }, { on := 6, ground := Ground.chain }, { on := 0, ground := Ground.phase }, { on := 1, ground := Ground.phase }, { on := 2, ground := Ground.phase }, { on := 3, ground := Ground.textOnly Departure.lateStores }, { on := 4, ground := Ground.textOnly Departure.lateStores }, { on := 5, ground := Ground.textOnly Departure.lateStores }, { on := 6, ground := Ground.textOnly Departure.lateStoresUnsure }, { on := 7, ground := Ground.phase }, { on := 8, ground := Ground.phase }], guard := none }) rfl (fun K hK => ?_) AllZ.nil
              go_simp
              have s1 := Cpx.out.c 0 (by decide)
              have s2 := Cpx.out.fz 0
              try go_simp
              obtain ⟨w_8_2_6_7_9, hw⟩ : ∃ w, w = w_8_2_6_7.setCell ⟨px, 0, none⟩ (.slice a5 n c5) := ⟨_, rfl⟩
              have hk : Keep (fun k => k = px) w_8_2_6_7 w_8_2_6_7_9 := by rw [hw]; exact (Keep.refl _ _).put 0 _
              replace X := Lib.hid (X.out.keep hk (fun k hA => hA.1))
              replace Y := Lib.hid (Y.out.keep hk (fun k hA => hA.1))
              replace Cpy := Lib.hid (Cpy.out.keep hk (by omega))
              replace Cpx := Lib.hid (show Cel 1 w_8_2_6_7_9 px (gcE a5 n c5) by rw [hw]; exact (Cpx.out.put 0 _).conv (fun o ho => by rcases (show o = 0 by omega) with rfl; rfl))
              have BS := Lib.hid (show Below V.heap.size V w_8_2_6_7_9 by rw [hw]; exact (Hid.out hHeld.2).setCell (by omega) _)
              have HS := Lib.hid (show w_8_2_6_7_9.cell? ⟨pg, 0, none⟩ = some (.slice ao n cap) from cell_go CG.out BS.out)
              rw [← hw]
              clear hw hk s1 s2
              refine hK.out _ _ ?_ (fun hNew => ?_)
              · first | exact ⟨cell_go hHeld.1 hb, Lib.hid ((Hid.out hHeld.2).trans (hb.mono (Hid.out hHeld.2).size))⟩ | exact ⟨HS.out, Lib.hid BS.out⟩
              clear hK K
              replace hHeld := hNew
              clear hNew
              ((try simp only [Act.put]); (try simp only [List.setIfInBounds_toArray]); (try simp only [List.set_cons_succ]); (try simp only [List.set_cons_zero]))
              refine anyZ_ready (rs := [10]) (by kernel_rfl) (by simp) ?_
              refine AllZ.last (o := { dst := none, op := Op.store 29 (Operand.tmp 10) (Operand.tmp 39), type := 0, pos := "more.go:18", after := #[{ on := 8, ground := Ground.data }, { on := 6, ground := Ground.data }, { on := 9, ground := Ground.chain }, { on := 0, ground := Ground.phase }, { on := 1, ground := Ground.phase }, { on := 2, ground := Ground.phase }, { on := 3, ground := Ground.phase }, { on := 4, ground := Ground.phase }, { on := 5, ground := Ground.phase }, { on := 6, ground := Ground.phase }, { on := 7, ground := Ground.phase }, { on := 8, ground := Ground.phase }, { on := 9, ground := Ground.phase }], guard := none }) rfl (fun K hK => ?_)
              go_simp
              have s1 := Cpy.out.c 0 (by decide)
              have s2 := Cpy.out.fz 0
              try go_simp
              obtain ⟨w_8_2_6_7_9_10, hw⟩ : ∃ w, w = w_8_2_6_7_9.setCell ⟨py, 0, none⟩ (.slice a6 n c6) := ⟨_, rfl⟩
              have hk : Keep (fun k => k = py) w_8_2_6_7_9 w_8_2_6_7_9_10 := by rw [hw]; exact (Keep.refl _ _).put 0 _
              replace X := Lib.hid (X.out.keep hk (fun k hA => hA.2))
              replace Y := Lib.hid (Y.out.keep hk (fun k hA => hA.2))
              replace Cpx := Lib.hid (Cpx.out.keep hk (by omega))
              replace Cpy := Lib.hid (show Cel 1 w_8_2_6_7_9_10 py (gcE a6 n c6) by rw [hw]; exact (Cpy.out.put 0 _).conv (fun o ho => by rcases (show o = 0 by omega) with rfl; rfl))
              have BS := Lib.hid (show Below V.heap.size V w_8_2_6_7_9_10 by rw [hw]; exact (Hid.out hHeld.2).setCell (by omega) _)
              have HS := Lib.hid (show w_8_2_6_7_9_10.cell? ⟨pg, 0, none⟩ = some (.slice ao n cap) from cell_go CG.out BS.out)
              rw [← hw]
              clear hw hk s1 s2
              refine hK.out _ _ ?_
              clear hK K
              ((try simp only [Act.put]); (try simp only [List.setIfInBounds_toArray]); (try simp only [List.set_cons_succ]); (try simp only [List.set_cons_zero]))
              refine anyZ_done (by kernel_rfl) ?_ _
              refine NoPanic.normal ?_
              go_wp2_with fail
              go_meet
              exact ⟨px, py, a5, c5, a6, c6, rfl, rfl, Cpx.out.c 0 (by decide), Cpy.out.c 0 (by decide), X.out.mono (fun _ _ _ => trivial), Y.out.mono (fun _ _ _ => trivial), BS.out⟩
            · skip
              go_simp
              obtain ⟨w_8_2_7, hw⟩ : ∃ w, w = w_8_2.alloc (.cells #[.slice none 0 0] 29) := ⟨_, rfl⟩
              obtain ⟨px, hp⟩ : ∃ p, p = w_8_2.heap.size := ⟨_, rfl⟩
              have hb : Below w_8_2.heap.size w_8_2 w_8_2_7 := by rw [hw]; exact boxb _ _
              have Cpx := Lib.hid (show Cel 1 w_8_2_7 px (gcE none 0 0) by rw [hw, hp]; exact boxG _ none 0 0 _)
              have Vpx : V.heap.size ≤ px := by rw [hp]; exact (Hid.out hHeld.2).size
              have Npy : py ≠ px := by have := Cpy.out.lt; omega
              replace X := Lib.hid ((X.out.mono (A' := fun k => k ≠ px ∧ k ≠ py) (fun k hk hA => by have hA2 : k ≠ py := hA; exact ⟨by omega, hA2⟩)).below hb)
              replace Cpy := Lib.hid (Cpy.out.below hb)
              rw [← hw, ← hp]
              clear hw hp
              refine hK.out _ _ ?_ (fun hNew => ?_)
              · first | exact ⟨cell_go hHeld.1 hb, Lib.hid ((Hid.out hHeld.2).trans (hb.mono (Hid.out hHeld.2).size))⟩ | exact ⟨HS.out, Lib.hid BS.out⟩
              clear hK K
              replace hHeld := hNew
              clear hNew
              ((try simp only [Act.put]); (try simp only [List.setIfInBounds_toArray]); (try simp only [List.set_cons_succ]); (try simp only [List.set_cons_zero]))
              refine anyZ_ready (rs := [6]) (by kernel_rfl) (by simp) ?_
              refine AllZ.cons (o := { dst := some 39, op := Op.call { callee := Callee.value (Operand.func 12), args := #[Operand.tmp 36, Operand.tmp 37, Operand.tmp 38], argTypes := #[29, 24, 3] }, type := 29, pos := "more.go:18", after := #[{ on := 3, ground := Ground.data }, { on := 4, ground := Ground.data }, { on := 5, ground := Ground.data }, { on := 2, ground := Ground.chain }], guard := none }) rfl (fun K hK => ?_) AllZ.nil
              go_simp
              refine (but_any (L.out.below (Hid.out hHeld.2)) (by omega) HT.out HD.out).mono ?_
              rintro e1 w_8_2_7_6 ⟨a6, c6, rfl, hO, hO2, hb⟩
              have lpx := Cpx.out.lt
              have lpy := Cpy.out.lt
              replace X := Lib.hid (X.out.below hb)
              replace Cpx := Lib.hid (Cpx.out.below hb)
              replace Cpy := Lib.hid (Cpy.out.below hb)
              have Y := Lib.hid ((hO.at hO2).mono (A' := fun k => k ≠ px ∧ k ≠ py) (fun k hk hA => by have hA2 : w_8_2_7.heap.size ≤ k := hA; (first | trivial | (refine ⟨?_, ?_⟩ <;> omega) | (show k ≠ _; omega))))
              clear hO hO2 lpx lpy
              refine hK.out _ _ ?_ (fun hNew => ?_)
              · first | exact ⟨cell_go hHeld.1 hb, Lib.hid ((Hid.out hHeld.2).trans (hb.mono (Hid.out hHeld.2).size))⟩ | exact ⟨HS.out, Lib.hid BS.out⟩
              clear hK K
              replace hHeld := hNew
              clear hNew
              ((try simp only [Act.put]); (try simp only [List.setIfInBounds_toArray]); (try simp only [List.set_cons_succ]); (try simp only [List.set_cons_zero]))
              refine anyZ_ready (rs := [9]) (by kernel_rfl) (by simp) ?_
              refine AllZ.cons (o := { dst := none, op := Op.store 29 (Operand.tmp 9) (Operand.tmp 35), type := 0, pos := "more.go:18", after := #[{ on := 7, ground := Ground.data }, { on := 2, ground := Ground.data }, { on := 6, ground := Ground.chain }, { on := 0, ground := Ground.phase }, { on := 1, ground := Ground.phase }, { on := 2, ground := Ground.phase }, { on := 3, ground := Ground.textOnly Departure.lateStores }, { on := 4, ground := Ground.textOnly Departure.lateStores }, { on := 5, ground := Ground.textOnly Departure.lateStores }, { on := 6, ground := Ground.textOnly Departure.lateStoresUnsure }, { on := 7, ground := Ground.phase }, { on := 8, ground := Ground.phase }], guard := none }) rfl (fun K hK => ?_) AllZ.nil
              go_simp
              have s1 := Cpx.out.c 0 (by decide)
              have s2 := Cpx.out.fz 0
              try go_simp
              obtain ⟨w_8_2_7_6_9, hw⟩ : ∃ w, w = w_8_2_7_6.setCell ⟨px, 0, none⟩ (.slice a5 n c5) := ⟨_, rfl⟩
              have hk : Keep (fun k => k = px) w_8_2_7_6 w_8_2_7_6_9 := by rw [hw]; exact (Keep.refl _ _).put 0 _
              replace X := Lib.hid (X.out.keep hk (fun k hA => hA.1))
              replace Y := Lib.hid (Y.out.keep hk (fun k hA => hA.1))
              replace Cpy := Lib.hid (Cpy.out.keep hk (by omega))
              replace Cpx := Lib.hid (show Cel 1 w_8_2_7_6_9 px (gcE a5 n c5) by rw [hw]; exact (Cpx.out.put 0 _).conv (fun o ho => by rcases (show o = 0 by omega) with rfl; rfl))
              have BS := Lib.hid (show Below V.heap.size V w_8_2_7_6_9 by rw [hw]; exact (Hid.out hHeld.2).setCell (by omega) _)
              have HS := Lib.hid (show w_8_2_7_6_9.cell? ⟨pg, 0, none⟩ = some (.slice ao n cap) from cell_go CG.out BS.out)
              rw [← hw]
              clear hw hk s1 s2
              refine hK.out _ _ ?_ (fun hNew => ?_)
              · first | exact ⟨cell_go hHeld.1 hb, Lib.hid ((Hid.out hHeld.2).trans (hb.mono (Hid.out hHeld.2).size))⟩ | exact ⟨HS.out, Lib.hid BS.out⟩
              clear hK K
              replace hHeld := hNew
              clear hNew
              ((try simp only [Act.put]); (try simp only [List.setIfInBounds_toArray]); (try simp only [List.set_cons_succ]); (try simp only [List.set_cons_zero]))
              refine anyZ_ready (rs := [10]) (by kernel_rfl) (by simp) ?_
              refine AllZ.last (o := { dst := none, op := Op.store 29 (Operand.tmp 10) (Operand.tmp 39), type := 0, pos := "more.go:18", after := #[{ on := 8, ground := Ground.data }, { on := 6, ground := Ground.data }, { on := 9, ground := Ground.chain }, { on := 0, ground := Ground.phase }, { on := 1, ground := Ground.phase }, { on := 2, ground := Ground.phase }, { on := 3, ground := Ground.phase }, { on := 4, ground := Ground.phase }, { on := 5, ground := Ground.phase }, { on := 6, ground := Ground.phase }, { on := 7, ground := Ground.phase }, { on := 8, ground := Ground.phase }, { on := 9, ground := Ground.phase }], guard := none }) rfl (fun K hK => ?_)
              go_simp
              have s1 := Cpy.out.c 0 (by decide)
              have s2 := Cpy.out.fz 0
              try go_simp
              obtain ⟨w_8_2_7_6_9_10, hw⟩ : ∃ w, w = w_8_2_7_6_9.setCell ⟨py, 0, none⟩ (.slice a6 n c6) := ⟨_, rfl⟩
              have hk : Keep (fun k => k = py) w_8_2_7_6_9 w_8_2_7_6_9_10 := by rw [hw]; exact (Keep.refl _ _).put 0 _
              replace X := Lib.hid (X.out.keep hk (fun k hA => hA.2))
              replace Y := Lib.hid (Y.out.keep hk (fun k hA => hA.2))
              replace Cpx := Lib.hid (Cpx.out.keep hk (by omega))
              replace Cpy := Lib.hid (show Cel 1 w_8_2_7_6_9_10 py (gcE a6 n c6) by rw [hw]; exact (Cpy.out.put 0 _).conv (fun o ho => by rcases (show o = 0 by omega) with rfl; rfl))
              have BS := Lib.hid (show Below V.heap.size V w_8_2_7_6_9_10 by rw [hw]; exact (Hid.out hHeld.2).setCell (by omega) _)
              have HS := Lib.hid (show w_8_2_7_6_9_10.cell? ⟨pg, 0, none⟩ = some (.slice ao n cap) from cell_go CG.out BS.out)
              rw [← hw]
              clear hw hk s1 s2
              refine hK.out _ _ ?_
              clear hK K
              ((try simp only [Act.put]); (try simp only [List.setIfInBounds_toArray]); (try simp only [List.set_cons_succ]); (try simp only [List.set_cons_zero]))
              refine anyZ_done (by kernel_rfl) ?_ _
              refine NoPanic.normal ?_
              go_wp2_with fail
              go_meet
              exact ⟨px, py, a5, c5, a6, c6, rfl, rfl, Cpx.out.c 0 (by decide), Cpy.out.c 0 (by decide), X.out.mono (fun _ _ _ => trivial), Y.out.mono (fun _ _ _ => trivial), BS.out⟩
          · skip
            go_simp
            obtain ⟨w_8_7, hw⟩ : ∃ w, w = w_8.alloc (.cells #[.slice none 0 0] 29) := ⟨_, rfl⟩
            obtain ⟨px, hp⟩ : ∃ p, p = w_8.heap.size := ⟨_, rfl⟩
            have hb : Below w_8.heap.size w_8 w_8_7 := by rw [hw]; exact boxb _ _
            have Cpx := Lib.hid (show Cel 1 w_8_7 px (gcE none 0 0) by rw [hw, hp]; exact boxG _ none 0 0 _)
            have Vpx : V.heap.size ≤ px := by rw [hp]; exact (Hid.out hHeld.2).size
            have Npy : py ≠ px := by have := Cpy.out.lt; omega
            replace Cpy := Lib.hid (Cpy.out.below hb)
            rw [← hw, ← hp]
            clear hw hp
            refine hK.out _ _ ?_ (fun hNew => ?_)
            · first | exact ⟨cell_go hHeld.1 hb, Lib.hid ((Hid.out hHeld.2).trans (hb.mono (Hid.out hHeld.2).size))⟩ | exact ⟨HS.out, Lib.hid BS.out⟩
            clear hK K
            replace hHeld := hNew
            clear hNew
            ((try simp only [Act.put]); (try simp only [List.setIfInBounds_toArray]); (try simp only [List.set_cons_succ]); (try simp only [List.set_cons_zero]))
            refine anyZ_ready (rs := [2]) (by kernel_rfl) (by simp) ?_
            refine AllZ.cons (o := { dst := some 35, op := Op.call { callee := Callee.value (Operand.func 10), args := #[Operand.tmp 33, Operand.tmp 34], argTypes := #[29, 24] }, type := 29, pos := "more.go:18", after := #[{ on := 0, ground := Ground.data }, { on := 1, ground := Ground.data }], guard := none }) rfl (fun K hK => ?_) AllZ.nil
            go_simp
            refine (less_any (L.out.below (Hid.out hHeld.2)) (by omega) HT.out).mono ?_
            rintro e1 w_8_7_2 ⟨a5, c5, rfl, hO, hO2, hb⟩
            have lpx := Cpx.out.lt
            have lpy := Cpy.out.lt
            replace Cpx := Lib.hid (Cpx.out.below hb)
            replace Cpy := Lib.hid (Cpy.out.below hb)
            have X := Lib.hid ((hO.at hO2).mono (A' := fun k => k ≠ px ∧ k ≠ py) (fun k hk hA => by have hA2 : w_8_7.heap.size ≤ k := hA; (first | trivial | (refine ⟨?_, ?_⟩ <;> omega) | (show k ≠ _; omega))))
            clear hO hO2 lpx lpy
            refine hK.out _ _ ?_ (fun hNew => ?_)
            · first | exact ⟨cell_go hHeld.1 hb, Lib.hid ((Hid.out hHeld.2).trans (hb.mono (Hid.out hHeld.2).size))⟩ | exact ⟨HS.out, Lib.hid BS.out⟩
            clear hK K
            replace hHeld := hNew
            clear hNew
            ((try simp only [Act.put]); (try simp only [List.setIfInBounds_toArray]); (try simp only [List.set_cons_succ]); (try simp only [List.set_cons_zero]))
            refine anyZ_ready (rs := [6]) (by kernel_rfl) (by simp) ?_
            refine AllZ.cons (o := { dst := some 39, op := Op.call { callee := Callee.value (Operand.func 12), args := #[Operand.tmp 36, Operand.tmp 37, Operand.tmp 38], argTypes := #[29, 24, 3] }, type := 29, pos := "more.go:18", after := #[{ on := 3, ground := Ground.data }, { on := 4, ground := Ground.data }, { on := 5, ground := Ground.data }, { on := 2, ground := Ground.chain }], guard := none }) rfl (fun K hK => ?_) AllZ.nil
            go_simp
            refine (but_any (L.out.below (Hid.out hHeld.2)) (by omega) HT.out HD.out).mono ?_
            rintro e1 w_8_7_2_6 ⟨a6, c6, rfl, hO, hO2, hb⟩
            have lpx := Cpx.out.lt
            have lpy := Cpy.out.lt
            replace X := Lib.hid (X.out.below hb)
            replace Cpx := Lib.hid (Cpx.out.below hb)
            replace Cpy := Lib.hid (Cpy.out.below hb)
            have Y := Lib.hid ((hO.at hO2).mono (A' := fun k => k ≠ px ∧ k ≠ py) (fun k hk hA => by have hA2 : w_8_7_2.heap.size ≤ k := hA; (first | trivial | (refine ⟨?_, ?_⟩ <;> omega) | (show k ≠ _; omega))))
            clear hO hO2 lpx lpy
            refine hK.out _ _ ?_ (fun hNew => ?_)
            · first | exact ⟨cell_go hHeld.1 hb, Lib.hid ((Hid.out hHeld.2).trans (hb.mono (Hid.out hHeld.2).size))⟩ | exact ⟨HS.out, Lib.hid BS.out⟩
            clear hK K
            replace hHeld := hNew
            clear hNew
            ((try simp only [Act.put]); (try simp only [List.setIfInBounds_toArray]); (try simp only [List.set_cons_succ]); (try simp only [List.set_cons_zero]))
            refine anyZ_ready (rs := [9]) (by kernel_rfl) (by simp) ?_
            refine AllZ.cons (o := { dst := none, op := Op.store 29 (Operand.tmp 9) (Operand.tmp 35), type := 0, pos := "more.go:18", after := #[{ on := 7, ground := Ground.data }, { on := 2, ground := Ground.data }, { on := 6, ground := Ground.chain }, { on := 0, ground := Ground.phase }, { on := 1, ground := Ground.phase }, { on := 2, ground := Ground.phase }, { on := 3, ground := Ground.textOnly Departure.lateStores }, { on := 4, ground := Ground.textOnly Departure.lateStores }, { on := 5, ground := Ground.textOnly Departure.lateStores }, { on := 6, ground := Ground.textOnly Departure.lateStoresUnsure }, { on := 7, ground := Ground.phase }, { on := 8, ground := Ground.phase }], guard := none }) rfl (fun K hK => ?_) AllZ.nil
            go_simp
            have s1 := Cpx.out.c 0 (by decide)
            have s2 := Cpx.out.fz 0
            try go_simp
            obtain ⟨w_8_7_2_6_9, hw⟩ : ∃ w, w = w_8_7_2_6.setCell ⟨px, 0, none⟩ (.slice a5 n c5) := ⟨_, rfl⟩
            have hk : Keep (fun k => k = px) w_8_7_2_6 w_8_7_2_6_9 := by rw [hw]; exact (Keep.refl _ _).put 0 _
            replace X := Lib.hid (X.out.keep hk (fun k hA => hA.1))
            replace Y := Lib.hid (Y.out.keep hk (fun k hA => hA.1))
            replace Cpy := Lib.hid (Cpy.out.keep hk (by omega))
            replace Cpx := Lib.hid (show Cel 1 w_8_7_2_6_9 px (gcE a5 n c5) by rw [hw]; exact (Cpx.out.put 0 _).conv (fun o ho => by rcases (show o = 0 by omega) with rfl; rfl))
            have BS := Lib.hid (show Below V.heap.size V w_8_7_2_6_9 by rw [hw]; exact (Hid.out hHeld.2).setCell (by omega) _)
            have HS := Lib.hid (show w_8_7_2_6_9.cell? ⟨pg, 0, none⟩ = some (.slice ao n cap) from cell_go CG.out BS.out)
            rw [← hw]
            clear hw hk s1 s2
            refine hK.out _ _ ?_ (fun hNew => ?_)
            · first | exact ⟨cell_go hHeld.1 hb, Lib.hid ((Hid.out hHeld.2).trans (hb.mono (Hid.out hHeld.2).size))⟩ | exact ⟨HS.out, Lib.hid BS.out⟩
            clear hK K
            replace hHeld := hNew
            clear hNew
            ((try simp only [Act.put]); (try simp only [List.setIfInBounds_toArray]); (try simp only [List.set_cons_succ]); (try simp only [List.set_cons_zero]))
            refine anyZ_ready (rs := [10]) (by kernel_rfl) (by simp) ?_
            refine AllZ.last (o := { dst := none, op := Op.store 29 (Operand.tmp 10) (Operand.tmp 39), type := 0, pos := "more.go:18", after := #[{ on := 8, ground := Ground.data }, { on := 6, ground := Ground.data }, { on := 9, ground := Ground.chain }, { on := 0, ground := Ground.phase }, { on := 1, ground := Ground.phase }, { on := 2, ground := Ground.phase }, { on := 3, ground := Ground.phase }, { on := 4, ground := Ground.phase }, { on := 5, ground := Ground.phase }, { on := 6, ground := Ground.phase }, { on := 7, ground := Ground.phase }, { on := 8, ground := Ground.phase }, { on := 9, ground := Ground.phase }], guard := none }) rfl (fun K hK => ?_)
            go_simp
            have s1 := Cpy.out.c 0 (by decide)
            have s2 := Cpy.out.fz 0
            try go_simp
            obtain ⟨w_8_7_2_6_9_10, hw⟩ : ∃ w, w = w_8_7_2_6_9.setCell ⟨py, 0, none⟩ (.slice a6 n c6) := ⟨_, rfl⟩
            have hk : Keep (fun k => k = py) w_8_7_2_6_9 w_8_7_2_6_9_10 := by rw [hw]; exact (Keep.refl _ _).put 0 _
            replace X := Lib.hid (X.out.keep hk (fun k hA => hA.2))
            replace Y := Lib.hid (Y.out.keep hk (fun k hA => hA.2))
            replace Cpx := Lib.hid (Cpx.out.keep hk (by omega))
            replace Cpy := Lib.hid (show Cel 1 w_8_7_2_6_9_10 py (gcE a6 n c6) by rw [hw]; exact (Cpy.out.put 0 _).conv (fun o ho => by rcases (show o = 0 by omega) with rfl; rfl))
            have BS := Lib.hid (show Below V.heap.size V w_8_7_2_6_9_10 by rw [hw]; exact (Hid.out hHeld.2).setCell (by omega) _)
            have HS := Lib.hid (show w_8_7_2_6_9_10.cell? ⟨pg, 0, none⟩ = some (.slice ao n cap) from cell_go CG.out BS.out)
            rw [← hw]
            clear hw hk s1 s2
            refine hK.out _ _ ?_
            clear hK K
            ((try simp only [Act.put]); (try simp only [List.setIfInBounds_toArray]); (try simp only [List.set_cons_succ]); (try simp only [List.set_cons_zero]))
            refine anyZ_done (by kernel_rfl) ?_ _
            refine NoPanic.normal ?_
            go_wp2_with fail
            go_meet
            exact ⟨px, py, a5, c5, a6, c6, rfl, rfl, Cpx.out.c 0 (by decide), Cpy.out.c 0 (by decide), X.out.mono (fun _ _ _ => trivial), Y.out.mono (fun _ _ _ => trivial), BS.out⟩
      case rest =>
        obtain ⟨px, py, a5, c5, a6, c6, rfl, rfl, x0, y0, hX, hY, hb⟩ := hcut
        have X := Lib.hid hX
        have Y := Lib.hid hY
        have B := Lib.hid hb
        have LC := Lib.hid (L.out.below hb)
        have dn : ((n : Int) != (n : Int)) = false := by simp
        clear hX hY hb
        have dw : ∀ q, (wc.drewN q).cell? ⟨px, 0, none⟩ = some (.slice a5 n c5) := fun q => x0
        go_wp2_with fail
        go_loopw [11] (fun s11 wr => ∃ k : Nat, k ≤ n ∧ s11 = .int .i64 (k : Nat) ∧ Hid (Below wc.heap.size wc wr)) (fun s11 _ => n - (intOf s11).toNat)
        case atStart => exact ⟨0, Nat.zero_le _, rfl, Lib.hid (Below.refl _ _)⟩
        case round =>
          obtain ⟨k, hk, rfl, BR⟩ := hrel
          have p0 := cell_go x0 BR.out
          have q0 := cell_go y0 BR.out
          clear x0 y0
          by_cases hlt : k < n
          · have dk : decide ((k : Int) < (n : Int)) = true := decide_eq_true (by omega)
            have hkl : k < l.length := by rw [HN.out]; exact hlt
            have ht : (l.getD k default).t < 18446744073709551616 := (L0.out.ok _ (by rw [List.getD, List.getElem?_eq_getElem hkl]; exact List.getElem_mem _)).2.2
            obtain ⟨b5, o5, rfl, -, -, -, -, z5⟩ := (X.out.below BR.out).cell hlt
            obtain ⟨b6, o6, rfl, -, -, -, -, z6⟩ := (Y.out.below BR.out).cell hlt
            obtain ⟨b7, o7, rfl, -, -, -, -, z7⟩ := (LC.out.below BR.out).cell hlt
            rw [but_at HG.out hkl, toD_none] at z5
            rw [but_at HG.out hkl] at z6
            obtain ⟨t, et⟩ : ∃ t, t = (l.getD k default).t := ⟨_, rfl⟩
            rw [← et] at z5 z6 z7 ht
            clear et
            have hxt : butN64 t ts < 18446744073709551616 := Nat.lt_of_le_of_lt (butN_le _ _) ht
            have hyt : butN64 t (toD ts d) < 18446744073709551616 := Nat.lt_of_le_of_lt (butN_le _ _) ht
            have e1 := u64_and_nat (butN64 t ts) ts hxt HT.out
            rw [but_none ht HT.out] at e1
            have e2 := u64_and_nat (butN64 t (toD ts d)) ts hyt HT.out
            have e3 : bits .andNot .u64 ((butN64 t (toD ts d) &&& ts : Nat) : Int) (bitN d : Int) = ((butN64 (butN64 t (toD ts d) &&& ts) (bitN d) : Nat) : Int) := u64_andNot_nat _ _ (Nat.lt_of_le_of_lt Nat.and_le_left hyt) (bitN_lt d)
            rw [but_one d ht HT.out] at e3
            obtain ⟨bh, hbh⟩ : ∃ bh, bh = hasN t d := ⟨_, rfl⟩
            have HA1 := Lib.hid (fun w => has_any (butN64 t (toD ts d)) d w hyt HD.out)
            rw [but_has (by omega) (by omega) ht HT.out, ← hbh] at HA1
            have HA2 := Lib.hid (fun w => has_any t d w ht HD.out)
            rw [← hbh] at HA2
            have hbb : (bh != bh) = false := by simp
            have WI := Lib.hid (fun w => within_any (butN64 t ts) t w hxt ht)
            rw [show decide (butN64 t ts &&& (18446744073709551615 - t) = 0) = true from decide_eq_true (but_in ht HT.out)] at WI
            obtain ⟨bd, hb1⟩ : ∃ bd, bd = bitN d := ⟨_, rfl⟩
            have hbd := Lib.hid hb1.symm
            rw [← hb1] at e3
            clear hbh hb1 hxt hyt ht hkl
            generalize butN64 t (toD ts d) &&& ts = z at *
            generalize butN64 t (toD ts d) = yt at *
            generalize butN64 t ts = xt at *
            have i0 : (0 : Int) ≤ (k : Int) := by omega
            have i1 : (k : Int) < (n : Int) := by omega
            go_upto_region 13 with fail
            refine wp_region_noPanic ?_
            refine wp_region_held_drew (S := (fun w' => w'.cell? ⟨px, 0, none⟩ = some (.slice (some ⟨b5, o5, none⟩) n c5) ∧ w'.cell? ⟨py, 0, none⟩ = some (.slice (some ⟨b6, o6, none⟩) n c6) ∧ w'.cell? ⟨b5, o5 + k * 3 + 2, none⟩ = some (.int .u64 (xt : Int)) ∧ w'.cell? ⟨b6, o6 + k * 3 + 2, none⟩ = some (.int .u64 (yt : Int)) ∧ w'.cell? ⟨b7, o7 + k * 3 + 2, none⟩ = some (.int .u64 (t : Int)) ∧ Hid (Below wr.heap.size wr w'))) (by kernel_rfl) ?_ (fun hHeld => ?_)
            · exact ⟨cell_go p0 (drew_below wr), cell_go q0 (drew_below wr), cell_go z5 (drew_below wr), cell_go z6 (drew_below wr), cell_go z7 (drew_below wr), Lib.hid (drew_below wr)⟩
            generalize wr.drew = w_ at *
            refine wpAnyH_take (i := 0) (oi := { dst := some 60, op := Op.fieldAddr 29 (Operand.tmp 9) 0, type := 0, pos := "more.go:23", after := #[], guard := none }) (v := ?_) rfl (by kernel_rfl) (by kernel_rfl) (by kernel_rfl) (fun _ _ _ h => h) (Or.inl ⟨by rfl, ?_⟩) (by assumption) ?_
            rotate_left
            · (intro w hSw; (try dsimp only at hSw); go_simp; try with_reducible rfl)
            ((try simp only [Act.put]); (try simp only [List.setIfInBounds_toArray]); (try simp only [List.set_cons_succ]); (try simp only [List.set_cons_zero]))
            refine wpAnyH_take (i := 1) (oi := { dst := some 61, op := Op.load 27 (Operand.tmp 60), type := 27, pos := "more.go:23", after := #[{ on := 0, ground := Ground.data }], guard := none }) (v := ?_) rfl (by kernel_rfl) (by kernel_rfl) (by kernel_rfl) (fun _ _ _ h => h) (Or.inl ⟨by rfl, ?_⟩) (by assumption) ?_
            rotate_left
            · (intro w hSw; (try dsimp only at hSw); go_simp; try with_reducible rfl)
            ((try simp only [Act.put]); (try simp only [List.setIfInBounds_toArray]); (try simp only [List.set_cons_succ]); (try simp only [List.set_cons_zero]))
            refine wpAnyH_take (i := 2) (oi := { dst := some 62, op := Op.move (Operand.tmp 11), type := 3, pos := "more.go:23", after := #[], guard := none }) (v := ?_) rfl (by kernel_rfl) (by kernel_rfl) (by kernel_rfl) (fun _ _ _ h => h) (Or.inl ⟨by rfl, ?_⟩) (by assumption) ?_
            rotate_left
            · (intro w hSw; (try dsimp only at hSw); go_simp; try with_reducible rfl)
            ((try simp only [Act.put]); (try simp only [List.setIfInBounds_toArray]); (try simp only [List.set_cons_succ]); (try simp only [List.set_cons_zero]))
            refine wpAnyH_take (i := 3) (oi := { dst := some 63, op := Op.indexAddr 27 (Operand.tmp 61) (Operand.tmp 62), type := 0, pos := "more.go:23", after := #[{ on := 1, ground := Ground.data }, { on := 2, ground := Ground.data }], guard := none }) (v := ?_) rfl (by kernel_rfl) (by kernel_rfl) (by kernel_rfl) (fun _ _ _ h => h) (Or.inl ⟨by rfl, ?_⟩) (by assumption) ?_
            rotate_left
            · (intro w hSw; (try dsimp only at hSw); go_simp; try with_reducible rfl)
            ((try simp only [Act.put]); (try simp only [List.setIfInBounds_toArray]); (try simp only [List.set_cons_succ]); (try simp only [List.set_cons_zero]))
            refine wpAnyH_take (i := 4) (oi := { dst := some 64, op := Op.fieldAddr 26 (Operand.tmp 63) 2, type := 0, pos := "more.go:23", after := #[{ on := 3, ground := Ground.data }], guard := none }) (v := ?_) rfl (by kernel_rfl) (by kernel_rfl) (by kernel_rfl) (fun _ _ _ h => h) (Or.inl ⟨by rfl, ?_⟩) (by assumption) ?_
            rotate_left
            · (intro w hSw; (try dsimp only at hSw); go_simp; try with_reducible rfl)
            ((try simp only [Act.put]); (try simp only [List.setIfInBounds_toArray]); (try simp only [List.set_cons_succ]); (try simp only [List.set_cons_zero]))
            refine wpAnyH_take (i := 5) (oi := { dst := some 65, op := Op.load 24 (Operand.tmp 64), type := 24, pos := "more.go:23", after := #[{ on := 4, ground := Ground.data }], guard := none }) (v := ?_) rfl (by kernel_rfl) (by kernel_rfl) (by kernel_rfl) (fun _ _ _ h => h) (Or.inl ⟨by rfl, ?_⟩) (by assumption) ?_
            rotate_left
            · (intro w hSw; (try dsimp only at hSw); go_simp; try with_reducible rfl)
            ((try simp only [Act.put]); (try simp only [List.setIfInBounds_toArray]); (try simp only [List.set_cons_succ]); (try simp only [List.set_cons_zero]))
            refine wpAnyH_take (i := 6) (oi := { dst := some 66, op := Op.move (Operand.tmp 8), type := 24, pos := "more.go:23", after := #[], guard := none }) (v := ?_) rfl (by kernel_rfl) (by kernel_rfl) (by kernel_rfl) (fun _ _ _ h => h) (Or.inl ⟨by rfl, ?_⟩) (by assumption) ?_
            rotate_left
            · (intro w hSw; (try dsimp only at hSw); go_simp; try with_reducible rfl)
            ((try simp only [Act.put]); (try simp only [List.setIfInBounds_toArray]); (try simp only [List.set_cons_succ]); (try simp only [List.set_cons_zero]))
            refine wpAnyH_take (i := 7) (oi := { dst := some 67, op := Op.binOp BinOp.and 24 (Operand.tmp 65) (Operand.tmp 66) 24, type := 24, pos := "more.go:23", after := #[{ on := 5, ground := Ground.data }, { on := 6, ground := Ground.data }], guard := none }) (v := ?_) rfl (by kernel_rfl) (by kernel_rfl) (by kernel_rfl) (fun _ _ _ h => h) (Or.inl ⟨by rfl, ?_⟩) (by assumption) ?_
            rotate_left
            · (intro w hSw; (try dsimp only at hSw); go_simp; try with_reducible rfl)
            ((try simp only [Act.put]); (try simp only [List.setIfInBounds_toArray]); (try simp only [List.set_cons_succ]); (try simp only [List.set_cons_zero]))
            refine wpAnyH_take (i := 8) (oi := { dst := some 68, op := Op.binOp BinOp.neq 24 (Operand.tmp 67) (Operand.const (Value.int IntKind.u64 0)) 24, type := 4, pos := "more.go:23", after := #[{ on := 7, ground := Ground.data }], guard := none }) (v := ?_) rfl (by kernel_rfl) (by kernel_rfl) (by kernel_rfl) (fun _ _ _ h => h) (Or.inl ⟨by rfl, ?_⟩) (by assumption) ?_
            rotate_left
            · (intro w hSw; (try dsimp only at hSw); go_simp; try with_reducible rfl)
            ((try simp only [Act.put]); (try simp only [List.setIfInBounds_toArray]); (try simp only [List.set_cons_succ]); (try simp only [List.set_cons_zero]))
            refine wpAnyH_take (i := 9) (oi := { dst := some 69, op := Op.move (Operand.tmp 68), type := 4, pos := "more.go:23", after := #[{ on := 8, ground := Ground.data }], guard := none }) (v := ?_) rfl (by kernel_rfl) (by kernel_rfl) (by kernel_rfl) (fun _ _ _ h => h) (Or.inl ⟨by rfl, ?_⟩) (by assumption) ?_
            rotate_left
            · (intro w hSw; (try dsimp only at hSw); go_simp; try with_reducible rfl)
            ((try simp only [Act.put]); (try simp only [List.setIfInBounds_toArray]); (try simp only [List.set_cons_succ]); (try simp only [List.set_cons_zero]))
            refine wpAnyH_take (i := 10) (oi := { dst := some 70, op := Op.fieldAddr 29 (Operand.tmp 10) 0, type := 0, pos := "more.go:23", after := #[{ on := 9, ground := Ground.guard }], guard := some (9, false) }) (v := ?_) rfl (by kernel_rfl) (by kernel_rfl) (by kernel_rfl) (fun _ _ _ h => h) (Or.inl ⟨by rfl, ?_⟩) (by assumption) ?_
            rotate_left
            · (intro w hSw; (try dsimp only at hSw); go_simp; try with_reducible rfl)
            ((try simp only [Act.put]); (try simp only [List.setIfInBounds_toArray]); (try simp only [List.set_cons_succ]); (try simp only [List.set_cons_zero]))
            refine wpAnyH_take (i := 11) (oi := { dst := some 71, op := Op.load 27 (Operand.tmp 70), type := 27, pos := "more.go:23", after := #[{ on := 10, ground := Ground.data }, { on := 9, ground := Ground.guard }], guard := some (9, false) }) (v := ?_) rfl (by kernel_rfl) (by kernel_rfl) (by kernel_rfl) (fun _ _ _ h => h) (Or.inl ⟨by rfl, ?_⟩) (by assumption) ?_
            rotate_left
            · (intro w hSw; (try dsimp only at hSw); go_simp; try with_reducible rfl)
            ((try simp only [Act.put]); (try simp only [List.setIfInBounds_toArray]); (try simp only [List.set_cons_succ]); (try simp only [List.set_cons_zero]))
            refine wpAnyH_take (i := 12) (oi := { dst := some 72, op := Op.move (Operand.tmp 11), type := 3, pos := "more.go:23", after := #[{ on := 9, ground := Ground.guard }], guard := some (9, false) }) (v := ?_) rfl (by kernel_rfl) (by kernel_rfl) (by kernel_rfl) (fun _ _ _ h => h) (Or.inl ⟨by rfl, ?_⟩) (by assumption) ?_
            rotate_left
            · (intro w hSw; (try dsimp only at hSw); go_simp; try with_reducible rfl)
            ((try simp only [Act.put]); (try simp only [List.setIfInBounds_toArray]); (try simp only [List.set_cons_succ]); (try simp only [List.set_cons_zero]))
            refine wpAnyH_take (i := 13) (oi := { dst := some 73, op := Op.indexAddr 27 (Operand.tmp 71) (Operand.tmp 72), type := 0, pos := "more.go:23", after := #[{ on := 11, ground := Ground.data }, { on := 12, ground := Ground.data }, { on := 9, ground := Ground.guard }], guard := some (9, false) }) (v := ?_) rfl (by kernel_rfl) (by kernel_rfl) (by kernel_rfl) (fun _ _ _ h => h) (Or.inl ⟨by rfl, ?_⟩) (by assumption) ?_
            rotate_left
            · (intro w hSw; (try dsimp only at hSw); go_simp; try with_reducible rfl)
            ((try simp only [Act.put]); (try simp only [List.setIfInBounds_toArray]); (try simp only [List.set_cons_succ]); (try simp only [List.set_cons_zero]))
            refine wpAnyH_take (i := 14) (oi := { dst := some 74, op := Op.fieldAddr 26 (Operand.tmp 73) 2, type := 0, pos := "more.go:23", after := #[{ on := 13, ground := Ground.data }, { on := 9, ground := Ground.guard }], guard := some (9, false) }) (v := ?_) rfl (by kernel_rfl) (by kernel_rfl) (by kernel_rfl) (fun _ _ _ h => h) (Or.inl ⟨by rfl, ?_⟩) (by assumption) ?_
            rotate_left
            · (intro w hSw; (try dsimp only at hSw); go_simp; try with_reducible rfl)
            ((try simp only [Act.put]); (try simp only [List.setIfInBounds_toArray]); (try simp only [List.set_cons_succ]); (try simp only [List.set_cons_zero]))
            refine wpAnyH_take (i := 15) (oi := { dst := some 75, op := Op.load 24 (Operand.tmp 74), type := 24, pos := "more.go:23", after := #[{ on := 14, ground := Ground.data }, { on := 9, ground := Ground.guard }], guard := some (9, false) }) (v := ?_) rfl (by kernel_rfl) (by kernel_rfl) (by kernel_rfl) (fun _ _ _ h => h) (Or.inl ⟨by rfl, ?_⟩) (by assumption) ?_
            rotate_left
            · (intro w hSw; (try dsimp only at hSw); go_simp; try with_reducible rfl)
            ((try simp only [Act.put]); (try simp only [List.setIfInBounds_toArray]); (try simp only [List.set_cons_succ]); (try simp only [List.set_cons_zero]))
            refine wpAnyH_take (i := 16) (oi := { dst := some 76, op := Op.move (Operand.tmp 8), type := 24, pos := "more.go:23", after := #[{ on := 9, ground := Ground.guard }], guard := some (9, false) }) (v := ?_) rfl (by kernel_rfl) (by kernel_rfl) (by kernel_rfl) (fun _ _ _ h => h) (Or.inl ⟨by rfl, ?_⟩) (by assumption) ?_
            rotate_left
            · (intro w hSw; (try dsimp only at hSw); go_simp; try with_reducible rfl)
            ((try simp only [Act.put]); (try simp only [List.setIfInBounds_toArray]); (try simp only [List.set_cons_succ]); (try simp only [List.set_cons_zero]))
            refine wpAnyH_take (i := 17) (oi := { dst := some 77, op := Op.binOp BinOp.and 24 (Operand.tmp 75) (Operand.tmp 76) 24, type := 24, pos := "more.go:23", after := #[{ on := 15, ground := Ground.data }, { on := 16, ground := Ground.data }, { on := 9, ground := Ground.guard }], guard := some (9, false) }) (v := ?_) rfl (by kernel_rfl) (by kernel_rfl) (by kernel_rfl) (fun _ _ _ h => h) (Or.inl ⟨by rfl, ?_⟩) (by assumption) ?_
            rotate_left
            · (intro w hSw; (try dsimp only at hSw); go_simp; try with_reducible rfl)
            ((try simp only [Act.put]); (try simp only [List.setIfInBounds_toArray]); (try simp only [List.set_cons_succ]); (try simp only [List.set_cons_zero]))
            refine wpAnyH_take (i := 18) (oi := { dst := some 78, op := Op.move (Operand.tmp 2), type := 3, pos := "more.go:23", after := #[{ on := 9, ground := Ground.guard }], guard := some (9, false) }) (v := ?_) rfl (by kernel_rfl) (by kernel_rfl) (by kernel_rfl) (fun _ _ _ h => h) (Or.inl ⟨by rfl, ?_⟩) (by assumption) ?_
            rotate_left
            · (intro w hSw; (try dsimp only at hSw); go_simp; try with_reducible rfl)
            ((try simp only [Act.put]); (try simp only [List.setIfInBounds_toArray]); (try simp only [List.set_cons_succ]); (try simp only [List.set_cons_zero]))
            refine wpAnyH_ready (rs := [19]) (by kernel_rfl) (by simp) ?_
            refine AllReadyH.cons (o := { dst := some 79, op := Op.buildSlice 89 1 #[(0, Operand.tmp 78)], type := 89, pos := "more.go:23", after := #[{ on := 18, ground := Ground.data }, { on := 9, ground := Ground.guard }], guard := some (9, false) }) rfl (fun K hK => ?_) AllReadyH.nil
            go_simp
            obtain ⟨w2, hw⟩ : ∃ w, w = w_.alloc (.cells #[.int .i64 d] 3) := ⟨_, rfl⟩
            have hb : Below w_.heap.size w_ w2 := by rw [hw]; exact boxb _ _
            have OF := of_one d w_ HD.out
            rw [← hw] at OF ⊢
            rw [hbd.out] at OF
            have OO := Lib.hid OF
            clear OF hw
            try go_wp2_with fail
            refine hK.out _ _ ?_ (fun hNew => ?_)
            · first | exact hHeld | exact ⟨cell_go hHeld.1 hb, cell_go hHeld.2.1 hb, cell_go hHeld.2.2.1 hb, cell_go hHeld.2.2.2.1 hb, cell_go hHeld.2.2.2.2.1 hb, Lib.hid ((Hid.out hHeld.2.2.2.2.2).trans (hb.mono (Hid.out hHeld.2.2.2.2.2).size))⟩
            clear hK K
            replace hHeld := hNew
            clear hNew
            ((try simp only [Act.put]); (try simp only [List.setIfInBounds_toArray]); (try simp only [List.set_cons_succ]); (try simp only [List.set_cons_zero]))
            refine wpAnyH_ready (rs := [20]) (by kernel_rfl) (by simp) ?_
            refine AllReadyH.cons (o := { dst := some 80, op := Op.call { callee := Callee.value (Operand.func 28), args := #[Operand.tmp 79], argTypes := #[89] }, type := 24, pos := "more.go:23", after := #[{ on := 19, ground := Ground.data }, { on := 9, ground := Ground.chain }, { on := 9, ground := Ground.guard }], guard := some (9, false) }) rfl (fun K hK => ?_) AllReadyH.nil
            go_simp
            refine OO.out.mono ?_
            rintro e1 w ⟨rfl, rfl⟩
            try go_wp2_with fail
            refine hK.out _ _ ?_ (fun hNew => ?_)
            · first | exact hHeld | exact ⟨cell_go hHeld.1 hb, cell_go hHeld.2.1 hb, cell_go hHeld.2.2.1 hb, cell_go hHeld.2.2.2.1 hb, cell_go hHeld.2.2.2.2.1 hb, Lib.hid ((Hid.out hHeld.2.2.2.2.2).trans (hb.mono (Hid.out hHeld.2.2.2.2.2).size))⟩
            clear hK K
            replace hHeld := hNew
            clear hNew
            ((try simp only [Act.put]); (try simp only [List.setIfInBounds_toArray]); (try simp only [List.set_cons_succ]); (try simp only [List.set_cons_zero]))
            refine wpAnyH_take (i := 21) (oi := { dst := some 81, op := Op.binOp BinOp.andNot 24 (Operand.tmp 77) (Operand.tmp 80) 24, type := 24, pos := "more.go:23", after := #[{ on := 17, ground := Ground.data }, { on := 20, ground := Ground.data }, { on := 9, ground := Ground.guard }], guard := some (9, false) }) (v := ?_) rfl (by kernel_rfl) (by kernel_rfl) (by kernel_rfl) (fun _ _ _ h => h) (Or.inl ⟨by rfl, ?_⟩) (by assumption) ?_
            rotate_left
            · (intro w hSw; (try dsimp only at hSw); go_simp; try with_reducible rfl)
            ((try simp only [Act.put]); (try simp only [List.setIfInBounds_toArray]); (try simp only [List.set_cons_succ]); (try simp only [List.set_cons_zero]))
            refine wpAnyH_take (i := 22) (oi := { dst := some 82, op := Op.binOp BinOp.neq 24 (Operand.tmp 81) (Operand.const (Value.int IntKind.u64 0)) 24, type := 4, pos := "more.go:23", after := #[{ on := 21, ground := Ground.data }, { on := 9, ground := Ground.guard }], guard := some (9, false) }) (v := ?_) rfl (by kernel_rfl) (by kernel_rfl) (by kernel_rfl) (fun _ _ _ h => h) (Or.inl ⟨by rfl, ?_⟩) (by assumption) ?_
            rotate_left
            · (intro w hSw; (try dsimp only at hSw); go_simp; try with_reducible rfl)
            ((try simp only [Act.put]); (try simp only [List.setIfInBounds_toArray]); (try simp only [List.set_cons_succ]); (try simp only [List.set_cons_zero]))
            refine wpAnyH_take (i := 23) (oi := { dst := some 83, op := Op.pick (Operand.tmp 69) (Operand.const (Value.bool true)) (Operand.tmp 82), type := 4, pos := "more.go:23", after := #[{ on := 9, ground := Ground.data }, { on := 22, ground := Ground.data }], guard := none }) (v := ?_) rfl (by kernel_rfl) (by kernel_rfl) (by kernel_rfl) (fun _ _ _ h => h) (Or.inl ⟨by rfl, ?_⟩) (by assumption) ?_
            rotate_left
            · (intro w hSw; (try dsimp only at hSw); go_simp; try with_reducible rfl)
            ((try simp only [Act.put]); (try simp only [List.setIfInBounds_toArray]); (try simp only [List.set_cons_succ]); (try simp only [List.set_cons_zero]))
            refine wpAnyH_take (i := 24) (oi := { dst := some 84, op := Op.move (Operand.tmp 83), type := 4, pos := "more.go:23", after := #[{ on := 23, ground := Ground.data }, { on := 20, ground := Ground.chain }], guard := none }) (v := ?_) rfl (by kernel_rfl) (by kernel_rfl) (by kernel_rfl) (fun _ _ _ h => h) (Or.inl ⟨by rfl, ?_⟩) (by assumption) ?_
            rotate_left
            · (intro w hSw; (try dsimp only at hSw); go_simp; try with_reducible rfl)
            ((try simp only [Act.put]); (try simp only [List.setIfInBounds_toArray]); (try simp only [List.set_cons_succ]); (try simp only [List.set_cons_zero]))
            refine wpAnyH_take (i := 25) (oi := { dst := some 85, op := Op.fieldAddr 29 (Operand.tmp 10) 0, type := 0, pos := "more.go:23", after := #[{ on := 24, ground := Ground.guard }], guard := some (24, false) }) (v := ?_) rfl (by kernel_rfl) (by kernel_rfl) (by kernel_rfl) (fun _ _ _ h => h) (Or.inl ⟨by rfl, ?_⟩) (by assumption) ?_
            rotate_left
            · (intro w hSw; (try dsimp only at hSw); go_simp; try with_reducible rfl)
            ((try simp only [Act.put]); (try simp only [List.setIfInBounds_toArray]); (try simp only [List.set_cons_succ]); (try simp only [List.set_cons_zero]))
            refine wpAnyH_take (i := 26) (oi := { dst := some 86, op := Op.load 27 (Operand.tmp 85), type := 27, pos := "more.go:23", after := #[{ on := 25, ground := Ground.data }, { on := 24, ground := Ground.guard }], guard := some (24, false) }) (v := ?_) rfl (by kernel_rfl) (by kernel_rfl) (by kernel_rfl) (fun _ _ _ h => h) (Or.inl ⟨by rfl, ?_⟩) (by assumption) ?_
            rotate_left
            · (intro w hSw; (try dsimp only at hSw); go_simp; try with_reducible rfl)
            ((try simp only [Act.put]); (try simp only [List.setIfInBounds_toArray]); (try simp only [List.set_cons_succ]); (try simp only [List.set_cons_zero]))
            refine wpAnyH_take (i := 27) (oi := { dst := some 87, op := Op.move (Operand.tmp 11), type := 3, pos := "more.go:23", after := #[{ on := 24, ground := Ground.guard }], guard := some (24, false) }) (v := ?_) rfl (by kernel_rfl) (by kernel_rfl) (by kernel_rfl) (fun _ _ _ h => h) (Or.inl ⟨by rfl, ?_⟩) (by assumption) ?_
            rotate_left
            · (intro w hSw; (try dsimp only at hSw); go_simp; try with_reducible rfl)
            ((try simp only [Act.put]); (try simp only [List.setIfInBounds_toArray]); (try simp only [List.set_cons_succ]); (try simp only [List.set_cons_zero]))
            refine wpAnyH_take (i := 28) (oi := { dst := some 88, op := Op.indexAddr 27 (Operand.tmp 86) (Operand.tmp 87), type := 0, pos := "more.go:23", after := #[{ on := 26, ground := Ground.data }, { on := 27, ground := Ground.data }, { on := 24, ground := Ground.guard }], guard := some (24, false) }) (v := ?_) rfl (by kernel_rfl) (by kernel_rfl) (by kernel_rfl) (fun _ _ _ h => h) (Or.inl ⟨by rfl, ?_⟩) (by assumption) ?_
            rotate_left
            · (intro w hSw; (try dsimp only at hSw); go_simp; try with_reducible rfl)
            ((try simp only [Act.put]); (try simp only [List.setIfInBounds_toArray]); (try simp only [List.set_cons_succ]); (try simp only [List.set_cons_zero]))
            refine wpAnyH_take (i := 29) (oi := { dst := some 89, op := Op.fieldAddr 26 (Operand.tmp 88) 2, type := 0, pos := "more.go:23", after := #[{ on := 28, ground := Ground.data }, { on := 24, ground := Ground.guard }], guard := some (24, false) }) (v := ?_) rfl (by kernel_rfl) (by kernel_rfl) (by kernel_rfl) (fun _ _ _ h => h) (Or.inl ⟨by rfl, ?_⟩) (by assumption) ?_
            rotate_left
            · (intro w hSw; (try dsimp only at hSw); go_simp; try with_reducible rfl)
            ((try simp only [Act.put]); (try simp only [List.setIfInBounds_toArray]); (try simp only [List.set_cons_succ]); (try simp only [List.set_cons_zero]))
            refine wpAnyH_take (i := 30) (oi := { dst := some 90, op := Op.load 24 (Operand.tmp 89), type := 24, pos := "more.go:23", after := #[{ on := 29, ground := Ground.data }, { on := 24, ground := Ground.guard }], guard := some (24, false) }) (v := ?_) rfl (by kernel_rfl) (by kernel_rfl) (by kernel_rfl) (fun _ _ _ h => h) (Or.inl ⟨by rfl, ?_⟩) (by assumption) ?_
            rotate_left
            · (intro w hSw; (try dsimp only at hSw); go_simp; try with_reducible rfl)
            ((try simp only [Act.put]); (try simp only [List.setIfInBounds_toArray]); (try simp only [List.set_cons_succ]); (try simp only [List.set_cons_zero]))
            refine wpAnyH_take (i := 31) (oi := { dst := some 91, op := Op.move (Operand.tmp 2), type := 3, pos := "more.go:23", after := #[{ on := 24, ground := Ground.guard }], guard := some (24, false) }) (v := ?_) rfl (by kernel_rfl) (by kernel_rfl) (by kernel_rfl) (fun _ _ _ h => h) (Or.inl ⟨by rfl, ?_⟩) (by assumption) ?_
            rotate_left
            · (intro w hSw; (try dsimp only at hSw); go_simp; try with_reducible rfl)
            ((try simp only [Act.put]); (try simp only [List.setIfInBounds_toArray]); (try simp only [List.set_cons_succ]); (try simp only [List.set_cons_zero]))
            refine wpAnyH_take (i := 33) (oi := { dst := some 93, op := Op.move (Operand.tmp 0), type := 27, pos := "more.go:23", after := #[{ on := 24, ground := Ground.guard }], guard := some (24, false) }) (v := ?_) rfl (by kernel_rfl) (by kernel_rfl) (by kernel_rfl) (fun _ _ _ h => h) (Or.inl ⟨by rfl, ?_⟩) (by assumption) ?_
            rotate_left
            · (intro w hSw; (try dsimp only at hSw); go_simp; try with_reducible rfl)
            ((try simp only [Act.put]); (try simp only [List.setIfInBounds_toArray]); (try simp only [List.set_cons_succ]); (try simp only [List.set_cons_zero]))
            refine wpAnyH_take (i := 34) (oi := { dst := some 94, op := Op.move (Operand.tmp 11), type := 3, pos := "more.go:23", after := #[{ on := 24, ground := Ground.guard }], guard := some (24, false) }) (v := ?_) rfl (by kernel_rfl) (by kernel_rfl) (by kernel_rfl) (fun _ _ _ h => h) (Or.inl ⟨by rfl, ?_⟩) (by assumption) ?_
            rotate_left
            · (intro w hSw; (try dsimp only at hSw); go_simp; try with_reducible rfl)
            ((try simp only [Act.put]); (try simp only [List.setIfInBounds_toArray]); (try simp only [List.set_cons_succ]); (try simp only [List.set_cons_zero]))
            refine wpAnyH_take (i := 35) (oi := { dst := some 95, op := Op.indexAddr 27 (Operand.tmp 93) (Operand.tmp 94), type := 0, pos := "more.go:23", after := #[{ on := 33, ground := Ground.data }, { on := 34, ground := Ground.data }, { on := 24, ground := Ground.guard }], guard := some (24, false) }) (v := ?_) rfl (by kernel_rfl) (by kernel_rfl) (by kernel_rfl) (fun _ _ _ h => h) (Or.inl ⟨by rfl, ?_⟩) (by assumption) ?_
            rotate_left
            · (intro w hSw; (try dsimp only at hSw); go_simp; try with_reducible rfl)
            ((try simp only [Act.put]); (try simp only [List.setIfInBounds_toArray]); (try simp only [List.set_cons_succ]); (try simp only [List.set_cons_zero]))
            refine wpAnyH_take (i := 36) (oi := { dst := some 96, op := Op.fieldAddr 26 (Operand.tmp 95) 2, type := 0, pos := "more.go:23", after := #[{ on := 35, ground := Ground.data }, { on := 24, ground := Ground.guard }], guard := some (24, false) }) (v := ?_) rfl (by kernel_rfl) (by kernel_rfl) (by kernel_rfl) (fun _ _ _ h => h) (Or.inl ⟨by rfl, ?_⟩) (by assumption) ?_
            rotate_left
            · (intro w hSw; (try dsimp only at hSw); go_simp; try with_reducible rfl)
            ((try simp only [Act.put]); (try simp only [List.setIfInBounds_toArray]); (try simp only [List.set_cons_succ]); (try simp only [List.set_cons_zero]))
            refine wpAnyH_take (i := 37) (oi := { dst := some 97, op := Op.load 24 (Operand.tmp 96), type := 24, pos := "more.go:23", after := #[{ on := 36, ground := Ground.data }, { on := 24, ground := Ground.guard }], guard := some (24, false) }) (v := ?_) rfl (by kernel_rfl) (by kernel_rfl) (by kernel_rfl) (fun _ _ _ h => h) (Or.inl ⟨by rfl, ?_⟩) (by assumption) ?_
            rotate_left
            · (intro w hSw; (try dsimp only at hSw); go_simp; try with_reducible rfl)
            ((try simp only [Act.put]); (try simp only [List.setIfInBounds_toArray]); (try simp only [List.set_cons_succ]); (try simp only [List.set_cons_zero]))
            refine wpAnyH_take (i := 38) (oi := { dst := some 98, op := Op.move (Operand.tmp 2), type := 3, pos := "more.go:23", after := #[{ on := 24, ground := Ground.guard }], guard := some (24, false) }) (v := ?_) rfl (by kernel_rfl) (by kernel_rfl) (by kernel_rfl) (fun _ _ _ h => h) (Or.inl ⟨by rfl, ?_⟩) (by assumption) ?_
            rotate_left
            · (intro w hSw; (try dsimp only at hSw); go_simp; try with_reducible rfl)
            ((try simp only [Act.put]); (try simp only [List.setIfInBounds_toArray]); (try simp only [List.set_cons_succ]); (try simp only [List.set_cons_zero]))
            refine wpAnyH_ready (rs := [32]) (by kernel_rfl) (by simp) ?_
            refine AllReadyH.cons (o := { dst := some 92, op := Op.call { callee := Callee.value (Operand.func 29), args := #[Operand.tmp 90, Operand.tmp 91], argTypes := #[24, 3] }, type := 4, pos := "more.go:23", after := #[{ on := 30, ground := Ground.data }, { on := 31, ground := Ground.data }, { on := 24, ground := Ground.chain }, { on := 24, ground := Ground.guard }], guard := some (24, false) }) rfl (fun K hK => ?_) AllReadyH.nil
            go_simp
            refine (HA1.out _).mono ?_
            rintro e1 w ⟨rfl, hb⟩
            try go_wp2_with fail
            refine hK.out _ _ ?_ (fun hNew => ?_)
            · first | exact hHeld | exact ⟨cell_go hHeld.1 hb, cell_go hHeld.2.1 hb, cell_go hHeld.2.2.1 hb, cell_go hHeld.2.2.2.1 hb, cell_go hHeld.2.2.2.2.1 hb, Lib.hid ((Hid.out hHeld.2.2.2.2.2).trans (hb.mono (Hid.out hHeld.2.2.2.2.2).size))⟩
            clear hK K
            replace hHeld := hNew
            clear hNew
            ((try simp only [Act.put]); (try simp only [List.setIfInBounds_toArray]); (try simp only [List.set_cons_succ]); (try simp only [List.set_cons_zero]))
            refine wpAnyH_ready (rs := [39]) (by kernel_rfl) (by simp) ?_
            refine AllReadyH.cons (o := { dst := some 99, op := Op.call { callee := Callee.value (Operand.func 29), args := #[Operand.tmp 97, Operand.tmp 98], argTypes := #[24, 3] }, type := 4, pos := "more.go:23", after := #[{ on := 37, ground := Ground.data }, { on := 38, ground := Ground.data }, { on := 32, ground := Ground.chain }, { on := 24, ground := Ground.guard }], guard := some (24, false) }) rfl (fun K hK => ?_) AllReadyH.nil
            go_simp
            refine (HA2.out _).mono ?_
            rintro e1 w ⟨rfl, hb⟩
            try go_wp2_with fail
            refine hK.out _ _ ?_ (fun hNew => ?_)
            · first | exact hHeld | exact ⟨cell_go hHeld.1 hb, cell_go hHeld.2.1 hb, cell_go hHeld.2.2.1 hb, cell_go hHeld.2.2.2.1 hb, cell_go hHeld.2.2.2.2.1 hb, Lib.hid ((Hid.out hHeld.2.2.2.2.2).trans (hb.mono (Hid.out hHeld.2.2.2.2.2).size))⟩
            clear hK K
            replace hHeld := hNew
            clear hNew
            ((try simp only [Act.put]); (try simp only [List.setIfInBounds_toArray]); (try simp only [List.set_cons_succ]); (try simp only [List.set_cons_zero]))
            refine wpAnyH_take (i := 40) (oi := { dst := some 100, op := Op.binOp BinOp.neq 4 (Operand.tmp 92) (Operand.tmp 99) 4, type := 4, pos := "more.go:23", after := #[{ on := 32, ground := Ground.data }, { on := 39, ground := Ground.data }, { on := 24, ground := Ground.guard }], guard := some (24, false) }) (v := ?_) rfl (by kernel_rfl) (by kernel_rfl) (by kernel_rfl) (fun _ _ _ h => h) (Or.inl ⟨by rfl, ?_⟩) (by assumption) ?_
            rotate_left
            · (intro w hSw; (try dsimp only at hSw); go_simp; try with_reducible rfl)
            ((try simp only [Act.put]); (try simp only [List.setIfInBounds_toArray]); (try simp only [List.set_cons_succ]); (try simp only [List.set_cons_zero]))
            refine wpAnyH_take (i := 41) (oi := { dst := some 101, op := Op.pick (Operand.tmp 84) (Operand.const (Value.bool true)) (Operand.tmp 100), type := 4, pos := "more.go:23", after := #[{ on := 24, ground := Ground.data }, { on := 40, ground := Ground.data }], guard := none }) (v := ?_) rfl (by kernel_rfl) (by kernel_rfl) (by kernel_rfl) (fun _ _ _ h => h) (Or.inl ⟨by rfl, ?_⟩) (by assumption) ?_
            rotate_left
            · (intro w hSw; (try dsimp only at hSw); go_simp; try with_reducible rfl)
            ((try simp only [Act.put]); (try simp only [List.setIfInBounds_toArray]); (try simp only [List.set_cons_succ]); (try simp only [List.set_cons_zero]))
            refine wpAnyH_take (i := 42) (oi := { dst := some 102, op := Op.move (Operand.tmp 101), type := 4, pos := "more.go:23", after := #[{ on := 41, ground := Ground.data }, { on := 39, ground := Ground.chain }], guard := none }) (v := ?_) rfl (by kernel_rfl) (by kernel_rfl) (by kernel_rfl) (fun _ _ _ h => h) (Or.inl ⟨by rfl, ?_⟩) (by assumption) ?_
            rotate_left
            · (intro w hSw; (try dsimp only at hSw); go_simp; try with_reducible rfl)
            ((try simp only [Act.put]); (try simp only [List.setIfInBounds_toArray]); (try simp only [List.set_cons_succ]); (try simp only [List.set_cons_zero]))
            refine wpAnyH_take (i := 43) (oi := { dst := some 103, op := Op.fieldAddr 29 (Operand.tmp 9) 0, type := 0, pos := "more.go:23", after := #[{ on := 42, ground := Ground.guard }], guard := some (42, false) }) (v := ?_) rfl (by kernel_rfl) (by kernel_rfl) (by kernel_rfl) (fun _ _ _ h => h) (Or.inl ⟨by rfl, ?_⟩) (by assumption) ?_
            rotate_left
            · (intro w hSw; (try dsimp only at hSw); go_simp; try with_reducible rfl)
            ((try simp only [Act.put]); (try simp only [List.setIfInBounds_toArray]); (try simp only [List.set_cons_succ]); (try simp only [List.set_cons_zero]))
            refine wpAnyH_take (i := 44) (oi := { dst := some 104, op := Op.load 27 (Operand.tmp 103), type := 27, pos := "more.go:23", after := #[{ on := 43, ground := Ground.data }, { on := 42, ground := Ground.guard }], guard := some (42, false) }) (v := ?_) rfl (by kernel_rfl) (by kernel_rfl) (by kernel_rfl) (fun _ _ _ h => h) (Or.inl ⟨by rfl, ?_⟩) (by assumption) ?_
            rotate_left
            · (intro w hSw; (try dsimp only at hSw); go_simp; try with_reducible rfl)
            ((try simp only [Act.put]); (try simp only [List.setIfInBounds_toArray]); (try simp only [List.set_cons_succ]); (try simp only [List.set_cons_zero]))
            refine wpAnyH_take (i := 45) (oi := { dst := some 105, op := Op.move (Operand.tmp 11), type := 3, pos := "more.go:23", after := #[{ on := 42, ground := Ground.guard }], guard := some (42, false) }) (v := ?_) rfl (by kernel_rfl) (by kernel_rfl) (by kernel_rfl) (fun _ _ _ h => h) (Or.inl ⟨by rfl, ?_⟩) (by assumption) ?_
            rotate_left
            · (intro w hSw; (try dsimp only at hSw); go_simp; try with_reducible rfl)
            ((try simp only [Act.put]); (try simp only [List.setIfInBounds_toArray]); (try simp only [List.set_cons_succ]); (try simp only [List.set_cons_zero]))
            refine wpAnyH_take (i := 46) (oi := { dst := some 106, op := Op.indexAddr 27 (Operand.tmp 104) (Operand.tmp 105), type := 0, pos := "more.go:23", after := #[{ on := 44, ground := Ground.data }, { on := 45, ground := Ground.data }, { on := 42, ground := Ground.guard }], guard := some (42, false) }) (v := ?_) rfl (by kernel_rfl) (by kernel_rfl) (by kernel_rfl) (fun _ _ _ h => h) (Or.inl ⟨by rfl, ?_⟩) (by assumption) ?_
            rotate_left
            · (intro w hSw; (try dsimp only at hSw); go_simp; try with_reducible rfl)
            ((try simp only [Act.put]); (try simp only [List.setIfInBounds_toArray]); (try simp only [List.set_cons_succ]); (try simp only [List.set_cons_zero]))
            refine wpAnyH_take (i := 47) (oi := { dst := some 107, op := Op.fieldAddr 26 (Operand.tmp 106) 2, type := 0, pos := "more.go:23", after := #[{ on := 46, ground := Ground.data }, { on := 42, ground := Ground.guard }], guard := some (42, false) }) (v := ?_) rfl (by kernel_rfl) (by kernel_rfl) (by kernel_rfl) (fun _ _ _ h => h) (Or.inl ⟨by rfl, ?_⟩) (by assumption) ?_
            rotate_left
            · (intro w hSw; (try dsimp only at hSw); go_simp; try with_reducible rfl)
            ((try simp only [Act.put]); (try simp only [List.setIfInBounds_toArray]); (try simp only [List.set_cons_succ]); (try simp only [List.set_cons_zero]))
            refine wpAnyH_take (i := 48) (oi := { dst := some 108, op := Op.load 24 (Operand.tmp 107), type := 24, pos := "more.go:23", after := #[{ on := 47, ground := Ground.data }, { on := 42, ground := Ground.guard }], guard := some (42, false) }) (v := ?_) rfl (by kernel_rfl) (by kernel_rfl) (by kernel_rfl) (fun _ _ _ h => h) (Or.inl ⟨by rfl, ?_⟩) (by assumption) ?_
            rotate_left
            · (intro w hSw; (try dsimp only at hSw); go_simp; try with_reducible rfl)
            ((try simp only [Act.put]); (try simp only [List.setIfInBounds_toArray]); (try simp only [List.set_cons_succ]); (try simp only [List.set_cons_zero]))
            refine wpAnyH_take (i := 49) (oi := { dst := some 109, op := Op.move (Operand.tmp 0), type := 27, pos := "more.go:23", after := #[{ on := 42, ground := Ground.guard }], guard := some (42, false) }) (v := ?_) rfl (by kernel_rfl) (by kernel_rfl) (by kernel_rfl) (fun _ _ _ h => h) (Or.inl ⟨by rfl, ?_⟩) (by assumption) ?_
            rotate_left
            · (intro w hSw; (try dsimp only at hSw); go_simp; try with_reducible rfl)
            ((try simp only [Act.put]); (try simp only [List.setIfInBounds_toArray]); (try simp only [List.set_cons_succ]); (try simp only [List.set_cons_zero]))
            refine wpAnyH_take (i := 50) (oi := { dst := some 110, op := Op.move (Operand.tmp 11), type := 3, pos := "more.go:23", after := #[{ on := 42, ground := Ground.guard }], guard := some (42, false) }) (v := ?_) rfl (by kernel_rfl) (by kernel_rfl) (by kernel_rfl) (fun _ _ _ h => h) (Or.inl ⟨by rfl, ?_⟩) (by assumption) ?_
            rotate_left
            · (intro w hSw; (try dsimp only at hSw); go_simp; try with_reducible rfl)
            ((try simp only [Act.put]); (try simp only [List.setIfInBounds_toArray]); (try simp only [List.set_cons_succ]); (try simp only [List.set_cons_zero]))
            refine wpAnyH_take (i := 51) (oi := { dst := some 111, op := Op.indexAddr 27 (Operand.tmp 109) (Operand.tmp 110), type := 0, pos := "more.go:23", after := #[{ on := 49, ground := Ground.data }, { on := 50, ground := Ground.data }, { on := 42, ground := Ground.guard }], guard := some (42, false) }) (v := ?_) rfl (by kernel_rfl) (by kernel_rfl) (by kernel_rfl) (fun _ _ _ h => h) (Or.inl ⟨by rfl, ?_⟩) (by assumption) ?_
            rotate_left
            · (intro w hSw; (try dsimp only at hSw); go_simp; try with_reducible rfl)
            ((try simp only [Act.put]); (try simp only [List.setIfInBounds_toArray]); (try simp only [List.set_cons_succ]); (try simp only [List.set_cons_zero]))
            refine wpAnyH_take (i := 52) (oi := { dst := some 112, op := Op.fieldAddr 26 (Operand.tmp 111) 2, type := 0, pos := "more.go:23", after := #[{ on := 51, ground := Ground.data }, { on := 42, ground := Ground.guard }], guard := some (42, false) }) (v := ?_) rfl (by kernel_rfl) (by kernel_rfl) (by kernel_rfl) (fun _ _ _ h => h) (Or.inl ⟨by rfl, ?_⟩) (by assumption) ?_
            rotate_left
            · (intro w hSw; (try dsimp only at hSw); go_simp; try with_reducible rfl)
            ((try simp only [Act.put]); (try simp only [List.setIfInBounds_toArray]); (try simp only [List.set_cons_succ]); (try simp only [List.set_cons_zero]))
            refine wpAnyH_take (i := 53) (oi := { dst := some 113, op := Op.load 24 (Operand.tmp 112), type := 24, pos := "more.go:23", after := #[{ on := 52, ground := Ground.data }, { on := 42, ground := Ground.guard }], guard := some (42, false) }) (v := ?_) rfl (by kernel_rfl) (by kernel_rfl) (by kernel_rfl) (fun _ _ _ h => h) (Or.inl ⟨by rfl, ?_⟩) (by assumption) ?_
            rotate_left
            · (intro w hSw; (try dsimp only at hSw); go_simp; try with_reducible rfl)
            ((try simp only [Act.put]); (try simp only [List.setIfInBounds_toArray]); (try simp only [List.set_cons_succ]); (try simp only [List.set_cons_zero]))
            refine wpAnyH_ready (rs := [54]) (by kernel_rfl) (by simp) ?_
            refine AllReadyH.cons (o := { dst := some 114, op := Op.call { callee := Callee.value (Operand.func 30), args := #[Operand.tmp 108, Operand.tmp 113], argTypes := #[24, 24] }, type := 4, pos := "more.go:23", after := #[{ on := 48, ground := Ground.data }, { on := 53, ground := Ground.data }, { on := 42, ground := Ground.chain }, { on := 42, ground := Ground.guard }], guard := some (42, false) }) rfl (fun K hK => ?_) AllReadyH.nil
            go_simp
            refine (WI.out _).mono ?_
            rintro e1 w ⟨rfl, rfl⟩
            try go_wp2_with fail
            refine hK.out _ _ ?_ (fun hNew => ?_)
            · first | exact hHeld | exact ⟨cell_go hHeld.1 hb, cell_go hHeld.2.1 hb, cell_go hHeld.2.2.1 hb, cell_go hHeld.2.2.2.1 hb, cell_go hHeld.2.2.2.2.1 hb, Lib.hid ((Hid.out hHeld.2.2.2.2.2).trans (hb.mono (Hid.out hHeld.2.2.2.2.2).size))⟩
            clear hK K
            replace hHeld := hNew
            clear hNew
            ((try simp only [Act.put]); (try simp only [List.setIfInBounds_toArray]); (try simp only [List.set_cons_succ]); (try simp only [List.set_cons_zero]))
            refine wpAnyH_take (i := 55) (oi := { dst := some 115, op := Op.unOp UnOp.not 4 (Operand.tmp 114), type := 4, pos := "more.go:23", after := #[{ on := 54, ground := Ground.data }, { on := 42, ground := Ground.guard }], guard := some (42, false) }) (v := ?_) rfl (by kernel_rfl) (by kernel_rfl) (by kernel_rfl) (fun _ _ _ h => h) (Or.inl ⟨by rfl, ?_⟩) (by assumption) ?_
            rotate_left
            · (intro w hSw; (try dsimp only at hSw); go_simp; try with_reducible rfl)
            ((try simp only [Act.put]); (try simp only [List.setIfInBounds_toArray]); (try simp only [List.set_cons_succ]); (try simp only [List.set_cons_zero]))
            refine wpAnyH_take (i := 56) (oi := { dst := some 116, op := Op.pick (Operand.tmp 102) (Operand.const (Value.bool true)) (Operand.tmp 115), type := 4, pos := "more.go:23", after := #[{ on := 42, ground := Ground.data }, { on := 55, ground := Ground.data }], guard := none }) (v := ?_) rfl (by kernel_rfl) (by kernel_rfl) (by kernel_rfl) (fun _ _ _ h => h) (Or.inl ⟨by rfl, ?_⟩) (by assumption) ?_
            rotate_left
            · (intro w hSw; (try dsimp only at hSw); go_simp; try with_reducible rfl)
            ((try simp only [Act.put]); (try simp only [List.setIfInBounds_toArray]); (try simp only [List.set_cons_succ]); (try simp only [List.set_cons_zero]))
            refine wpAnyH_done (by kernel_rfl) ?_ _
            refine NoPanic.normal ?_
            have BF := Lib.hid (Hid.out hHeld.2.2.2.2.2)
            clear hHeld
            go_wp2_with fail
            go_roundw
            case rel => exact ⟨k + 1, by omega, by go_num, Lib.hid (BR.out.trans (BF.out.mono BR.out.size))⟩
            case measure => simp only [intOf]; omega
          · obtain rfl : k = n := by omega
            have dk : decide ((k : Int) < (k : Int)) = false := decide_eq_false (by omega)
            go_wp2_with fail
            go_ret
            have b1 := B.out.trans (BR.out.mono B.out.size)
            exact ⟨rfl, bV.out.trans (b1.mono bV.out.size)⟩

end Go.Proofs.Ytbmpeadoicjpnaa
