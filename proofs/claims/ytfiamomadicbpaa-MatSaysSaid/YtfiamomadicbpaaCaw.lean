/-
  What chapter 16 tells of one more.
-/
import Derived.Test.YtfiamomadicbpaaCsg
import Derived.Deep.Cut
import Derived.Deep.CutBlock
import Derived.Deep.CutRange
import Derived.Deep.RegionHeld3
namespace Go.Proofs.Ytfiamomadicbpaa
open Go.RowKit

/-- A square written out in the text: rows made ahead of it. -/
theorem sq_lit {w : World} {L : List Rd} {cs : Array Value} {t : TypeId} {n : Nat} {m : List (List Nat)} (hcs : cs = (L.map rdV).toArray) (hn : L.length = n) (hm : mOf L = m) (hmx : n ≤ maxLen) (he : ∀ r ∈ L, SlAt qV QM w r.a r.c r.l) : SqAt (fun _ => True) (w.alloc (.cells cs t)) (some ⟨w.heap.size, 0, none⟩) n n m := by
  subst hcs hn hm
  refine SqAt.of ⟨?_, fun r hr => (he r hr).below (below_alloc (Below.refl _ _) _)⟩ rfl
  exact slv_lit w (L.map rdV) _ t L.length rfl (by simp) hmx

def lit22 (w : World) (a b c d : Nat) : World := ((w.alloc (.cells #[.int .u64 (a : Int), .int .u64 (b : Int)] 30)).alloc (.cells #[.int .u64 (c : Int), .int .u64 (d : Int)] 30)).alloc (.cells #[.slice (some ⟨w.heap.size, 0, none⟩) 2 2, .slice (some ⟨w.heap.size + 1, 0, none⟩) 2 2] 37)
theorem lit22_below (w : World) (a b c d : Nat) : Below w.heap.size w (lit22 w a b c d) := below_alloc (below_alloc (below_alloc (Below.refl _ _) _) _) _
theorem lit22_sq (w : World) {a b c d : Nat} (ha : a < 1000) (hb : b < 1000) (hc : c < 1000) (hd : d < 1000) : SqAt (fun _ => True) (lit22 w a b c d) (some ⟨w.heap.size + 1 + 1, 0, none⟩) 2 2 [[a, b], [c, d]] := by
  have l1 := sl_lit w [a, b] #[.int .u64 (a : Int), .int .u64 (b : Int)] 30 2 rfl rfl (by intro x hx; simp at hx; omega) (by unfold maxLen; omega)
  have l2 := sl_lit (w.alloc (.cells #[.int .u64 (a : Int), .int .u64 (b : Int)] 30)) [c, d] #[.int .u64 (c : Int), .int .u64 (d : Int)] 30 2 rfl rfl (by intro x hx; simp at hx; omega) (by unfold maxLen; omega)
  rw [size_one] at l2
  have l1' := l1.below (below_alloc (Below.refl _ _) (.cells #[.int .u64 (c : Int), .int .u64 (d : Int)] 30))
  have h := sq_lit (w := (w.alloc (.cells #[.int .u64 (a : Int), .int .u64 (b : Int)] 30)).alloc (.cells #[.int .u64 (c : Int), .int .u64 (d : Int)] 30)) (L := [⟨some ⟨w.heap.size, 0, none⟩, 2, [a, b]⟩, ⟨some ⟨w.heap.size + 1, 0, none⟩, 2, [c, d]⟩])
    (cs := #[.slice (some ⟨w.heap.size, 0, none⟩) 2 2, .slice (some ⟨w.heap.size + 1, 0, none⟩) 2 2]) (t := 37) (n := 2) (m := [[a, b], [c, d]]) rfl rfl rfl (by unfold maxLen; omega) (fun r hr => by
      rcases List.mem_cons.1 hr with rfl | hr
      · exact l1'
      · rw [List.mem_singleton.1 hr]; exact l2)
  rw [size_one, size_one] at h
  exact h

theorem two_go {w w' : World} {q : Nat} {u v : Value} (h0 : w.cell? ⟨q, 0, none⟩ = some u) (h1 : w.cell? ⟨q, 1, none⟩ = some v) (f : ∀ o, w.frozen? ⟨q, o, none⟩ = false) (hb : Below w.heap.size w w') : Cel 2 w' q (fun o => if o = 0 then u else v) :=
  Cel.below ⟨fun o ho => (by rcases (show o = 0 ∨ o = 1 by omega) with rfl | rfl; exact h0; exact h1), f, cell_lt h0⟩ hb
theorem cell_far {w : World} {p q i a b : Nat} {u v : Value} (h : p ≠ q) : ((w.setCell ⟨q, a, none⟩ u).setCell ⟨q, b, none⟩ v).cell? ⟨p, i, none⟩ = w.cell? ⟨p, i, none⟩ :=
  (World.cell?_of_block (w := w.setCell ⟨q, a, none⟩ u) (a := ⟨p, i, none⟩) (Below.heap_setCell _ _ _ _ h)).trans (World.cell?_of_block (w := w) (a := ⟨p, i, none⟩) (Below.heap_setCell _ _ _ _ h))
theorem of_cell {w : World} {b : Nat} {x : Int} {s : Nat} (h : w.cell? ⟨b, 0, none⟩ = some (.int .i64 x)) (hx : IntOk x) (hs : bitN x = s) :
    Calls Try.prog 10 #[.slice (some ⟨b, 0, none⟩) 1 1] w fun e w' => e = .returned (.int .u64 (s : Nat)) ∧ w = w' :=
  of_end (xs := [x]) ⟨by simp, by unfold maxLen; omega, (fun e => by cases e), fun i hi => by
    obtain rfl : i = 0 := by simpa using hi
    exact ⟨b, 0, rfl, cell_lt h, h⟩⟩ (by simpa using hx) rfl (by rw [← hs]; simp [ofN])

set_option maxRecDepth 20000 in
set_option maxHeartbeats 16000000 in
theorem mawake_any (W : World) : Calls Try.prog 7 #[] W (VOk W) := by
  go_enter Try.func7, Try.ntmps7
  go_wp2_with fail
  refine (mnew_yes (W := W) (n := 2) (z := 2) rfl (by decide) (by decide)).mono ?_
  rintro e w1 ⟨a1, c1, rfl, h1, hb⟩
  have B1 := Lib.hid hb
  have M1 := Lib.hid (MtV.new (z := 2) h1 25)
  replace B1 := Lib.hid (B1.out.alloc B1.out.size (.cells #[.int .i64 2, .slice a1 2 c1] 25))
  clear h1 hb
  go_wp2_with fail
  generalize hw2 : w1.alloc (.cells #[.int .i64 2, .slice a1 2 c1] 25) = w2 at *
  generalize hp1 : w1.heap.size = p1 at *
  clear hw2 hp1
  replace M1 := Lib.hid (show MtV (fun k => k < w2.heap.size) w2 p1 2 a1 c1 2 (zerosM 2) from ⟨M1.out.c, M1.out.s.mono (fun k hk _ => hk)⟩)
  have k0 := M1.out.c0
  have k1 := M1.out.c1
  have kp := M1.out.c.lt
  go_cut [3] from 8 to 11 (fun v wx => ∃ q a c, v = .pointer (some ⟨q, 0, none⟩) ∧ (∃ A, MtV A wx q 2 a c 2 (upM 2 (zerosM 2) 0 2)) ∧ Below w2.heap.size w2 wx)
  case first =>
    refine wp_region_noPanic ?_
    refine wp_region_held_drew (S := (fun w' => w'.cell? ⟨p1, 0, none⟩ = some (.int .i64 2) ∧ w'.cell? ⟨p1, 1, none⟩ = some (.slice a1 2 c1) ∧ Hid (Below w2.heap.size w2 w'))) (by kernel_rfl) ?_ (fun hHeld => ?_)
    · exact ⟨k0, k1, Lib.hid (drew_below w2)⟩
    refine wpAnyH_take (i := 0) (oi := { dst := some 8, op := Op.load 25 (Operand.tmp 1), type := 25, pos := "law.go:71", after := #[], guard := none }) (v := ?_) rfl (by kernel_rfl) (by kernel_rfl) (by kernel_rfl) (fun _ _ _ h => h) (Or.inl ⟨by rfl, ?_⟩) (by assumption) ?_
    rotate_left
    · (intro w hSw; (try dsimp only at hSw); go_simp; try with_reducible rfl)
    ((try simp only [Act.put]); (try simp only [List.setIfInBounds_toArray]); (try simp only [List.set_cons_succ]); (try simp only [List.set_cons_zero]))
    refine wpAnyH_ready (rs := [1, 4]) (by kernel_rfl) (by simp) ?_
    refine AllReadyH.cons (o := { dst := some 9, op := Op.buildSlice 52 1 #[(0, Operand.const (Value.int IntKind.i64 1))], type := 52, pos := "law.go:71", after := #[], guard := none }) rfl (fun K hK => ?_) (AllReadyH.cons (o := { dst := some 3, op := Op.alloc 25, type := 0, pos := "law.go:71", after := #[], guard := none }) rfl (fun K hK => ?_) AllReadyH.nil)
    · skip
      go_simp
      refine hK.out _ _ ?_ (fun hNew => ?_)
      · first | exact hHeld | exact ⟨cell_go hHeld.1 hb, cell_go hHeld.2.1 hb, Lib.hid ((Hid.out hHeld.2.2).trans (hb.mono (Hid.out hHeld.2.2).size))⟩ | exact ⟨cell_go hHeld.1 (below_alloc (Below.refl _ _) _), cell_go hHeld.2.1 (below_alloc (Below.refl _ _) _), Lib.hid (below_alloc (Hid.out hHeld.2.2) _)⟩ | exact ⟨cell_go HS.1 (below_alloc (Below.refl _ _) _), cell_go HS.2.1 (below_alloc (Below.refl _ _) _), Lib.hid (below_alloc (Hid.out HS.2.2) _)⟩ | exact ⟨(cell_far (by omega)).trans HS.1, (cell_far (by omega)).trans HS.2.1, Lib.hid (((Hid.out HS.2.2).setCell (by simp) _).setCell (by simp) _)⟩
      clear hK K
      replace hHeld := hNew
      clear hNew
      ((try simp only [Act.put]); (try simp only [List.setIfInBounds_toArray]); (try simp only [List.set_cons_succ]); (try simp only [List.set_cons_zero]))
      refine wpAnyH_ready (rs := [2, 4]) (by kernel_rfl) (by simp) ?_
      refine AllReadyH.cons (o := { dst := some 10, op := Op.call { callee := Callee.value (Operand.func 10), args := #[Operand.tmp 9], argTypes := #[52] }, type := 31, pos := "law.go:71", after := #[{ on := 1, ground := Ground.data }], guard := none }) rfl (fun K hK => ?_) (AllReadyH.cons (o := { dst := some 3, op := Op.alloc 25, type := 0, pos := "law.go:71", after := #[], guard := none }) rfl (fun K hK => ?_) AllReadyH.nil)
      · skip
        go_simp
        refine (of_cell (x := 1) (s := 2) (by simp) ⟨by decide, by decide⟩ (by decide)).mono ?_
        rintro e w' ⟨rfl, rfl⟩
        try go_wp2_with fail
        refine hK.out _ _ ?_ (fun hNew => ?_)
        · first | exact hHeld | exact ⟨cell_go hHeld.1 hb, cell_go hHeld.2.1 hb, Lib.hid ((Hid.out hHeld.2.2).trans (hb.mono (Hid.out hHeld.2.2).size))⟩ | exact ⟨cell_go hHeld.1 (below_alloc (Below.refl _ _) _), cell_go hHeld.2.1 (below_alloc (Below.refl _ _) _), Lib.hid (below_alloc (Hid.out hHeld.2.2) _)⟩ | exact ⟨cell_go HS.1 (below_alloc (Below.refl _ _) _), cell_go HS.2.1 (below_alloc (Below.refl _ _) _), Lib.hid (below_alloc (Hid.out HS.2.2) _)⟩ | exact ⟨(cell_far (by omega)).trans HS.1, (cell_far (by omega)).trans HS.2.1, Lib.hid (((Hid.out HS.2.2).setCell (by simp) _).setCell (by simp) _)⟩
        clear hK K
        replace hHeld := hNew
        clear hNew
        ((try simp only [Act.put]); (try simp only [List.setIfInBounds_toArray]); (try simp only [List.set_cons_succ]); (try simp only [List.set_cons_zero]))
        refine wpAnyH_ready (rs := [3, 4]) (by kernel_rfl) (by simp) ?_
        refine AllReadyH.cons (o := { dst := some 11, op := Op.call { callee := Callee.value (Operand.func 9), args := #[Operand.tmp 8, Operand.const (Value.int IntKind.i64 0), Operand.tmp 10], argTypes := #[25, 3, 31] }, type := 25, pos := "law.go:71", after := #[{ on := 0, ground := Ground.data }, { on := 2, ground := Ground.data }, { on := 2, ground := Ground.chain }], guard := none }) rfl (fun K hK => ?_) (AllReadyH.cons (o := { dst := some 3, op := Op.alloc 25, type := 0, pos := "law.go:71", after := #[], guard := none }) rfl (fun K hK => ?_) AllReadyH.nil)
        · skip
          go_simp
          refine (mup_at (M1.out.s.below (Hid.out hHeld.2.2)) (by decide) (by decide) (by decide)).mono ?_
          rintro e w5 ⟨a5, c5, rfl, h5⟩
          have H5 := Lib.hid h5.1
          have hb := h5.2
          clear h5
          try go_wp2_with fail
          refine hK.out _ _ ?_ (fun hNew => ?_)
          · first | exact hHeld | exact ⟨cell_go hHeld.1 hb, cell_go hHeld.2.1 hb, Lib.hid ((Hid.out hHeld.2.2).trans (hb.mono (Hid.out hHeld.2.2).size))⟩ | exact ⟨cell_go hHeld.1 (below_alloc (Below.refl _ _) _), cell_go hHeld.2.1 (below_alloc (Below.refl _ _) _), Lib.hid (below_alloc (Hid.out hHeld.2.2) _)⟩ | exact ⟨cell_go HS.1 (below_alloc (Below.refl _ _) _), cell_go HS.2.1 (below_alloc (Below.refl _ _) _), Lib.hid (below_alloc (Hid.out HS.2.2) _)⟩ | exact ⟨(cell_far (by omega)).trans HS.1, (cell_far (by omega)).trans HS.2.1, Lib.hid (((Hid.out HS.2.2).setCell (by simp) _).setCell (by simp) _)⟩
          clear hK K
          replace hHeld := hNew
          clear hNew
          ((try simp only [Act.put]); (try simp only [List.setIfInBounds_toArray]); (try simp only [List.set_cons_succ]); (try simp only [List.set_cons_zero]))
          refine wpAnyH_ready (rs := [4]) (by kernel_rfl) (by simp) ?_
          refine AllReadyH.cons (o := { dst := some 3, op := Op.alloc 25, type := 0, pos := "law.go:71", after := #[], guard := none }) rfl (fun K hK => ?_) AllReadyH.nil
          go_simp
          have HS := hHeld
          try go_wp2_with fail
          refine hK.out _ _ ?_ (fun hNew => ?_)
          · first | exact hHeld | exact ⟨cell_go hHeld.1 hb, cell_go hHeld.2.1 hb, Lib.hid ((Hid.out hHeld.2.2).trans (hb.mono (Hid.out hHeld.2.2).size))⟩ | exact ⟨cell_go hHeld.1 (below_alloc (Below.refl _ _) _), cell_go hHeld.2.1 (below_alloc (Below.refl _ _) _), Lib.hid (below_alloc (Hid.out hHeld.2.2) _)⟩ | exact ⟨cell_go HS.1 (below_alloc (Below.refl _ _) _), cell_go HS.2.1 (below_alloc (Below.refl _ _) _), Lib.hid (below_alloc (Hid.out HS.2.2) _)⟩ | exact ⟨(cell_far (by omega)).trans HS.1, (cell_far (by omega)).trans HS.2.1, Lib.hid (((Hid.out HS.2.2).setCell (by simp) _).setCell (by simp) _)⟩
          clear hK K
          replace hHeld := hNew
          clear hNew
          ((try simp only [Act.put]); (try simp only [List.setIfInBounds_toArray]); (try simp only [List.set_cons_succ]); (try simp only [List.set_cons_zero]))
          refine wpAnyH_ready (rs := [5]) (by kernel_rfl) (by simp) ?_
          refine AllReadyH.cons (o := { dst := none, op := Op.store 25 (Operand.tmp 3) (Operand.tmp 11), type := 0, pos := "law.go:71", after := #[{ on := 4, ground := Ground.data }, { on := 3, ground := Ground.data }, { on := 3, ground := Ground.chain }, { on := 0, ground := Ground.phase }, { on := 1, ground := Ground.phase }, { on := 2, ground := Ground.phase }, { on := 3, ground := Ground.phase }, { on := 4, ground := Ground.phase }], guard := none }) rfl (fun K hK => ?_) AllReadyH.nil
          go_simp
          refine hK.out _ _ ?_ (fun hNew => ?_)
          · first | exact hHeld | exact ⟨cell_go hHeld.1 hb, cell_go hHeld.2.1 hb, Lib.hid ((Hid.out hHeld.2.2).trans (hb.mono (Hid.out hHeld.2.2).size))⟩ | exact ⟨cell_go hHeld.1 (below_alloc (Below.refl _ _) _), cell_go hHeld.2.1 (below_alloc (Below.refl _ _) _), Lib.hid (below_alloc (Hid.out hHeld.2.2) _)⟩ | exact ⟨cell_go HS.1 (below_alloc (Below.refl _ _) _), cell_go HS.2.1 (below_alloc (Below.refl _ _) _), Lib.hid (below_alloc (Hid.out HS.2.2) _)⟩ | exact ⟨(cell_far (by omega)).trans HS.1, (cell_far (by omega)).trans HS.2.1, Lib.hid (((Hid.out HS.2.2).setCell (by simp) _).setCell (by simp) _)⟩
          clear hK K
          replace hHeld := hNew
          clear hNew
          ((try simp only [Act.put]); (try simp only [List.setIfInBounds_toArray]); (try simp only [List.set_cons_succ]); (try simp only [List.set_cons_zero]))
          refine wpAnyH_done (by kernel_rfl) ?_ _
          refine NoPanic.normal ?_
          go_wp2_with fail
          go_meet
          refine ⟨w5.heap.size, a5, c5, rfl, ⟨_, MtV.new H5.out _⟩, below_alloc (Hid.out HS.2.2) _⟩
        · skip
          go_simp
          refine hK.out _ _ ?_ (fun hNew => ?_)
          · first | exact hHeld | exact ⟨cell_go hHeld.1 hb, cell_go hHeld.2.1 hb, Lib.hid ((Hid.out hHeld.2.2).trans (hb.mono (Hid.out hHeld.2.2).size))⟩ | exact ⟨cell_go hHeld.1 (below_alloc (Below.refl _ _) _), cell_go hHeld.2.1 (below_alloc (Below.refl _ _) _), Lib.hid (below_alloc (Hid.out hHeld.2.2) _)⟩ | exact ⟨cell_go HS.1 (below_alloc (Below.refl _ _) _), cell_go HS.2.1 (below_alloc (Below.refl _ _) _), Lib.hid (below_alloc (Hid.out HS.2.2) _)⟩ | exact ⟨(cell_far (by omega)).trans HS.1, (cell_far (by omega)).trans HS.2.1, Lib.hid (((Hid.out HS.2.2).setCell (by simp) _).setCell (by simp) _)⟩
          clear hK K
          replace hHeld := hNew
          clear hNew
          ((try simp only [Act.put]); (try simp only [List.setIfInBounds_toArray]); (try simp only [List.set_cons_succ]); (try simp only [List.set_cons_zero]))
          refine wpAnyH_ready (rs := [3]) (by kernel_rfl) (by simp) ?_
          refine AllReadyH.cons (o := { dst := some 11, op := Op.call { callee := Callee.value (Operand.func 9), args := #[Operand.tmp 8, Operand.const (Value.int IntKind.i64 0), Operand.tmp 10], argTypes := #[25, 3, 31] }, type := 25, pos := "law.go:71", after := #[{ on := 0, ground := Ground.data }, { on := 2, ground := Ground.data }, { on := 2, ground := Ground.chain }], guard := none }) rfl (fun K hK => ?_) AllReadyH.nil
          go_simp
          refine (mup_at (M1.out.s.below (Hid.out hHeld.2.2)) (by decide) (by decide) (by decide)).mono ?_
          rintro e w5 ⟨a5, c5, rfl, h5⟩
          have Z := two_go (q := w2.heap.size + 1) (u := .int .i64 0) (v := .slice none 0 0) (by simp) (by simp) (by simp) h5.2
          have z0 := Z.c 0 (by decide)
          have z1 := Z.c 1 (by decide)
          have zf0 := Z.fz 0
          have zf1 := Z.fz 1
          simp only at z0 z1
          have ZC := Lib.hid Z
          have H5 : Hid (∃ A, SqAt A w5 a5 c5 2 (upM 2 (zerosM 2) 0 2) ∧ ¬ A (w2.heap.size + 1)) := Lib.hid ⟨_, h5.1, fun h => Or.elim h (fun h => by omega) (fun h => by have h2 := h; simp at h2; try omega)⟩
          have hb := h5.2
          clear Z h5
          try go_wp2_with fail
          refine hK.out _ _ ?_ (fun hNew => ?_)
          · first | exact hHeld | exact ⟨cell_go hHeld.1 hb, cell_go hHeld.2.1 hb, Lib.hid ((Hid.out hHeld.2.2).trans (hb.mono (Hid.out hHeld.2.2).size))⟩ | exact ⟨cell_go hHeld.1 (below_alloc (Below.refl _ _) _), cell_go hHeld.2.1 (below_alloc (Below.refl _ _) _), Lib.hid (below_alloc (Hid.out hHeld.2.2) _)⟩ | exact ⟨cell_go HS.1 (below_alloc (Below.refl _ _) _), cell_go HS.2.1 (below_alloc (Below.refl _ _) _), Lib.hid (below_alloc (Hid.out HS.2.2) _)⟩ | exact ⟨(cell_far (by omega)).trans HS.1, (cell_far (by omega)).trans HS.2.1, Lib.hid (((Hid.out HS.2.2).setCell (by simp) _).setCell (by simp) _)⟩
          clear hK K
          replace hHeld := hNew
          clear hNew
          ((try simp only [Act.put]); (try simp only [List.setIfInBounds_toArray]); (try simp only [List.set_cons_succ]); (try simp only [List.set_cons_zero]))
          refine wpAnyH_ready (rs := [5]) (by kernel_rfl) (by simp) ?_
          refine AllReadyH.cons (o := { dst := none, op := Op.store 25 (Operand.tmp 3) (Operand.tmp 11), type := 0, pos := "law.go:71", after := #[{ on := 4, ground := Ground.data }, { on := 3, ground := Ground.data }, { on := 3, ground := Ground.chain }, { on := 0, ground := Ground.phase }, { on := 1, ground := Ground.phase }, { on := 2, ground := Ground.phase }, { on := 3, ground := Ground.phase }, { on := 4, ground := Ground.phase }], guard := none }) rfl (fun K hK => ?_) AllReadyH.nil
          go_simp
          have HS := hHeld
          try go_wp2_with fail
          refine hK.out _ _ ?_ (fun hNew => ?_)
          · first | exact hHeld | exact ⟨cell_go hHeld.1 hb, cell_go hHeld.2.1 hb, Lib.hid ((Hid.out hHeld.2.2).trans (hb.mono (Hid.out hHeld.2.2).size))⟩ | exact ⟨cell_go hHeld.1 (below_alloc (Below.refl _ _) _), cell_go hHeld.2.1 (below_alloc (Below.refl _ _) _), Lib.hid (below_alloc (Hid.out hHeld.2.2) _)⟩ | exact ⟨cell_go HS.1 (below_alloc (Below.refl _ _) _), cell_go HS.2.1 (below_alloc (Below.refl _ _) _), Lib.hid (below_alloc (Hid.out HS.2.2) _)⟩ | exact ⟨(cell_far (by omega)).trans HS.1, (cell_far (by omega)).trans HS.2.1, Lib.hid (((Hid.out HS.2.2).setCell (by simp) _).setCell (by simp) _)⟩
          clear hK K
          replace hHeld := hNew
          clear hNew
          ((try simp only [Act.put]); (try simp only [List.setIfInBounds_toArray]); (try simp only [List.set_cons_succ]); (try simp only [List.set_cons_zero]))
          refine wpAnyH_done (by kernel_rfl) ?_ _
          refine NoPanic.normal ?_
          go_wp2_with fail
          go_meet
          refine ⟨w2.heap.size + 1, a5, c5, rfl, H5.out.elim fun A h => ⟨A, MtV.store ZC.out h.1 h.2⟩, ?_⟩
          exact ((Hid.out HS.2.2).setCell (by simp) _).setCell (by simp) _
      · skip
        go_simp
        refine hK.out _ _ ?_ (fun hNew => ?_)
        · first | exact hHeld | exact ⟨cell_go hHeld.1 hb, cell_go hHeld.2.1 hb, Lib.hid ((Hid.out hHeld.2.2).trans (hb.mono (Hid.out hHeld.2.2).size))⟩ | exact ⟨cell_go hHeld.1 (below_alloc (Below.refl _ _) _), cell_go hHeld.2.1 (below_alloc (Below.refl _ _) _), Lib.hid (below_alloc (Hid.out hHeld.2.2) _)⟩ | exact ⟨cell_go HS.1 (below_alloc (Below.refl _ _) _), cell_go HS.2.1 (below_alloc (Below.refl _ _) _), Lib.hid (below_alloc (Hid.out HS.2.2) _)⟩ | exact ⟨(cell_far (by omega)).trans HS.1, (cell_far (by omega)).trans HS.2.1, Lib.hid (((Hid.out HS.2.2).setCell (by simp) _).setCell (by simp) _)⟩
        clear hK K
        replace hHeld := hNew
        clear hNew
        ((try simp only [Act.put]); (try simp only [List.setIfInBounds_toArray]); (try simp only [List.set_cons_succ]); (try simp only [List.set_cons_zero]))
        refine wpAnyH_ready (rs := [2]) (by kernel_rfl) (by simp) ?_
        refine AllReadyH.cons (o := { dst := some 10, op := Op.call { callee := Callee.value (Operand.func 10), args := #[Operand.tmp 9], argTypes := #[52] }, type := 31, pos := "law.go:71", after := #[{ on := 1, ground := Ground.data }], guard := none }) rfl (fun K hK => ?_) AllReadyH.nil
        go_simp
        refine (of_cell (x := 1) (s := 2) (by simp) ⟨by decide, by decide⟩ (by decide)).mono ?_
        rintro e w' ⟨rfl, rfl⟩
        try go_wp2_with fail
        refine hK.out _ _ ?_ (fun hNew => ?_)
        · first | exact hHeld | exact ⟨cell_go hHeld.1 hb, cell_go hHeld.2.1 hb, Lib.hid ((Hid.out hHeld.2.2).trans (hb.mono (Hid.out hHeld.2.2).size))⟩ | exact ⟨cell_go hHeld.1 (below_alloc (Below.refl _ _) _), cell_go hHeld.2.1 (below_alloc (Below.refl _ _) _), Lib.hid (below_alloc (Hid.out hHeld.2.2) _)⟩ | exact ⟨cell_go HS.1 (below_alloc (Below.refl _ _) _), cell_go HS.2.1 (below_alloc (Below.refl _ _) _), Lib.hid (below_alloc (Hid.out HS.2.2) _)⟩ | exact ⟨(cell_far (by omega)).trans HS.1, (cell_far (by omega)).trans HS.2.1, Lib.hid (((Hid.out HS.2.2).setCell (by simp) _).setCell (by simp) _)⟩
        clear hK K
        replace hHeld := hNew
        clear hNew
        ((try simp only [Act.put]); (try simp only [List.setIfInBounds_toArray]); (try simp only [List.set_cons_succ]); (try simp only [List.set_cons_zero]))
        refine wpAnyH_ready (rs := [3]) (by kernel_rfl) (by simp) ?_
        refine AllReadyH.cons (o := { dst := some 11, op := Op.call { callee := Callee.value (Operand.func 9), args := #[Operand.tmp 8, Operand.const (Value.int IntKind.i64 0), Operand.tmp 10], argTypes := #[25, 3, 31] }, type := 25, pos := "law.go:71", after := #[{ on := 0, ground := Ground.data }, { on := 2, ground := Ground.data }, { on := 2, ground := Ground.chain }], guard := none }) rfl (fun K hK => ?_) AllReadyH.nil
        go_simp
        refine (mup_at (M1.out.s.below (Hid.out hHeld.2.2)) (by decide) (by decide) (by decide)).mono ?_
        rintro e w5 ⟨a5, c5, rfl, h5⟩
        have Z := two_go (q := w2.heap.size + 1) (u := .int .i64 0) (v := .slice none 0 0) (by simp) (by simp) (by simp) h5.2
        have z0 := Z.c 0 (by decide)
        have z1 := Z.c 1 (by decide)
        have zf0 := Z.fz 0
        have zf1 := Z.fz 1
        simp only at z0 z1
        have ZC := Lib.hid Z
        have H5 : Hid (∃ A, SqAt A w5 a5 c5 2 (upM 2 (zerosM 2) 0 2) ∧ ¬ A (w2.heap.size + 1)) := Lib.hid ⟨_, h5.1, fun h => Or.elim h (fun h => by omega) (fun h => by have h2 := h; simp at h2; try omega)⟩
        have hb := h5.2
        clear Z h5
        try go_wp2_with fail
        refine hK.out _ _ ?_ (fun hNew => ?_)
        · first | exact hHeld | exact ⟨cell_go hHeld.1 hb, cell_go hHeld.2.1 hb, Lib.hid ((Hid.out hHeld.2.2).trans (hb.mono (Hid.out hHeld.2.2).size))⟩ | exact ⟨cell_go hHeld.1 (below_alloc (Below.refl _ _) _), cell_go hHeld.2.1 (below_alloc (Below.refl _ _) _), Lib.hid (below_alloc (Hid.out hHeld.2.2) _)⟩ | exact ⟨cell_go HS.1 (below_alloc (Below.refl _ _) _), cell_go HS.2.1 (below_alloc (Below.refl _ _) _), Lib.hid (below_alloc (Hid.out HS.2.2) _)⟩ | exact ⟨(cell_far (by omega)).trans HS.1, (cell_far (by omega)).trans HS.2.1, Lib.hid (((Hid.out HS.2.2).setCell (by simp) _).setCell (by simp) _)⟩
        clear hK K
        replace hHeld := hNew
        clear hNew
        ((try simp only [Act.put]); (try simp only [List.setIfInBounds_toArray]); (try simp only [List.set_cons_succ]); (try simp only [List.set_cons_zero]))
        refine wpAnyH_ready (rs := [5]) (by kernel_rfl) (by simp) ?_
        refine AllReadyH.cons (o := { dst := none, op := Op.store 25 (Operand.tmp 3) (Operand.tmp 11), type := 0, pos := "law.go:71", after := #[{ on := 4, ground := Ground.data }, { on := 3, ground := Ground.data }, { on := 3, ground := Ground.chain }, { on := 0, ground := Ground.phase }, { on := 1, ground := Ground.phase }, { on := 2, ground := Ground.phase }, { on := 3, ground := Ground.phase }, { on := 4, ground := Ground.phase }], guard := none }) rfl (fun K hK => ?_) AllReadyH.nil
        go_simp
        have HS := hHeld
        try go_wp2_with fail
        refine hK.out _ _ ?_ (fun hNew => ?_)
        · first | exact hHeld | exact ⟨cell_go hHeld.1 hb, cell_go hHeld.2.1 hb, Lib.hid ((Hid.out hHeld.2.2).trans (hb.mono (Hid.out hHeld.2.2).size))⟩ | exact ⟨cell_go hHeld.1 (below_alloc (Below.refl _ _) _), cell_go hHeld.2.1 (below_alloc (Below.refl _ _) _), Lib.hid (below_alloc (Hid.out hHeld.2.2) _)⟩ | exact ⟨cell_go HS.1 (below_alloc (Below.refl _ _) _), cell_go HS.2.1 (below_alloc (Below.refl _ _) _), Lib.hid (below_alloc (Hid.out HS.2.2) _)⟩ | exact ⟨(cell_far (by omega)).trans HS.1, (cell_far (by omega)).trans HS.2.1, Lib.hid (((Hid.out HS.2.2).setCell (by simp) _).setCell (by simp) _)⟩
        clear hK K
        replace hHeld := hNew
        clear hNew
        ((try simp only [Act.put]); (try simp only [List.setIfInBounds_toArray]); (try simp only [List.set_cons_succ]); (try simp only [List.set_cons_zero]))
        refine wpAnyH_done (by kernel_rfl) ?_ _
        refine NoPanic.normal ?_
        go_wp2_with fail
        go_meet
        refine ⟨w2.heap.size + 1, a5, c5, rfl, H5.out.elim fun A h => ⟨A, MtV.store ZC.out h.1 h.2⟩, ?_⟩
        exact ((Hid.out HS.2.2).setCell (by simp) _).setCell (by simp) _
    · skip
      go_simp
      refine hK.out _ _ ?_ (fun hNew => ?_)
      · first | exact hHeld | exact ⟨cell_go hHeld.1 hb, cell_go hHeld.2.1 hb, Lib.hid ((Hid.out hHeld.2.2).trans (hb.mono (Hid.out hHeld.2.2).size))⟩ | exact ⟨cell_go hHeld.1 (below_alloc (Below.refl _ _) _), cell_go hHeld.2.1 (below_alloc (Below.refl _ _) _), Lib.hid (below_alloc (Hid.out hHeld.2.2) _)⟩ | exact ⟨cell_go HS.1 (below_alloc (Below.refl _ _) _), cell_go HS.2.1 (below_alloc (Below.refl _ _) _), Lib.hid (below_alloc (Hid.out HS.2.2) _)⟩ | exact ⟨(cell_far (by omega)).trans HS.1, (cell_far (by omega)).trans HS.2.1, Lib.hid (((Hid.out HS.2.2).setCell (by simp) _).setCell (by simp) _)⟩
      clear hK K
      replace hHeld := hNew
      clear hNew
      ((try simp only [Act.put]); (try simp only [List.setIfInBounds_toArray]); (try simp only [List.set_cons_succ]); (try simp only [List.set_cons_zero]))
      refine wpAnyH_ready (rs := [1]) (by kernel_rfl) (by simp) ?_
      refine AllReadyH.cons (o := { dst := some 9, op := Op.buildSlice 52 1 #[(0, Operand.const (Value.int IntKind.i64 1))], type := 52, pos := "law.go:71", after := #[], guard := none }) rfl (fun K hK => ?_) AllReadyH.nil
      go_simp
      refine hK.out _ _ ?_ (fun hNew => ?_)
      · first | exact hHeld | exact ⟨cell_go hHeld.1 hb, cell_go hHeld.2.1 hb, Lib.hid ((Hid.out hHeld.2.2).trans (hb.mono (Hid.out hHeld.2.2).size))⟩ | exact ⟨cell_go hHeld.1 (below_alloc (Below.refl _ _) _), cell_go hHeld.2.1 (below_alloc (Below.refl _ _) _), Lib.hid (below_alloc (Hid.out hHeld.2.2) _)⟩ | exact ⟨cell_go HS.1 (below_alloc (Below.refl _ _) _), cell_go HS.2.1 (below_alloc (Below.refl _ _) _), Lib.hid (below_alloc (Hid.out HS.2.2) _)⟩ | exact ⟨(cell_far (by omega)).trans HS.1, (cell_far (by omega)).trans HS.2.1, Lib.hid (((Hid.out HS.2.2).setCell (by simp) _).setCell (by simp) _)⟩
      clear hK K
      replace hHeld := hNew
      clear hNew
      ((try simp only [Act.put]); (try simp only [List.setIfInBounds_toArray]); (try simp only [List.set_cons_succ]); (try simp only [List.set_cons_zero]))
      refine wpAnyH_ready (rs := [2]) (by kernel_rfl) (by simp) ?_
      refine AllReadyH.cons (o := { dst := some 10, op := Op.call { callee := Callee.value (Operand.func 10), args := #[Operand.tmp 9], argTypes := #[52] }, type := 31, pos := "law.go:71", after := #[{ on := 1, ground := Ground.data }], guard := none }) rfl (fun K hK => ?_) AllReadyH.nil
      go_simp
      refine (of_cell (x := 1) (s := 2) (by simp) ⟨by decide, by decide⟩ (by decide)).mono ?_
      rintro e w' ⟨rfl, rfl⟩
      try go_wp2_with fail
      refine hK.out _ _ ?_ (fun hNew => ?_)
      · first | exact hHeld | exact ⟨cell_go hHeld.1 hb, cell_go hHeld.2.1 hb, Lib.hid ((Hid.out hHeld.2.2).trans (hb.mono (Hid.out hHeld.2.2).size))⟩ | exact ⟨cell_go hHeld.1 (below_alloc (Below.refl _ _) _), cell_go hHeld.2.1 (below_alloc (Below.refl _ _) _), Lib.hid (below_alloc (Hid.out hHeld.2.2) _)⟩ | exact ⟨cell_go HS.1 (below_alloc (Below.refl _ _) _), cell_go HS.2.1 (below_alloc (Below.refl _ _) _), Lib.hid (below_alloc (Hid.out HS.2.2) _)⟩ | exact ⟨(cell_far (by omega)).trans HS.1, (cell_far (by omega)).trans HS.2.1, Lib.hid (((Hid.out HS.2.2).setCell (by simp) _).setCell (by simp) _)⟩
      clear hK K
      replace hHeld := hNew
      clear hNew
      ((try simp only [Act.put]); (try simp only [List.setIfInBounds_toArray]); (try simp only [List.set_cons_succ]); (try simp only [List.set_cons_zero]))
      refine wpAnyH_ready (rs := [3]) (by kernel_rfl) (by simp) ?_
      refine AllReadyH.cons (o := { dst := some 11, op := Op.call { callee := Callee.value (Operand.func 9), args := #[Operand.tmp 8, Operand.const (Value.int IntKind.i64 0), Operand.tmp 10], argTypes := #[25, 3, 31] }, type := 25, pos := "law.go:71", after := #[{ on := 0, ground := Ground.data }, { on := 2, ground := Ground.data }, { on := 2, ground := Ground.chain }], guard := none }) rfl (fun K hK => ?_) AllReadyH.nil
      go_simp
      refine (mup_at (M1.out.s.below (Hid.out hHeld.2.2)) (by decide) (by decide) (by decide)).mono ?_
      rintro e w5 ⟨a5, c5, rfl, h5⟩
      have Z := two_go (q := w2.heap.size) (u := .int .i64 0) (v := .slice none 0 0) (by simp) (by simp) (by simp) h5.2
      have z0 := Z.c 0 (by decide)
      have z1 := Z.c 1 (by decide)
      have zf0 := Z.fz 0
      have zf1 := Z.fz 1
      simp only at z0 z1
      have ZC := Lib.hid Z
      have H5 : Hid (∃ A, SqAt A w5 a5 c5 2 (upM 2 (zerosM 2) 0 2) ∧ ¬ A (w2.heap.size)) := Lib.hid ⟨_, h5.1, fun h => Or.elim h (fun h => by omega) (fun h => by have h2 := h; simp at h2; try omega)⟩
      have hb := h5.2
      clear Z h5
      try go_wp2_with fail
      refine hK.out _ _ ?_ (fun hNew => ?_)
      · first | exact hHeld | exact ⟨cell_go hHeld.1 hb, cell_go hHeld.2.1 hb, Lib.hid ((Hid.out hHeld.2.2).trans (hb.mono (Hid.out hHeld.2.2).size))⟩ | exact ⟨cell_go hHeld.1 (below_alloc (Below.refl _ _) _), cell_go hHeld.2.1 (below_alloc (Below.refl _ _) _), Lib.hid (below_alloc (Hid.out hHeld.2.2) _)⟩ | exact ⟨cell_go HS.1 (below_alloc (Below.refl _ _) _), cell_go HS.2.1 (below_alloc (Below.refl _ _) _), Lib.hid (below_alloc (Hid.out HS.2.2) _)⟩ | exact ⟨(cell_far (by omega)).trans HS.1, (cell_far (by omega)).trans HS.2.1, Lib.hid (((Hid.out HS.2.2).setCell (by simp) _).setCell (by simp) _)⟩
      clear hK K
      replace hHeld := hNew
      clear hNew
      ((try simp only [Act.put]); (try simp only [List.setIfInBounds_toArray]); (try simp only [List.set_cons_succ]); (try simp only [List.set_cons_zero]))
      refine wpAnyH_ready (rs := [5]) (by kernel_rfl) (by simp) ?_
      refine AllReadyH.cons (o := { dst := none, op := Op.store 25 (Operand.tmp 3) (Operand.tmp 11), type := 0, pos := "law.go:71", after := #[{ on := 4, ground := Ground.data }, { on := 3, ground := Ground.data }, { on := 3, ground := Ground.chain }, { on := 0, ground := Ground.phase }, { on := 1, ground := Ground.phase }, { on := 2, ground := Ground.phase }, { on := 3, ground := Ground.phase }, { on := 4, ground := Ground.phase }], guard := none }) rfl (fun K hK => ?_) AllReadyH.nil
      go_simp
      have HS := hHeld
      try go_wp2_with fail
      refine hK.out _ _ ?_ (fun hNew => ?_)
      · first | exact hHeld | exact ⟨cell_go hHeld.1 hb, cell_go hHeld.2.1 hb, Lib.hid ((Hid.out hHeld.2.2).trans (hb.mono (Hid.out hHeld.2.2).size))⟩ | exact ⟨cell_go hHeld.1 (below_alloc (Below.refl _ _) _), cell_go hHeld.2.1 (below_alloc (Below.refl _ _) _), Lib.hid (below_alloc (Hid.out hHeld.2.2) _)⟩ | exact ⟨cell_go HS.1 (below_alloc (Below.refl _ _) _), cell_go HS.2.1 (below_alloc (Below.refl _ _) _), Lib.hid (below_alloc (Hid.out HS.2.2) _)⟩ | exact ⟨(cell_far (by omega)).trans HS.1, (cell_far (by omega)).trans HS.2.1, Lib.hid (((Hid.out HS.2.2).setCell (by simp) _).setCell (by simp) _)⟩
      clear hK K
      replace hHeld := hNew
      clear hNew
      ((try simp only [Act.put]); (try simp only [List.setIfInBounds_toArray]); (try simp only [List.set_cons_succ]); (try simp only [List.set_cons_zero]))
      refine wpAnyH_done (by kernel_rfl) ?_ _
      refine NoPanic.normal ?_
      go_wp2_with fail
      go_meet
      refine ⟨w2.heap.size, a5, c5, rfl, H5.out.elim fun A h => ⟨A, MtV.store ZC.out h.1 h.2⟩, ?_⟩
      exact ((Hid.out HS.2.2).setCell (by simp) _).setCell (by simp) _
  case rest =>
    obtain ⟨q, a3, c3, rfl, ⟨A3, h3⟩, hb⟩ := hcut
    replace B1 := Lib.hid (B1.out.trans (hb.mono B1.out.size))
    have U := Lib.hid h3
    replace M1 := Lib.hid (M1.out.below hb)
    clear h3 hb k0 k1 kp
    have eU := Lib.hid (show upM 2 (zerosM 2) 0 2 = [[0, 1], [0, 0]] by decide)
    have k0 := U.out.c0
    have k1 := U.out.c1
    go_wp2_with fail
    refine (rows_at 2 U.out.s (by decide)).mono ?_
    rintro e w4 ⟨a4, c4, rfl, h4⟩
    rw [eU.out] at h4 U
    have k0 := U.out.c0
    have k1 := U.out.c1
    have U4 := Lib.hid (U.out.below h4.2)
    have S4 := Lib.hid h4.1
    have M4 := Lib.hid (M1.out.below h4.2)
    replace B1 := Lib.hid (B1.out.trans (h4.2.mono B1.out.size))
    clear h4 U M1
    go_wp2_with fail
    have K := Lib.hid (lit22_below w4 0 1 0 0)
    have Q := Lib.hid (lit22_sq w4 (a := 0) (b := 1) (c := 0) (d := 0) (by decide) (by decide) (by decide) (by decide))
    have S5 := Lib.hid (S4.out.below K.out)
    have U5 := Lib.hid (U4.out.below K.out)
    have M5 := Lib.hid (M4.out.below K.out)
    replace B1 := Lib.hid (B1.out.trans (K.out.mono B1.out.size))
    have e5 : ((w4.alloc (.cells #[.int .u64 0, .int .u64 1] 30)).alloc (.cells #[.int .u64 0, .int .u64 0] 30)).alloc (.cells #[.slice (some ⟨w4.heap.size, 0, none⟩) 2 2, .slice (some ⟨w4.heap.size + 1, 0, none⟩) 2 2] 37) = lit22 w4 0 1 0 0 := rfl
    rw [e5]
    clear e5 K S4 U4 M4
    generalize lit22 w4 0 1 0 0 = w5 at *
    refine (squares_at (r := true) S5.out Q.out (by decide)).mono ?_
    rintro e w6 ⟨rfl, n6, hw⟩
    have D6 : Below w5.heap.size w5 w6 := by rw [hw]; exact ⟨rfl, rfl, rfl, Nat.le_refl _, fun _ _ => rfl⟩
    have U6 := Lib.hid (U5.out.below D6)
    have M6 := Lib.hid (M5.out.below D6)
    replace B1 := Lib.hid (B1.out.trans (D6.mono B1.out.size))
    clear hw D6 S5 Q U5 M5
    have k0 := U6.out.c0
    have k1 := U6.out.c1
    go_wp2_with fail
    refine (mgood_at (r := true) U6.out.s (by decide)).mono ?_
    rintro e w7 ⟨rfl, hb⟩
    have U7 := Lib.hid (U6.out.below hb)
    have M7 := Lib.hid (M6.out.below hb)
    replace B1 := Lib.hid (B1.out.trans (hb.mono B1.out.size))
    clear hb U6 M6
    have k0 := U7.out.c0
    have k1 := U7.out.c1
    go_wp2_with fail
    refine (mat_at (v := 1) U7.out.s (by decide) (by decide)).mono ?_
    rintro e w8 ⟨rfl, hb⟩
    have U8 := Lib.hid (U7.out.below hb)
    have M8 := Lib.hid (M7.out.below hb)
    replace B1 := Lib.hid (B1.out.trans (hb.mono B1.out.size))
    clear hb U7 M7
    have k0 := U8.out.c0
    have k1 := U8.out.c1
    have k2 := M8.out.c0
    have k3 := M8.out.c1
    go_wp2_with fail
    refine (mwi_at (r := true) M8.out.s U8.out.s (by decide)).mono ?_
    rintro e w9 ⟨rfl, hb⟩
    replace B1 := Lib.hid (B1.out.trans (hb.mono B1.out.size))
    clear hb
    go_wp2_with fail
    go_ret
    exact ⟨rfl, B1.out⟩

end Go.Proofs.Ytfiamomadicbpaa
