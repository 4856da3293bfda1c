import Derived.Test.YtopnagjbdjicaaaMam
import Derived.Test.YtopnagjbdjicaaaMae
import Derived.Test.YtopnagjbdjicaaaWregm
import Derived.Deep.RegionHeld3
import Derived.Deep.Cut
import Derived.Deep.CutBlock
import Derived.Deep.CutRange

/-
  The document's own engine: send, take.
-/
namespace Go.Proofs.Ytopnagjbdjicaaa
open Go.RowKit

/-- What a send leaves: the bytes, how many; the engine. -/
def DsPost (w : World) (F : Nat → Prop) (q : Nat) (e : En) (L : List Nat) (c : Nat) (x : Ending) (w' : World) : Prop :=
  ∃ a cap F', x = .returned (.tuple #[.slice a L.length cap, .int .i64 (c : Int)]) ∧ SlAt bV 256 w' a cap L ∧ DeAt w' F' q e ∧ Keep F w w' ∧ (∀ k, F' k → F k ∨ w.heap.size ≤ k) ∧ ∀ ad, a = some ad → L ≠ [] → w.heap.size ≤ ad.block ∧ ¬ F' ad.block

set_option maxRecDepth 20000 in
set_option maxHeartbeats 8000000 in
theorem dsend_at {w : World} {F : Nat → Prop} {q : Nat} {e : En} {tx : Nat} (h : DeAt w F q e) (hto : tx < 18446744073709551616) {L : List Nat} (hL : stampL e.S = L) {c : Nat} (hc : (listN (toE e.n e.me tx)).length = c) :
    Calls Try.prog 21 #[.pointer (some ⟨q, 0, none⟩), .int .u64 (tx : Int)] w (DsPost w F q (sendE e tx) L c) := by
  obtain ⟨sa, sc, ga, gc, hV⟩ := h
  have ok := Lib.hid hV.ok
  have c0 : w.cell? ⟨q, 0, none⟩ = some (.int .i64 e.n) := hV.c.c 0 (by decide)
  have c1 : w.cell? ⟨q, 1, none⟩ = some (.int .i64 e.me) := hV.c.c 1 (by decide)
  have V := Lib.hid hV
  have hm16 := ok.out.me
  have hn16 := ok.out.n2
  have CA := Lib.hid (fun W => rallOf_any (e.n : Int) W (by unfold IntOk; omega))
  have hand := u64_and_nat tx (allN (e.n : Int)) hto (allN_lt _)
  have hpow : (2 : Nat) ^ e.me < 18446744073709551616 := pow_word (by omega)
  have hsh : IntKind.u64.wrap ((2 : Int) ^ e.me) = (2 : Int) ^ e.me := by
    rw [two_cast]
    generalize (2 : Nat) ^ e.me = G at hpow ⊢
    exact wrapQ ⟨by omega, by omega⟩
  have hcv : IntKind.u64.wrap ((e.me : Nat) : Int) = ((e.me : Nat) : Int) := wrapQ ⟨by omega, by omega⟩
  have hneg : bits .andNot .u64 ((tx &&& allN (e.n : Int) : Nat) : Int) ((2 : Int) ^ e.me) = ((toE e.n e.me tx : Nat) : Int) := by
    rw [two_cast]
    exact or_neg_nat (tx &&& allN (e.n : Int)) (2 ^ e.me) (Nat.lt_of_le_of_lt Nat.and_le_left hto) hpow
  have TL := Lib.hid (toE_lt (n := e.n) (me := e.me) hto)
  have HS := Lib.hid (show sendE e tx = { e with S := upM (e.n : Int) e.S (e.me : Int) (toE e.n e.me tx) } from rfl)
  have OK2 := Lib.hid (sendE_ok ok.out tx)
  have HC := Lib.hid hc
  have HL := Lib.hid hL
  clear hpow hc hL
  generalize toE e.n e.me tx = tt at *
  clear hV
  go_enter Try.func21, Try.ntmps21
  go_upto_region 1 with fail
  go_cut [1] from 7 to 20 (fun v1 wx => v1 = .int .u64 (tt : Int) ∧ ∃ d, wx = w.drewN d)
  case first =>
    go_region_law (go_simp; go_at_call 53; refine (CA.out _).mono ?_; rintro x w' ⟨rfl, rfl⟩)
    all_goals try go_simp
    all_goals
      go_wp2_with fail
      go_meet
      exact ⟨rfl, 1, rfl⟩
  case rest =>
  obtain ⟨rfl, d, rfl⟩ := hcut
  have V1 := Lib.hid (V.out.keep (w' := w.drewN d) (Keep.ofBelow (F := fun _ => False) (drewN_b (Below.refl _ w) d)) (fun _ _ => id))
  have B1 := Lib.hid (drewN_b (Below.refl w.heap.size w) d)
  clear c0 c1 hand hsh hcv hneg CA
  have SZ1 := Lib.hid (show (w.drewN d).heap.size = w.heap.size from rfl)
  generalize w.drewN d = w1 at *
  have a0 : w1.cell? ⟨q, 0, none⟩ = some (.int .i64 e.n) := V1.out.c.c 0 (by decide)
  have a2 : w1.cell? ⟨q, 2, none⟩ = some (.slice sa e.n sc) := V1.out.c.c 2 (by decide)
  go_upto_region 2 with fail
  refine wp_region_noPanic ?_
  refine wp_region_held_drew (S := (fun w' => w'.cell? ⟨q, 0, none⟩ = some (.int .i64 e.n) ∧ w'.cell? ⟨q, 2, none⟩ = some (.slice sa e.n sc) ∧ Hid (Below w1.heap.size w1 w'))) (by kernel_rfl) ?_ (fun hHeld => ?_)
  · exact ⟨a0, a2, Lib.hid (drew_below w1)⟩
  refine wpAnyH_take (i := 0) (oi := { dst := some 21, op := Op.move (Operand.tmp 0), type := 48, pos := "law.go:130", after := #[], guard := none }) (v := ?_) rfl (by kernel_rfl) (by kernel_rfl) (by kernel_rfl) (fun _ _ _ h => h) (Or.inl ⟨by rfl, ?_⟩) (by assumption) ?_
  rotate_left
  · (intro w hSw; (try dsimp only at hSw); go_simp; try with_reducible rfl)
  ((try simp only [Act.put]); (try simp only [List.setIfInBounds_toArray]); (try simp only [List.set_cons_succ]); (try simp only [List.set_cons_zero]))
  refine wpAnyH_take (i := 1) (oi := { dst := some 22, op := Op.nilCheck (Operand.tmp 21), type := 0, pos := "law.go:130", after := #[{ on := 0, ground := Ground.data }], guard := none }) (v := ?_) rfl (by kernel_rfl) (by kernel_rfl) (by kernel_rfl) (fun _ _ _ h => h) (Or.inl ⟨by rfl, ?_⟩) (by assumption) ?_
  rotate_left
  · (intro w hSw; (try dsimp only at hSw); go_simp; try with_reducible rfl)
  ((try simp only [Act.put]); (try simp only [List.setIfInBounds_toArray]); (try simp only [List.set_cons_succ]); (try simp only [List.set_cons_zero]))
  refine wpAnyH_take (i := 2) (oi := { dst := some 23, op := Op.fieldAddr 57 (Operand.tmp 22) 0, type := 0, pos := "law.go:130", after := #[{ on := 1, ground := Ground.data }], guard := none }) (v := ?_) rfl (by kernel_rfl) (by kernel_rfl) (by kernel_rfl) (fun _ _ _ h => h) (Or.inl ⟨by rfl, ?_⟩) (by assumption) ?_
  rotate_left
  · (intro w hSw; (try dsimp only at hSw); go_simp; try with_reducible rfl)
  ((try simp only [Act.put]); (try simp only [List.setIfInBounds_toArray]); (try simp only [List.set_cons_succ]); (try simp only [List.set_cons_zero]))
  refine wpAnyH_take (i := 3) (oi := { dst := some 24, op := Op.load 3 (Operand.tmp 23), type := 3, pos := "law.go:130", after := #[{ on := 2, ground := Ground.data }], guard := none }) (v := ?_) rfl (by kernel_rfl) (by kernel_rfl) (by kernel_rfl) (fun _ _ _ h => h) (Or.inl ⟨by rfl, ?_⟩) (by assumption) ?_
  rotate_left
  · (intro w hSw; (try dsimp only at hSw); go_simp; try with_reducible rfl)
  ((try simp only [Act.put]); (try simp only [List.setIfInBounds_toArray]); (try simp only [List.set_cons_succ]); (try simp only [List.set_cons_zero]))
  refine wpAnyH_take (i := 4) (oi := { dst := some 25, op := Op.move (Operand.tmp 0), type := 48, pos := "law.go:130", after := #[], guard := none }) (v := ?_) rfl (by kernel_rfl) (by kernel_rfl) (by kernel_rfl) (fun _ _ _ h => h) (Or.inl ⟨by rfl, ?_⟩) (by assumption) ?_
  rotate_left
  · (intro w hSw; (try dsimp only at hSw); go_simp; try with_reducible rfl)
  ((try simp only [Act.put]); (try simp only [List.setIfInBounds_toArray]); (try simp only [List.set_cons_succ]); (try simp only [List.set_cons_zero]))
  refine wpAnyH_take (i := 5) (oi := { dst := some 26, op := Op.nilCheck (Operand.tmp 25), type := 0, pos := "law.go:130", after := #[{ on := 4, ground := Ground.data }], guard := none }) (v := ?_) rfl (by kernel_rfl) (by kernel_rfl) (by kernel_rfl) (fun _ _ _ h => h) (Or.inl ⟨by rfl, ?_⟩) (by assumption) ?_
  rotate_left
  · (intro w hSw; (try dsimp only at hSw); go_simp; try with_reducible rfl)
  ((try simp only [Act.put]); (try simp only [List.setIfInBounds_toArray]); (try simp only [List.set_cons_succ]); (try simp only [List.set_cons_zero]))
  refine wpAnyH_take (i := 6) (oi := { dst := some 27, op := Op.fieldAddr 57 (Operand.tmp 26) 2, type := 0, pos := "law.go:130", after := #[{ on := 5, ground := Ground.data }], guard := none }) (v := ?_) rfl (by kernel_rfl) (by kernel_rfl) (by kernel_rfl) (fun _ _ _ h => h) (Or.inl ⟨by rfl, ?_⟩) (by assumption) ?_
  rotate_left
  · (intro w hSw; (try dsimp only at hSw); go_simp; try with_reducible rfl)
  ((try simp only [Act.put]); (try simp only [List.setIfInBounds_toArray]); (try simp only [List.set_cons_succ]); (try simp only [List.set_cons_zero]))
  refine wpAnyH_take (i := 7) (oi := { dst := some 28, op := Op.load 55 (Operand.tmp 27), type := 55, pos := "law.go:130", after := #[{ on := 6, ground := Ground.data }], guard := none }) (v := ?_) rfl (by kernel_rfl) (by kernel_rfl) (by kernel_rfl) (fun _ _ _ h => h) (Or.inl ⟨by rfl, ?_⟩) (by assumption) ?_
  rotate_left
  · (intro w hSw; (try dsimp only at hSw); go_simp; try with_reducible rfl)
  ((try simp only [Act.put]); (try simp only [List.setIfInBounds_toArray]); (try simp only [List.set_cons_succ]); (try simp only [List.set_cons_zero]))
  refine wpAnyH_ready (rs := [8]) (by kernel_rfl) (by simp) ?_
  refine AllReadyH.cons (o := { dst := some 29, op := Op.call { callee := Callee.value (Operand.func 29), args := #[Operand.tmp 24, Operand.tmp 28], argTypes := #[3, 55] }, type := 32, pos := "law.go:130", after := #[{ on := 3, ground := Ground.data }, { on := 7, ground := Ground.data }], guard := none }) rfl (fun K hK => ?_) AllReadyH.nil
  go_simp
  refine (rstamp_at (z := (e.n : Int)) (V1.out.s.below (Hid.out hHeld.2.2)) (L := L) (by rw [if_pos ok.out.S]; exact HL.out)).mono ?_
  rintro x w2 ⟨a, cap, rfl, hs2, hb, hf2⟩
  have X2 := Lib.hid (And.intro hs2 (And.intro ((Hid.out hHeld.2.2).trans (hb.mono (Hid.out hHeld.2.2).size)) (fun ad e => Nat.le_trans (Hid.out hHeld.2.2).size (hf2 ad e))))
  clear hs2 hf2
  try go_wp2_with fail
  refine hK.out _ _ ?_ (fun hNew => ?_)
  · first | exact hHeld | exact ⟨cell_go hHeld.1 hb, cell_go hHeld.2.1 hb, Lib.hid ((Hid.out hHeld.2.2).trans (hb.mono (Hid.out hHeld.2.2).size))⟩
  clear hK K
  replace hHeld := hNew
  clear hNew
  ((try simp only [Act.put]); (try simp only [List.setIfInBounds_toArray]); (try simp only [List.set_cons_succ]); (try simp only [List.set_cons_zero]))
  refine wpAnyH_take (i := 9) (oi := { dst := some 6, op := Op.assign (Operand.tmp 29), type := 32, pos := "law.go:130", after := #[{ on := 8, ground := Ground.data }, { on := 8, ground := Ground.chain }, { on := 0, ground := Ground.phase }, { on := 1, ground := Ground.phase }, { on := 2, ground := Ground.phase }, { on := 3, ground := Ground.phase }, { on := 4, ground := Ground.phase }, { on := 5, ground := Ground.phase }, { on := 6, ground := Ground.phase }, { on := 7, ground := Ground.phase }, { on := 8, ground := Ground.phase }], guard := none }) (v := ?_) rfl (by kernel_rfl) (by kernel_rfl) (by kernel_rfl) (fun _ _ _ h => h) (Or.inl ⟨by rfl, ?_⟩) (by assumption) ?_
  rotate_left
  · (intro w hSw; (try dsimp only at hSw); go_simp; try with_reducible rfl)
  ((try simp only [Act.put]); (try simp only [List.setIfInBounds_toArray]); (try simp only [List.set_cons_succ]); (try simp only [List.set_cons_zero]))
  refine wpAnyH_done (by kernel_rfl) ?_ _
  refine NoPanic.normal ?_
  skip
  clear hHeld a0 a2
  have V2 := Lib.hid (V1.out.keep (Keep.ofBelow (F := fun _ => False) X2.out.2.1) (fun _ _ => id))
  have b0 : w2.cell? ⟨q, 0, none⟩ = some (.int .i64 e.n) := V2.out.c.c 0 (by decide)
  have b1 : w2.cell? ⟨q, 1, none⟩ = some (.int .i64 e.me) := V2.out.c.c 1 (by decide)
  have b2 : w2.cell? ⟨q, 2, none⟩ = some (.slice sa e.n sc) := V2.out.c.c 2 (by decide)
  go_upto_region 3 with fail
  refine wp_region_noPanic ?_
  refine wp_region_z (S := (fun w' => w'.cell? ⟨q, 0, none⟩ = some (.int .i64 e.n) ∧ w'.cell? ⟨q, 1, none⟩ = some (.int .i64 e.me) ∧ w'.cell? ⟨q, 2, none⟩ = some (.slice sa e.n sc) ∧ Hid (Below w2.heap.size w2 w'))) (z := 17) (by kernel_rfl) ?_ (fun hHeld => ?_)
  · exact ⟨b0, b1, b2, Lib.hid (drew_below w2)⟩
  refine anyZ_take (i := 0) (oi := { dst := some 30, op := Op.move (Operand.tmp 0), type := 48, pos := "law.go:131", after := #[], guard := none }) (v := ?_) rfl (by kernel_rfl) (by kernel_rfl) (by kernel_rfl) (by kernel_rfl) (fun _ _ _ h => h) (Or.inl ⟨by rfl, ?_⟩) (by assumption) ?_
  rotate_left
  · (intro w hSw; (try dsimp only at hSw); go_simp; try with_reducible rfl)
  ((try simp only [Act.put]); (try simp only [List.setIfInBounds_toArray]); (try simp only [List.set_cons_succ]); (try simp only [List.set_cons_zero]))
  refine anyZ_take (i := 1) (oi := { dst := some 31, op := Op.move (Operand.tmp 0), type := 48, pos := "law.go:131", after := #[], guard := none }) (v := ?_) rfl (by kernel_rfl) (by kernel_rfl) (by kernel_rfl) (by kernel_rfl) (fun _ _ _ h => h) (Or.inl ⟨by rfl, ?_⟩) (by assumption) ?_
  rotate_left
  · (intro w hSw; (try dsimp only at hSw); go_simp; try with_reducible rfl)
  ((try simp only [Act.put]); (try simp only [List.setIfInBounds_toArray]); (try simp only [List.set_cons_succ]); (try simp only [List.set_cons_zero]))
  refine anyZ_take (i := 2) (oi := { dst := some 32, op := Op.nilCheck (Operand.tmp 31), type := 0, pos := "law.go:131", after := #[{ on := 1, ground := Ground.data }], guard := none }) (v := ?_) rfl (by kernel_rfl) (by kernel_rfl) (by kernel_rfl) (by kernel_rfl) (fun _ _ _ h => h) (Or.inl ⟨by rfl, ?_⟩) (by assumption) ?_
  rotate_left
  · (intro w hSw; (try dsimp only at hSw); go_simp; try with_reducible rfl)
  ((try simp only [Act.put]); (try simp only [List.setIfInBounds_toArray]); (try simp only [List.set_cons_succ]); (try simp only [List.set_cons_zero]))
  refine anyZ_take (i := 3) (oi := { dst := some 33, op := Op.fieldAddr 57 (Operand.tmp 32) 0, type := 0, pos := "law.go:131", after := #[{ on := 2, ground := Ground.data }], guard := none }) (v := ?_) rfl (by kernel_rfl) (by kernel_rfl) (by kernel_rfl) (by kernel_rfl) (fun _ _ _ h => h) (Or.inl ⟨by rfl, ?_⟩) (by assumption) ?_
  rotate_left
  · (intro w hSw; (try dsimp only at hSw); go_simp; try with_reducible rfl)
  ((try simp only [Act.put]); (try simp only [List.setIfInBounds_toArray]); (try simp only [List.set_cons_succ]); (try simp only [List.set_cons_zero]))
  refine anyZ_take (i := 4) (oi := { dst := some 34, op := Op.load 3 (Operand.tmp 33), type := 3, pos := "law.go:131", after := #[{ on := 3, ground := Ground.data }], guard := none }) (v := ?_) rfl (by kernel_rfl) (by kernel_rfl) (by kernel_rfl) (by kernel_rfl) (fun _ _ _ h => h) (Or.inl ⟨by rfl, ?_⟩) (by assumption) ?_
  rotate_left
  · (intro w hSw; (try dsimp only at hSw); go_simp; try with_reducible rfl)
  ((try simp only [Act.put]); (try simp only [List.setIfInBounds_toArray]); (try simp only [List.set_cons_succ]); (try simp only [List.set_cons_zero]))
  refine anyZ_take (i := 5) (oi := { dst := some 35, op := Op.move (Operand.tmp 0), type := 48, pos := "law.go:131", after := #[], guard := none }) (v := ?_) rfl (by kernel_rfl) (by kernel_rfl) (by kernel_rfl) (by kernel_rfl) (fun _ _ _ h => h) (Or.inl ⟨by rfl, ?_⟩) (by assumption) ?_
  rotate_left
  · (intro w hSw; (try dsimp only at hSw); go_simp; try with_reducible rfl)
  ((try simp only [Act.put]); (try simp only [List.setIfInBounds_toArray]); (try simp only [List.set_cons_succ]); (try simp only [List.set_cons_zero]))
  refine anyZ_take (i := 6) (oi := { dst := some 36, op := Op.nilCheck (Operand.tmp 35), type := 0, pos := "law.go:131", after := #[{ on := 5, ground := Ground.data }], guard := none }) (v := ?_) rfl (by kernel_rfl) (by kernel_rfl) (by kernel_rfl) (by kernel_rfl) (fun _ _ _ h => h) (Or.inl ⟨by rfl, ?_⟩) (by assumption) ?_
  rotate_left
  · (intro w hSw; (try dsimp only at hSw); go_simp; try with_reducible rfl)
  ((try simp only [Act.put]); (try simp only [List.setIfInBounds_toArray]); (try simp only [List.set_cons_succ]); (try simp only [List.set_cons_zero]))
  refine anyZ_take (i := 7) (oi := { dst := some 37, op := Op.fieldAddr 57 (Operand.tmp 36) 2, type := 0, pos := "law.go:131", after := #[{ on := 6, ground := Ground.data }], guard := none }) (v := ?_) rfl (by kernel_rfl) (by kernel_rfl) (by kernel_rfl) (by kernel_rfl) (fun _ _ _ h => h) (Or.inl ⟨by rfl, ?_⟩) (by assumption) ?_
  rotate_left
  · (intro w hSw; (try dsimp only at hSw); go_simp; try with_reducible rfl)
  ((try simp only [Act.put]); (try simp only [List.setIfInBounds_toArray]); (try simp only [List.set_cons_succ]); (try simp only [List.set_cons_zero]))
  refine anyZ_take (i := 8) (oi := { dst := some 38, op := Op.load 55 (Operand.tmp 37), type := 55, pos := "law.go:131", after := #[{ on := 7, ground := Ground.data }], guard := none }) (v := ?_) rfl (by kernel_rfl) (by kernel_rfl) (by kernel_rfl) (by kernel_rfl) (fun _ _ _ h => h) (Or.inl ⟨by rfl, ?_⟩) (by assumption) ?_
  rotate_left
  · (intro w hSw; (try dsimp only at hSw); go_simp; try with_reducible rfl)
  ((try simp only [Act.put]); (try simp only [List.setIfInBounds_toArray]); (try simp only [List.set_cons_succ]); (try simp only [List.set_cons_zero]))
  refine anyZ_take (i := 9) (oi := { dst := some 39, op := Op.move (Operand.tmp 0), type := 48, pos := "law.go:131", after := #[], guard := none }) (v := ?_) rfl (by kernel_rfl) (by kernel_rfl) (by kernel_rfl) (by kernel_rfl) (fun _ _ _ h => h) (Or.inl ⟨by rfl, ?_⟩) (by assumption) ?_
  rotate_left
  · (intro w hSw; (try dsimp only at hSw); go_simp; try with_reducible rfl)
  ((try simp only [Act.put]); (try simp only [List.setIfInBounds_toArray]); (try simp only [List.set_cons_succ]); (try simp only [List.set_cons_zero]))
  refine anyZ_take (i := 10) (oi := { dst := some 40, op := Op.nilCheck (Operand.tmp 39), type := 0, pos := "law.go:131", after := #[{ on := 9, ground := Ground.data }], guard := none }) (v := ?_) rfl (by kernel_rfl) (by kernel_rfl) (by kernel_rfl) (by kernel_rfl) (fun _ _ _ h => h) (Or.inl ⟨by rfl, ?_⟩) (by assumption) ?_
  rotate_left
  · (intro w hSw; (try dsimp only at hSw); go_simp; try with_reducible rfl)
  ((try simp only [Act.put]); (try simp only [List.setIfInBounds_toArray]); (try simp only [List.set_cons_succ]); (try simp only [List.set_cons_zero]))
  refine anyZ_take (i := 11) (oi := { dst := some 41, op := Op.fieldAddr 57 (Operand.tmp 40) 1, type := 0, pos := "law.go:131", after := #[{ on := 10, ground := Ground.data }], guard := none }) (v := ?_) rfl (by kernel_rfl) (by kernel_rfl) (by kernel_rfl) (by kernel_rfl) (fun _ _ _ h => h) (Or.inl ⟨by rfl, ?_⟩) (by assumption) ?_
  rotate_left
  · (intro w hSw; (try dsimp only at hSw); go_simp; try with_reducible rfl)
  ((try simp only [Act.put]); (try simp only [List.setIfInBounds_toArray]); (try simp only [List.set_cons_succ]); (try simp only [List.set_cons_zero]))
  refine anyZ_take (i := 12) (oi := { dst := some 42, op := Op.load 3 (Operand.tmp 41), type := 3, pos := "law.go:131", after := #[{ on := 11, ground := Ground.data }], guard := none }) (v := ?_) rfl (by kernel_rfl) (by kernel_rfl) (by kernel_rfl) (by kernel_rfl) (fun _ _ _ h => h) (Or.inl ⟨by rfl, ?_⟩) (by assumption) ?_
  rotate_left
  · (intro w hSw; (try dsimp only at hSw); go_simp; try with_reducible rfl)
  ((try simp only [Act.put]); (try simp only [List.setIfInBounds_toArray]); (try simp only [List.set_cons_succ]); (try simp only [List.set_cons_zero]))
  refine anyZ_take (i := 13) (oi := { dst := some 43, op := Op.move (Operand.tmp 1), type := 29, pos := "law.go:131", after := #[], guard := none }) (v := ?_) rfl (by kernel_rfl) (by kernel_rfl) (by kernel_rfl) (by kernel_rfl) (fun _ _ _ h => h) (Or.inl ⟨by rfl, ?_⟩) (by assumption) ?_
  rotate_left
  · (intro w hSw; (try dsimp only at hSw); go_simp; try with_reducible rfl)
  ((try simp only [Act.put]); (try simp only [List.setIfInBounds_toArray]); (try simp only [List.set_cons_succ]); (try simp only [List.set_cons_zero]))
  refine anyZ_ready (rs := [14]) (by kernel_rfl) (by simp) ?_
  refine AllZ.cons (o := { dst := some 44, op := Op.call { callee := Callee.value (Operand.func 54), args := #[Operand.tmp 34, Operand.tmp 38, Operand.tmp 42, Operand.tmp 43], argTypes := #[3, 55, 3, 29] }, type := 55, pos := "law.go:131", after := #[{ on := 4, ground := Ground.data }, { on := 8, ground := Ground.data }, { on := 12, ground := Ground.data }, { on := 13, ground := Ground.data }], guard := none }) rfl (fun K hK => ?_) AllZ.nil
  go_simp
  refine (rupm_at (z := (e.n : Int)) (i := (e.me : Int)) (V2.out.s.below (Hid.out hHeld.2.2.2)) (good_light ok.out.S) TL.out).mono ?_
  rintro x w3 ⟨a3, c3, rfl, h3⟩
  have hb := h3.2
  have h4 : SqR (fun _ => False) w2 e.n (upM (e.n : Int) e.S (e.me : Int) tt) a3 c3 w3 := ⟨h3.1.mono (fun k _ hk => hk.elim (fun h => h.elim) (fun h => Or.inr (Nat.le_trans (Hid.out hHeld.2.2.2).size h))), (Hid.out hHeld.2.2.2).trans (h3.2.mono (Hid.out hHeld.2.2.2).size)⟩
  obtain ⟨d2, f2, N2, K2⟩ := V2.out.setS h4 (by have := OK2.out; rw [HS.out] at this; exact this)
  have N3 := Lib.hid N2
  have K3 := Lib.hid K2
  have B3 := Lib.hid h4.2
  clear h3 h4 N2 K2
  refine hK.out _ _ ?_ (fun hNew => ?_)
  · first | exact hHeld | exact ⟨cell_go hHeld.1 hb, cell_go hHeld.2.1 hb, cell_go hHeld.2.2.1 hb, Lib.hid ((Hid.out hHeld.2.2.2).trans (hb.mono (Hid.out hHeld.2.2.2).size))⟩
  clear hK K
  replace hHeld := hNew
  clear hNew
  ((try simp only [Act.put]); (try simp only [List.setIfInBounds_toArray]); (try simp only [List.set_cons_succ]); (try simp only [List.set_cons_zero]))
  refine anyZ_ready (rs := [15]) (by kernel_rfl) (by simp) ?_
  refine AllZ.cons (o := { dst := some 45, op := Op.nilCheck (Operand.tmp 30), type := 0, pos := "law.go:131", after := #[{ on := 0, ground := Ground.data }, { on := 0, ground := Ground.phase }, { on := 1, ground := Ground.phase }, { on := 2, ground := Ground.phase }, { on := 3, ground := Ground.phase }, { on := 4, ground := Ground.phase }, { on := 5, ground := Ground.phase }, { on := 6, ground := Ground.phase }, { on := 7, ground := Ground.phase }, { on := 8, ground := Ground.phase }, { on := 9, ground := Ground.phase }, { on := 10, ground := Ground.phase }, { on := 11, ground := Ground.phase }, { on := 12, ground := Ground.phase }, { on := 13, ground := Ground.phase }, { on := 14, ground := Ground.phase }], guard := none }) rfl (fun K hK => ?_) AllZ.nil
  go_simp
  refine hK.out _ _ ?_ (fun hNew => ?_)
  · first | exact hHeld | exact ⟨cell_go hHeld.1 hb, cell_go hHeld.2.1 hb, cell_go hHeld.2.2.1 hb, Lib.hid ((Hid.out hHeld.2.2.2).trans (hb.mono (Hid.out hHeld.2.2.2).size))⟩
  clear hK K
  replace hHeld := hNew
  clear hNew
  ((try simp only [Act.put]); (try simp only [List.setIfInBounds_toArray]); (try simp only [List.set_cons_succ]); (try simp only [List.set_cons_zero]))
  refine anyZ_take (i := 16) (oi := { dst := some 46, op := Op.fieldAddr 57 (Operand.tmp 45) 2, type := 0, pos := "law.go:131", after := #[{ on := 15, ground := Ground.data }, { on := 0, ground := Ground.phase }, { on := 1, ground := Ground.phase }, { on := 2, ground := Ground.phase }, { on := 3, ground := Ground.phase }, { on := 4, ground := Ground.phase }, { on := 5, ground := Ground.phase }, { on := 6, ground := Ground.phase }, { on := 7, ground := Ground.phase }, { on := 8, ground := Ground.phase }, { on := 9, ground := Ground.phase }, { on := 10, ground := Ground.phase }, { on := 11, ground := Ground.phase }, { on := 12, ground := Ground.phase }, { on := 13, ground := Ground.phase }, { on := 14, ground := Ground.phase }], guard := none }) (v := ?_) rfl (by kernel_rfl) (by kernel_rfl) (by kernel_rfl) (by kernel_rfl) (fun _ _ _ h => h) (Or.inl ⟨by rfl, ?_⟩) (by assumption) ?_
  rotate_left
  · (intro w hSw; (try dsimp only at hSw); go_simp; try with_reducible rfl)
  ((try simp only [Act.put]); (try simp only [List.setIfInBounds_toArray]); (try simp only [List.set_cons_succ]); (try simp only [List.set_cons_zero]))
  refine anyZ_ready (rs := [17]) (by kernel_rfl) (by simp) ?_
  refine AllZ.last (o := { dst := none, op := Op.store 55 (Operand.tmp 46) (Operand.tmp 44), type := 0, pos := "law.go:131", after := #[{ on := 16, ground := Ground.data }, { on := 14, ground := Ground.data }, { on := 14, ground := Ground.chain }, { on := 0, ground := Ground.phase }, { on := 1, ground := Ground.phase }, { on := 2, ground := Ground.phase }, { on := 3, ground := Ground.phase }, { on := 4, ground := Ground.phase }, { on := 5, ground := Ground.phase }, { on := 6, ground := Ground.phase }, { on := 7, ground := Ground.phase }, { on := 8, ground := Ground.phase }, { on := 9, ground := Ground.phase }, { on := 10, ground := Ground.phase }, { on := 11, ground := Ground.phase }, { on := 12, ground := Ground.phase }, { on := 13, ground := Ground.phase }, { on := 14, ground := Ground.phase }], guard := none }) rfl (fun K hK => ?_)
  go_simp
  refine hK.out _ _ ?_
  clear hK K
  ((try simp only [Act.put]); (try simp only [List.setIfInBounds_toArray]); (try simp only [List.set_cons_succ]); (try simp only [List.set_cons_zero]))
  refine anyZ_done (by kernel_rfl) ?_ _
  refine NoPanic.normal ?_
  skip
  clear hHeld b0 b1 b2 d2 f2
  have S4 := Lib.hid (show SlAt bV 256 (w3.setCell ⟨q, 2, none⟩ (.slice a3 e.n c3)) a cap L from
    (X2.out.1.below B3.out).carry (by simp [World.setCell]) (fun ad e9 hne _ => Below.heap_setCell _ _ _ _ (by
      have h1 := X2.out.2.2 ad e9
      have h2 := V1.out.low q V1.out.q
      show ad.block ≠ q
      omega)))
  have FN := Lib.hid (show ∀ ad, a = some ad → L ≠ [] → w.heap.size ≤ ad.block ∧ ¬ (F ad.block ∨ (w2.heap.size ≤ ad.block ∧ ad.block < w3.heap.size)) from fun ad e9 hne => by
    have h1 := X2.out.2.2 ad e9
    have h3 := SZ1.out
    obtain ⟨b, off, e8, hl, -⟩ := X2.out.1.at (i := 0) (List.length_pos_iff.2 hne)
    rw [e9] at e8
    cases e8
    refine ⟨by rw [← h3]; exact h1, fun h => ?_⟩
    have h1' : w1.heap.size ≤ b := h1
    rcases h with h | h
    · have h4 : b < w1.heap.size := V1.out.low _ h
      omega
    · have h5 : w2.heap.size ≤ b := h.1
      omega)
  have KF := Lib.hid (show Keep F w (w3.setCell ⟨q, 2, none⟩ (.slice a3 e.n c3)) from
    ((Keep.ofBelow (F := F) B1.out).trans (Keep.ofBelow (F := F) (X2.out.2.1)) (fun _ _ h => h)).trans K3.out (fun _ _ h => h))
  have GR := Lib.hid (show ∀ k, (F k ∨ (w2.heap.size ≤ k ∧ k < w3.heap.size)) → F k ∨ w.heap.size ≤ k from fun k h => h.elim Or.inl (fun h => Or.inr (by have := X2.out.2.1.size; have := SZ1.out; omega)))
  generalize w3.setCell ⟨q, 2, none⟩ (.slice a3 e.n c3) = w4 at *
  have CL := Lib.hid (rlist_own tt w4 TL.out)
  go_wp2_with (go_at_call 55; refine CL.out.mono ?_; rintro x w5 ⟨la, lc, rfl, -, hb5⟩; have B5 := Lib.hid hb5; clear hb5)
  go_ret2
  refine ⟨a, cap, _, by rw [← HC.out]; rfl, S4.out.below B5.out, ?_, KF.out.trans (Keep.ofBelow (F := F) B5.out) (fun _ _ h => h), GR.out, FN.out⟩
  rw [HS.out]
  exact DeAt.below ⟨_, _, _, _, N3.out⟩ B5.out


/-- What a take leaves. -/
def DtPost (w : World) (F : Nat → Prop) (q : Nat) (e : En) (r : Bool) (x : Ending) (w' : World) : Prop :=
  ∃ F', x = .returned (.bool r) ∧ DeAt w' F' q e ∧ Keep F w w' ∧ ∀ k, F' k → F k ∨ w.heap.size ≤ k

set_option maxRecDepth 20000 in
set_option maxHeartbeats 8000000 in
theorem dtake_at {w : World} {F : Nat → Prop} {q : Nat} {e : En} {f : Int} {tt : Nat} {ao : Option Addr} {cap len : Nat} {bs : List Nat} (h : DeAt w F q e) (hto : tt < 18446744073709551616) (hs : SlAt bV 256 w ao cap bs) (hlen : bs.length = len) {r : Bool} (hr : canE e f bs = r) :
    Calls Try.prog 22 #[.pointer (some ⟨q, 0, none⟩), .int .i64 f, .int .u64 (tt : Int), .slice ao len cap] w (DtPost w F q (takeE e f tt bs) r) := by
  have CC := Lib.hid (dcan_at h hs hlen hr)
  have D := Lib.hid h
  have S := Lib.hid hs
  have HN := Lib.hid hlen
  have HR := Lib.hid hr
  have TL := Lib.hid hto
  clear h hs hlen hr hto
  go_enter Try.func22, Try.ntmps22
  go_wp2_with fail
  refine CC.out.mono ?_
  rintro x w1 ⟨rfl, hb1⟩
  clear CC
  cases r
  · have R := Lib.hid (show DeAt w1 F q (takeE e f tt bs) from by rw [takeE_no HR.out]; exact D.out.below hb1)
    have K := Lib.hid (show Keep F w w1 from Keep.ofBelow hb1)
    clear hb1
    go_wp2_with fail
    go_ret
    exact ⟨F, rfl, R.out, K.out, fun _ h => Or.inl h⟩
  · obtain ⟨m, hm, hf0, hf1, hf2, -⟩ := canE_is HR.out
    obtain ⟨sa, sc, ga, gc, hV⟩ := D.out.below hb1
    have V1 := Lib.hid hV
    have ok := Lib.hid hV.ok
    have K1 := Lib.hid (show Keep F w w1 from Keep.ofBelow hb1)
    have B1 := Lib.hid hb1.size
    have CR := Lib.hid (rread_at (S.out.below hb1) HN.out hm)
    have GM := Lib.hid (readM_good hm)
    have GU := Lib.hid (upM_good (i := f) (t := tt) GM.out.1 GM.out.2)
    have HT := Lib.hid (takeE_yes (t := tt) HR.out hm)
    have OKT := Lib.hid (takeE_ok ok.out f tt bs)
    rw [HT.out] at OKT
    have c0 : w1.cell? ⟨q, 0, none⟩ = some (.int .i64 e.n) := hV.c.c 0 (by decide)
    obtain ⟨j, rfl⟩ : ∃ j : Nat, f = j := ⟨f.toNat, by omega⟩
    have LU := Lib.hid (show (upR e.G (j : Int)).length = e.n from (upR_same (by rw [ok.out.G]; omega)).trans ok.out.G)
    have MN := Lib.hid (show m.length = e.n from by obtain ⟨n, e9, -, -, h3, -⟩ := goodM_is GM.out.1; omega)
    have en16 := ok.out.n2
    clear hV hb1 hf0 hf1 hf2 hm
    go_wp2_with fail
    refine CR.out.mono ?_
    rintro x w2 ⟨ma, mc, rfl, hS2, hb2⟩
    rw [MN.out] at hS2 ⊢
    have V2 := Lib.hid (V1.out.keep (Keep.ofBelow (F := fun _ => False) hb2) (fun _ _ => id))
    have M2 := Lib.hid hS2
    have K2 := Lib.hid (K1.out.trans (Keep.ofBelow (F := F) hb2) (fun _ _ h => h))
    have B2 := Lib.hid (Nat.le_trans B1.out hb2.size)
    clear hS2 hb2 c0 CR
    have d3 : w2.cell? ⟨q, 3, none⟩ = some (.slice ga e.n gc) := V2.out.c.c 3 (by decide)
    have CU := Lib.hid (rup_any (z := (j : Int)) V2.out.g ok.out.G (by omega) rfl rfl)
    go_wp2_with fail
    refine CU.out.mono ?_
    rintro x w4 ⟨a4, c4, rfl, hs4, hb4, hf4, -⟩
    rw [LU.out]
    have OKG : ({ e with G := upR e.G (j : Int) } : En).ok := ⟨ok.out.n1, ok.out.n2, ok.out.me, ok.out.S, ok.out.lt, LU.out, upR_lt ok.out.gt⟩
    obtain ⟨e3, f3, N4, K4⟩ := V2.out.setG hs4 hb4 hf4 OKG
    have V5 := Lib.hid N4
    have K5 := Lib.hid (K2.out.trans K4 (fun _ _ h => h))
    have M5 := Lib.hid (show SqAt (fun k => NewA w1 (fun _ => False) k) (w4.setCell ⟨q, 3, none⟩ (.slice a4 e.n c4)) ma mc e.n m from
      (M2.out.below hb4).put (fun h => h.elim (fun h => h.elim) (fun h => by have := V1.out.low q V1.out.q; omega)) 3 _)
    have SZ4 := Lib.hid (show w2.heap.size ≤ w4.heap.size ∧ (w4.setCell ⟨q, 3, none⟩ (.slice a4 e.n c4)).heap.size = w4.heap.size from ⟨hb4.size, by simp [World.setCell]⟩)
    clear N4 K4 OKG hs4 hb4 hf4 d3 CU
    generalize hmu : mayUp e.G (j : Int) = mu at *
    clear hmu
    go_upto_region 5 with fail
    generalize hw5 : w4.setCell ⟨q, 3, none⟩ (.slice a4 e.n c4) = w5 at *
    clear hw5 e3 f3
    generalize upR e.G (j : Int) = G' at *
    have b0 : w5.cell? ⟨q, 0, none⟩ = some (.int .i64 e.n) := V5.out.c.c 0 (by decide)
    have b2 : w5.cell? ⟨q, 2, none⟩ = some (.slice sa e.n sc) := V5.out.c.c 2 (by decide)
    have OK5 := OKT
    refine wp_region_noPanic ?_
    refine wp_region_z (S := (fun w' => w'.cell? ⟨q, 0, none⟩ = some (.int .i64 e.n) ∧ w'.cell? ⟨q, 2, none⟩ = some (.slice sa e.n sc) ∧ Hid (Below w5.heap.size w5 w'))) (z := 16) (by kernel_rfl) ?_ (fun hHeld => ?_)
    · exact ⟨b0, b2, Lib.hid (drew_below w5)⟩
    refine anyZ_take (i := 0) (oi := { dst := some 37, op := Op.move (Operand.tmp 0), type := 48, pos := "law.go:154", after := #[], guard := none }) (v := ?_) rfl (by kernel_rfl) (by kernel_rfl) (by kernel_rfl) (by kernel_rfl) (fun _ _ _ h => h) (Or.inl ⟨by rfl, ?_⟩) (by assumption) ?_
    rotate_left
    · (intro w hSw; (try dsimp only at hSw); go_simp; try with_reducible rfl)
    ((try simp only [Act.put]); (try simp only [List.setIfInBounds_toArray]); (try simp only [List.set_cons_succ]); (try simp only [List.set_cons_zero]))
    refine anyZ_take (i := 1) (oi := { dst := some 38, op := Op.move (Operand.tmp 0), type := 48, pos := "law.go:154", after := #[], guard := none }) (v := ?_) rfl (by kernel_rfl) (by kernel_rfl) (by kernel_rfl) (by kernel_rfl) (fun _ _ _ h => h) (Or.inl ⟨by rfl, ?_⟩) (by assumption) ?_
    rotate_left
    · (intro w hSw; (try dsimp only at hSw); go_simp; try with_reducible rfl)
    ((try simp only [Act.put]); (try simp only [List.setIfInBounds_toArray]); (try simp only [List.set_cons_succ]); (try simp only [List.set_cons_zero]))
    refine anyZ_take (i := 2) (oi := { dst := some 39, op := Op.nilCheck (Operand.tmp 38), type := 0, pos := "law.go:154", after := #[{ on := 1, ground := Ground.data }], guard := none }) (v := ?_) rfl (by kernel_rfl) (by kernel_rfl) (by kernel_rfl) (by kernel_rfl) (fun _ _ _ h => h) (Or.inl ⟨by rfl, ?_⟩) (by assumption) ?_
    rotate_left
    · (intro w hSw; (try dsimp only at hSw); go_simp; try with_reducible rfl)
    ((try simp only [Act.put]); (try simp only [List.setIfInBounds_toArray]); (try simp only [List.set_cons_succ]); (try simp only [List.set_cons_zero]))
    refine anyZ_take (i := 3) (oi := { dst := some 40, op := Op.fieldAddr 57 (Operand.tmp 39) 2, type := 0, pos := "law.go:154", after := #[{ on := 2, ground := Ground.data }], guard := none }) (v := ?_) rfl (by kernel_rfl) (by kernel_rfl) (by kernel_rfl) (by kernel_rfl) (fun _ _ _ h => h) (Or.inl ⟨by rfl, ?_⟩) (by assumption) ?_
    rotate_left
    · (intro w hSw; (try dsimp only at hSw); go_simp; try with_reducible rfl)
    ((try simp only [Act.put]); (try simp only [List.setIfInBounds_toArray]); (try simp only [List.set_cons_succ]); (try simp only [List.set_cons_zero]))
    refine anyZ_take (i := 4) (oi := { dst := some 41, op := Op.load 55 (Operand.tmp 40), type := 55, pos := "law.go:154", after := #[{ on := 3, ground := Ground.data }], guard := none }) (v := ?_) rfl (by kernel_rfl) (by kernel_rfl) (by kernel_rfl) (by kernel_rfl) (fun _ _ _ h => h) (Or.inl ⟨by rfl, ?_⟩) (by assumption) ?_
    rotate_left
    · (intro w hSw; (try dsimp only at hSw); go_simp; try with_reducible rfl)
    ((try simp only [Act.put]); (try simp only [List.setIfInBounds_toArray]); (try simp only [List.set_cons_succ]); (try simp only [List.set_cons_zero]))
    refine anyZ_take (i := 5) (oi := { dst := some 42, op := Op.move (Operand.tmp 0), type := 48, pos := "law.go:154", after := #[], guard := none }) (v := ?_) rfl (by kernel_rfl) (by kernel_rfl) (by kernel_rfl) (by kernel_rfl) (fun _ _ _ h => h) (Or.inl ⟨by rfl, ?_⟩) (by assumption) ?_
    rotate_left
    · (intro w hSw; (try dsimp only at hSw); go_simp; try with_reducible rfl)
    ((try simp only [Act.put]); (try simp only [List.setIfInBounds_toArray]); (try simp only [List.set_cons_succ]); (try simp only [List.set_cons_zero]))
    refine anyZ_take (i := 6) (oi := { dst := some 43, op := Op.nilCheck (Operand.tmp 42), type := 0, pos := "law.go:154", after := #[{ on := 5, ground := Ground.data }], guard := none }) (v := ?_) rfl (by kernel_rfl) (by kernel_rfl) (by kernel_rfl) (by kernel_rfl) (fun _ _ _ h => h) (Or.inl ⟨by rfl, ?_⟩) (by assumption) ?_
    rotate_left
    · (intro w hSw; (try dsimp only at hSw); go_simp; try with_reducible rfl)
    ((try simp only [Act.put]); (try simp only [List.setIfInBounds_toArray]); (try simp only [List.set_cons_succ]); (try simp only [List.set_cons_zero]))
    refine anyZ_take (i := 7) (oi := { dst := some 44, op := Op.fieldAddr 57 (Operand.tmp 43) 0, type := 0, pos := "law.go:154", after := #[{ on := 6, ground := Ground.data }], guard := none }) (v := ?_) rfl (by kernel_rfl) (by kernel_rfl) (by kernel_rfl) (by kernel_rfl) (fun _ _ _ h => h) (Or.inl ⟨by rfl, ?_⟩) (by assumption) ?_
    rotate_left
    · (intro w hSw; (try dsimp only at hSw); go_simp; try with_reducible rfl)
    ((try simp only [Act.put]); (try simp only [List.setIfInBounds_toArray]); (try simp only [List.set_cons_succ]); (try simp only [List.set_cons_zero]))
    refine anyZ_take (i := 8) (oi := { dst := some 45, op := Op.load 3 (Operand.tmp 44), type := 3, pos := "law.go:154", after := #[{ on := 7, ground := Ground.data }], guard := none }) (v := ?_) rfl (by kernel_rfl) (by kernel_rfl) (by kernel_rfl) (by kernel_rfl) (fun _ _ _ h => h) (Or.inl ⟨by rfl, ?_⟩) (by assumption) ?_
    rotate_left
    · (intro w hSw; (try dsimp only at hSw); go_simp; try with_reducible rfl)
    ((try simp only [Act.put]); (try simp only [List.setIfInBounds_toArray]); (try simp only [List.set_cons_succ]); (try simp only [List.set_cons_zero]))
    refine anyZ_take (i := 9) (oi := { dst := some 46, op := Op.move (Operand.tmp 9), type := 55, pos := "law.go:154", after := #[], guard := none }) (v := ?_) rfl (by kernel_rfl) (by kernel_rfl) (by kernel_rfl) (by kernel_rfl) (fun _ _ _ h => h) (Or.inl ⟨by rfl, ?_⟩) (by assumption) ?_
    rotate_left
    · (intro w hSw; (try dsimp only at hSw); go_simp; try with_reducible rfl)
    ((try simp only [Act.put]); (try simp only [List.setIfInBounds_toArray]); (try simp only [List.set_cons_succ]); (try simp only [List.set_cons_zero]))
    refine anyZ_take (i := 10) (oi := { dst := some 47, op := Op.move (Operand.tmp 1), type := 3, pos := "law.go:154", after := #[], guard := none }) (v := ?_) rfl (by kernel_rfl) (by kernel_rfl) (by kernel_rfl) (by kernel_rfl) (fun _ _ _ h => h) (Or.inl ⟨by rfl, ?_⟩) (by assumption) ?_
    rotate_left
    · (intro w hSw; (try dsimp only at hSw); go_simp; try with_reducible rfl)
    ((try simp only [Act.put]); (try simp only [List.setIfInBounds_toArray]); (try simp only [List.set_cons_succ]); (try simp only [List.set_cons_zero]))
    refine anyZ_take (i := 11) (oi := { dst := some 48, op := Op.move (Operand.tmp 2), type := 29, pos := "law.go:154", after := #[], guard := none }) (v := ?_) rfl (by kernel_rfl) (by kernel_rfl) (by kernel_rfl) (by kernel_rfl) (fun _ _ _ h => h) (Or.inl ⟨by rfl, ?_⟩) (by assumption) ?_
    rotate_left
    · (intro w hSw; (try dsimp only at hSw); go_simp; try with_reducible rfl)
    ((try simp only [Act.put]); (try simp only [List.setIfInBounds_toArray]); (try simp only [List.set_cons_succ]); (try simp only [List.set_cons_zero]))
    refine anyZ_ready (rs := [12]) (by kernel_rfl) (by simp) ?_
    refine AllZ.cons (o := { dst := some 49, op := Op.call { callee := Callee.value (Operand.func 54), args := #[Operand.tmp 45, Operand.tmp 46, Operand.tmp 47, Operand.tmp 48], argTypes := #[3, 55, 3, 29] }, type := 55, pos := "law.go:154", after := #[{ on := 8, ground := Ground.data }, { on := 9, ground := Ground.data }, { on := 10, ground := Ground.data }, { on := 11, ground := Ground.data }], guard := none }) rfl (fun K hK => ?_) AllZ.nil
    go_simp
    refine (rupm_at (z := (e.n : Int)) (i := (j : Int)) (M5.out.below (Hid.out hHeld.2.2)) (good_light GM.out.1) TL.out).mono ?_
    rintro x w6 ⟨a6, c6, rfl, h6⟩
    have hb := h6.2
    have U6 := Lib.hid h6.1
    have B6 := Lib.hid ((Hid.out hHeld.2.2).trans (hb.mono (Hid.out hHeld.2.2).size))
    clear h6
    refine hK.out _ _ ?_ (fun hNew => ?_)
    · first | exact hHeld | exact ⟨cell_go hHeld.1 hb, cell_go hHeld.2.1 hb, Lib.hid ((Hid.out hHeld.2.2).trans (hb.mono (Hid.out hHeld.2.2).size))⟩
    clear hK K
    replace hHeld := hNew
    clear hNew
    ((try simp only [Act.put]); (try simp only [List.setIfInBounds_toArray]); (try simp only [List.set_cons_succ]); (try simp only [List.set_cons_zero]))
    refine anyZ_ready (rs := [13]) (by kernel_rfl) (by simp) ?_
    refine AllZ.cons (o := { dst := some 50, op := Op.call { callee := Callee.value (Operand.func 57), args := #[Operand.tmp 41, Operand.tmp 49], argTypes := #[55, 55] }, type := 55, pos := "law.go:154", after := #[{ on := 4, ground := Ground.data }, { on := 12, ground := Ground.data }, { on := 12, ground := Ground.chain }], guard := none }) rfl (fun K hK => ?_) AllZ.nil
    go_simp
    refine (rjoinm_at (V5.out.s.below (Hid.out hHeld.2.2)) U6.out (Nat.le_refl _) (good_light ok.out.S) (good_light GU.out.1)).mono ?_
    rintro x w7 ⟨a7, c7, rfl, h7⟩
    have hb := h7.2
    have h4 : SqR (fun _ => False) w5 e.n (joinM e.S (upM (e.n : Int) m (j : Int) tt)) a7 c7 w7 := ⟨h7.1.mono (fun k _ hk => hk.elim (fun h => h.elim) (fun h => Or.inr (Nat.le_trans (Hid.out hHeld.2.2).size h))), (Hid.out hHeld.2.2).trans (h7.2.mono (Hid.out hHeld.2.2).size)⟩
    obtain ⟨d2, f2, N2, K2⟩ := V5.out.setS h4 OK5.out
    have N7 := Lib.hid N2
    have K7 := Lib.hid K2
    have B7 := Lib.hid h4.2
    clear h7 h4 N2 K2
    refine hK.out _ _ ?_ (fun hNew => ?_)
    · first | exact hHeld | exact ⟨cell_go hHeld.1 hb, cell_go hHeld.2.1 hb, Lib.hid ((Hid.out hHeld.2.2).trans (hb.mono (Hid.out hHeld.2.2).size))⟩
    clear hK K
    replace hHeld := hNew
    clear hNew
    skip
    refine anyZ_ready (rs := [14]) (by kernel_rfl) (by simp) ?_
    refine AllZ.cons (o := { dst := some 51, op := Op.nilCheck (Operand.tmp 37), type := 0, pos := "law.go:154", after := #[{ on := 0, ground := Ground.data }, { on := 0, ground := Ground.phase }, { on := 1, ground := Ground.phase }, { on := 2, ground := Ground.phase }, { on := 3, ground := Ground.phase }, { on := 4, ground := Ground.phase }, { on := 5, ground := Ground.phase }, { on := 6, ground := Ground.phase }, { on := 7, ground := Ground.phase }, { on := 8, ground := Ground.phase }, { on := 9, ground := Ground.phase }, { on := 10, ground := Ground.phase }, { on := 11, ground := Ground.phase }, { on := 12, ground := Ground.phase }, { on := 13, ground := Ground.phase }], guard := none }) rfl (fun K hK => ?_) AllZ.nil
    go_simp
    refine hK.out _ _ ?_ (fun hNew => ?_)
    · first | exact hHeld | exact ⟨cell_go hHeld.1 hb, cell_go hHeld.2.1 hb, Lib.hid ((Hid.out hHeld.2.2).trans (hb.mono (Hid.out hHeld.2.2).size))⟩
    clear hK K
    replace hHeld := hNew
    clear hNew
    ((try simp only [Act.put]); (try simp only [List.setIfInBounds_toArray]); (try simp only [List.set_cons_succ]); (try simp only [List.set_cons_zero]))
    refine anyZ_take (i := 15) (oi := { dst := some 52, op := Op.fieldAddr 57 (Operand.tmp 51) 2, type := 0, pos := "law.go:154", after := #[{ on := 14, ground := Ground.data }, { on := 0, ground := Ground.phase }, { on := 1, ground := Ground.phase }, { on := 2, ground := Ground.phase }, { on := 3, ground := Ground.phase }, { on := 4, ground := Ground.phase }, { on := 5, ground := Ground.phase }, { on := 6, ground := Ground.phase }, { on := 7, ground := Ground.phase }, { on := 8, ground := Ground.phase }, { on := 9, ground := Ground.phase }, { on := 10, ground := Ground.phase }, { on := 11, ground := Ground.phase }, { on := 12, ground := Ground.phase }, { on := 13, ground := Ground.phase }], guard := none }) (v := ?_) rfl (by kernel_rfl) (by kernel_rfl) (by kernel_rfl) (by kernel_rfl) (fun _ _ _ h => h) (Or.inl ⟨by rfl, ?_⟩) (by assumption) ?_
    rotate_left
    · (intro w hSw; (try dsimp only at hSw); go_simp; try with_reducible rfl)
    ((try simp only [Act.put]); (try simp only [List.setIfInBounds_toArray]); (try simp only [List.set_cons_succ]); (try simp only [List.set_cons_zero]))
    refine anyZ_ready (rs := [16]) (by kernel_rfl) (by simp) ?_
    refine AllZ.last (o := { dst := none, op := Op.store 55 (Operand.tmp 52) (Operand.tmp 50), type := 0, pos := "law.go:154", after := #[{ on := 15, ground := Ground.data }, { on := 13, ground := Ground.data }, { on := 13, ground := Ground.chain }, { on := 0, ground := Ground.phase }, { on := 1, ground := Ground.phase }, { on := 2, ground := Ground.phase }, { on := 3, ground := Ground.phase }, { on := 4, ground := Ground.phase }, { on := 5, ground := Ground.phase }, { on := 6, ground := Ground.phase }, { on := 7, ground := Ground.phase }, { on := 8, ground := Ground.phase }, { on := 9, ground := Ground.phase }, { on := 10, ground := Ground.phase }, { on := 11, ground := Ground.phase }, { on := 12, ground := Ground.phase }, { on := 13, ground := Ground.phase }], guard := none }) rfl (fun K hK => ?_)
    go_simp
    refine hK.out _ _ ?_
    clear hK K
    ((try simp only [Act.put]); (try simp only [List.setIfInBounds_toArray]); (try simp only [List.set_cons_succ]); (try simp only [List.set_cons_zero]))
    refine anyZ_done (by kernel_rfl) ?_ _
    refine NoPanic.normal ?_
    skip
    clear hHeld b0 b2 d2 f2
    go_wp2_with fail
    go_ret
    refine ⟨fun k => (F k ∨ (w2.heap.size ≤ k ∧ k < w4.heap.size)) ∨ (w5.heap.size ≤ k ∧ k < w7.heap.size), rfl, ?_, K5.out.trans K7.out (fun i hi h => h.elim id (fun h => by have := B2.out; have := SZ4.out; omega)), fun k h => ?_⟩
    · rw [HT.out]
      exact ⟨_, _, _, _, N7.out⟩
    · have h1 := B2.out
      have h2 := SZ4.out
      rcases h with (h | h) | h
      · exact Or.inl h
      · exact Or.inr (by omega)
      · exact Or.inr (by omega)

end Go.Proofs.Ytopnagjbdjicaaa
