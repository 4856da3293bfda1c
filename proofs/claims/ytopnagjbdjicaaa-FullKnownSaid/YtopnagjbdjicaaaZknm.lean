/-
  FullKnown.
-/
import Derived.Test.YtopnagjbdjicaaaMan
import Derived.Deep.RegionHeld3
import Derived.Deep.Cut
namespace Go.Proofs.Ytopnagjbdjicaaa
open Go.RowKit

def Z9 : List Nat := [0, 0, 0, 0, 0, 0, 0, 0, 0]
def T9 : List Nat := [0, 1, 1, 0, 0, 0, 0, 0, 0]
def Z33 : List (List Nat) := [[0, 0, 0], [0, 0, 0], [0, 0, 0]]
def T33 : List (List Nat) := [[0, 1, 1], [0, 0, 0], [0, 0, 0]]
def P30 : En := ⟨3, 0, Z33, [0, 0, 0]⟩
def P31 : En := ⟨3, 0, T33, [0, 0, 0]⟩
def Q30 : En := ⟨3, 1, Z33, [0, 0, 0]⟩
def Q31 : En := ⟨3, 1, T33, [1, 0, 0]⟩
def Q32 : En := ⟨3, 1, [[0, 1, 1], [0, 0, 1], [0, 0, 0]], [1, 0, 0]⟩
def R30 : En := ⟨3, 2, Z33, [0, 0, 0]⟩
def R31 : En := ⟨3, 2, T33, [1, 0, 0]⟩
theorem en30 : newE 3 0 = P30 ∧ newE 3 1 = Q30 ∧ newE 3 2 = R30 := ⟨rfl, rfl, rfl⟩
theorem st33 : stampL Z33 = Z9 := stampL_small (by decide)
theorem st34 : stampL T33 = T9 := stampL_small (by decide)
theorem rd33 : readM 3 Z9 = some Z33 := by rw [← st33]; exact read_back (z := 3) (m := Z33) (by decide) (by decide)
theorem rd34 : readM 3 T9 = some T33 := by rw [← st34]; exact read_back (z := 3) (m := T33) (by decide) (by decide)
theorem rd30 : readM 3 [] = none := by
  show readM ((3 : Nat) : Int) [] = none
  rw [readM_yes (by decide) (by decide)]
  rfl
theorem rd38 : readM 3 [0, 0, 0, 0, 0, 0, 0, 0] = none := by
  have e1 : matR 3 2 (some [0, 0, 0, 0, 0, 0, 0, 0]) = ([[0, 0, 0], [0, 0, 0]], some [0, 0]) := by
    have h := mat_back (m := [[0, 0, 0], [0, 0, 0]]) (n := 3) (q := [0, 0]) (by decide) (by decide) (k := 2) (by decide)
    rw [stampL_small (m := [[0, 0, 0], [0, 0, 0]]) (by decide)] at h
    exact h
  have e2 : rowR 2 (some [0, 0]) = ([0, 0], some []) := by
    have h := row_back (xs := [0, 0]) (q := []) (by decide) (k := 2) (by decide)
    rw [rowL_small (r := [0, 0]) (by decide)] at h
    exact h
  have e3 : (rowR 3 (some [0, 0])).2 = none := by
    show (numR 18446744073709551615 (rowR 2 (some [0, 0])).2).2 = none
    rw [e2]
    rfl
  have e4 : endR (matR 3 3 (some [0, 0, 0, 0, 0, 0, 0, 0])).2 = false := by
    show endR (rowR 3 (matR 3 2 (some [0, 0, 0, 0, 0, 0, 0, 0])).2).2 = false
    rw [e1]
    show endR (rowR 3 (some [0, 0])).2 = false
    rw [e3]
    rfl
  show readM ((3 : Nat) : Int) [0, 0, 0, 0, 0, 0, 0, 0] = none
  rw [readM_yes (by decide) (by decide), e4]
  rfl
theorem ps31 : sendE P30 6 = P31 := by
  have e : toE 3 0 6 = 6 := by decide
  have u : upM 3 Z33 0 6 = T33 := by decide
  unfold sendE P30 P31
  simp only [e]
  rw [show ((3 : Nat) : Int) = 3 from rfl, show ((0 : Nat) : Int) = 0 from rfl, u]
theorem qs32 : sendE Q31 4 = Q32 := by
  have e : toE 3 1 4 = 4 := by decide
  have u : upM 3 T33 1 4 = [[0, 1, 1], [0, 0, 1], [0, 0, 0]] := by decide
  unfold sendE Q31 Q32
  simp only [e]
  rw [show ((3 : Nat) : Int) = 3 from rfl, show ((1 : Nat) : Int) = 1 from rfl, u]
theorem can_q : canE Q30 0 Z9 = true := by rw [canE_some (e := Q30) rd33]; decide
theorem can_r : canE R30 1 T9 = false := by rw [canE_some (e := R30) rd34]; decide
theorem can_r0 : canE R30 0 Z9 = true := by rw [canE_some (e := R30) rd33]; decide
theorem can_r1 : canE R31 1 T9 = true := by rw [canE_some (e := R31) rd34]; decide
theorem can_r2 : canE R31 2 T9 = false := by rw [canE_some (e := R31) rd34]; decide
theorem can_rn : canE R31 1 [] = false := canE_none (e := R31) rd30
theorem tk_q : takeE Q30 0 6 Z9 = Q31 := by
  rw [takeE_yes can_q rd33]
  have u : upM 3 Z33 0 6 = T33 := by decide
  have j : joinM Z33 T33 = T33 := by decide
  have g : upR [0, 0, 0] 0 = [1, 0, 0] := by decide
  unfold Q30 Q31
  simp only [g]
  rw [show ((3 : Nat) : Int) = 3 from rfl, u, j]
theorem tk_r : takeE R30 0 6 Z9 = R31 := by
  rw [takeE_yes can_r0 rd33]
  have u : upM 3 Z33 0 6 = T33 := by decide
  have j : joinM Z33 T33 = T33 := by decide
  have g : upR [0, 0, 0] 0 = [1, 0, 0] := by decide
  unfold R30 R31
  simp only [g]
  rw [show ((3 : Nat) : Int) = 3 from rfl, u, j]
theorem tk_r0 : takeE R30 1 4 T9 = R30 := takeE_no can_r
theorem ps30 : sendE P31 0 = P31 := by
  have e : toE 3 0 0 = 0 := by decide
  have u : upM 3 T33 0 0 = T33 := by decide
  unfold sendE P31
  simp only [e]
  rw [show ((3 : Nat) : Int) = 3 from rfl, show ((0 : Nat) : Int) = 0 from rfl, u]

theorem of_two {w : World} {b : Nat} (h0 : w.cell? ⟨b, 0, none⟩ = some (.int .i64 1)) (h1 : w.cell? ⟨b, 1, none⟩ = some (.int .i64 2)) :
    Calls Try.prog 11 #[.slice (some ⟨b, 0, none⟩) 2 2] w fun e w' => e = .returned (.int .u64 6) ∧ w = w' :=
  of_end (xs := [1, 2]) ⟨by simp, by unfold maxLen; omega, (fun e => by cases e), fun i hi => ⟨b, 0, rfl, cell_lt h0, by
    rcases (show i = 0 ∨ i = 1 by simp at hi; omega) with rfl | rfl
    · exact h0
    · exact h1⟩⟩ (by intro x hx; simp at hx; rcases hx with rfl | rfl <;> exact ⟨by decide, by decide⟩) rfl (by decide)

/-! What lies deeper. -/
theorem On.rows3 {W w : World} {p q r : Nat} {a b c : En} {R : Thing} {P : Prop} (h : On W (Eng p a (Eng q b (Eng r c R))) w) (f : ∀ A, R A w → P) : P := by
  obtain ⟨A1, -, h1⟩ := eng_in h.2
  obtain ⟨A2, -, h2⟩ := eng_in h1
  obtain ⟨A3, -, h3⟩ := eng_in h2
  exact f _ h3
/-- The second engine first. -/
theorem sw2 {W w : World} {p q r : Nat} {a b c : En} {R : Thing} (hR : Stb R) (h : On W (Eng p a (Eng q b (Eng r c R))) w) : On W (Eng q b (Eng p a (Eng r c R))) w := h.mono (fun _ _ h => eng_swap (stb_eng hR) h)
/-- The third engine first. -/
theorem sw3 {W w : World} {p q r : Nat} {a b c : En} {R : Thing} (hR : Stb R) (h : On W (Eng p a (Eng q b (Eng r c R))) w) : On W (Eng r c (Eng p a (Eng q b R))) w := h.mono (fun _ _ h => eng_swap (stb_eng hR) (eng_drop (fun _ _ h => eng_swap hR h) h))
/-- Rows of bytes, each where it lies. -/
def Rw (a : Option Addr) (cap : Nat) (L : List Rd) (R : Thing) : Thing := fun A w => (SlV w a cap (L.map rdV) ∧ (∀ r ∈ L, SlAt bV 256 w r.a r.c r.l) ∧ (∀ ad, a = some ad → L ≠ [] → A ad.block) ∧ ∀ r ∈ L, ∀ ad, r.a = some ad → r.l ≠ [] → A ad.block) ∧ R A w
theorem stb_rw {a : Option Addr} {cap : Nat} {L : List Rd} {R : Thing} (h : Stb R) : Stb (Rw a cap L R) := fun A A' G w w' hb hk hA hA' => by
  obtain ⟨⟨s, t, x, y⟩, h4⟩ := hb
  refine ⟨⟨s.carry hk.size fun ad ea hne hlt => hk.block _ hlt (hA _ (x ad ea (fun h0 => hne (by rw [h0]; rfl)))), fun r hr => (t r hr).carry hk.size fun ad ea hne hlt => hk.block _ hlt (hA _ (y r hr ad ea hne)), fun ad e hn => hA' _ (x ad e hn), fun r hr ad e hn => hA' _ (y r hr ad e hn)⟩, h A A' G w w' h4 hk hA hA'⟩
theorem On.rw3 {W w : World} {p q r n cap : Nat} {a b c : En} {s : Option Addr} {m : List (List Nat)} {R : Thing} (h : On W (Eng p a (Eng q b (Eng r c (Bq s cap n m R)))) w) : ∃ L, mOf L = m ∧ L.length = n ∧ On W (Eng p a (Eng q b (Eng r c (Rw s cap L R)))) w := by
  obtain ⟨h0, F1, e1, f1, F2, e2, f2, F3, e3, f3, ⟨L, hm, hl, s1, s2, s3, s4⟩, hr⟩ := h
  exact ⟨L, hm, hl, h0, F1, e1, f1, F2, e2, f2, F3, e3, f3, ⟨s1, s2, fun ad e hn => s3 ad e (fun h0 => hn (List.length_eq_zero_iff.1 (hl.trans h0))), s4⟩, hr⟩
theorem rw_at {A : Nat → Prop} {w : World} {a : Option Addr} {cap : Nat} {L : List Rd} {R : Thing} (h : Rw a cap L R A w) {i : Nat} (hi : i < L.length) : ∃ b off, a = some ⟨b, off, none⟩ ∧ w.cell? ⟨b, off + i, none⟩ = some (.slice L[i].a L[i].l.length L[i].c) ∧ SlAt bV 256 w L[i].a L[i].c L[i].l := by
  obtain ⟨⟨s, t, -, -⟩, -⟩ := h
  obtain ⟨b, off, e, -, hc⟩ := s.at (i := i) hi
  exact ⟨b, off, e, hc, t _ (List.getElem_mem hi)⟩
/-- Two rows alike. -/
theorem two_rows {A : Nat → Prop} {w : World} {b off cap : Nat} {a0 a1 : Option Addr} {c0 c1 : Nat} {R : Thing} (h : Rw (some ⟨b, off, none⟩) cap [⟨a0, c0, Z9⟩, ⟨a1, c1, Z9⟩] R A w) :
    (w.cell? ⟨b, off, none⟩ = some (.slice a0 9 c0) ∧ w.cell? ⟨b, off + 0, none⟩ = some (.slice a0 9 c0) ∧ SlAt bV 256 w a0 c0 Z9) ∧ (w.cell? ⟨b, off + 1, none⟩ = some (.slice a1 9 c1) ∧ w.cell? ⟨b, off + 1, none⟩ = some (.slice a1 9 c1) ∧ SlAt bV 256 w a1 c1 Z9) := by
  obtain ⟨b', off', e, h1, h2⟩ := rw_at h (i := 0) (by simp)
  cases e
  obtain ⟨b', off', e, h3, h4⟩ := rw_at h (i := 1) (by simp)
  cases e
  exact ⟨⟨h1, h1, h2⟩, h3, h3, h4⟩
theorem one_row {A : Nat → Prop} {w : World} {b off cap : Nat} {a0 : Option Addr} {c0 : Nat} {R : Thing} (h : Rw (some ⟨b, off, none⟩) cap [⟨a0, c0, T9⟩] R A w) :
    w.cell? ⟨b, off, none⟩ = some (.slice a0 9 c0) ∧ w.cell? ⟨b, off + 0, none⟩ = some (.slice a0 9 c0) ∧ SlAt bV 256 w a0 c0 T9 := by
  obtain ⟨b', off', e, h1, h2⟩ := rw_at h (i := 0) (by simp)
  cases e
  exact ⟨h1, h1, h2⟩
theorem some_rows {A : Nat → Prop} {w : World} {s : Option Addr} {cap : Nat} {L : List Rd} {R : Thing} (h : Rw s cap L R A w) (hl : 0 < L.length) : ∃ b off, s = some ⟨b, off, none⟩ := by
  obtain ⟨b, off, e, -⟩ := rw_at h hl
  exact ⟨b, off, e⟩
theorem as_two {L : List Rd} (h : mOf L = List.replicate 2 Z9) : ∃ a0 c0 a1 c1, L = [⟨a0, c0, Z9⟩, ⟨a1, c1, Z9⟩] := by
  match L, h with
  | [⟨a0, c0, l0⟩, ⟨a1, c1, l1⟩], h =>
    simp [mOf, List.replicate] at h
    obtain ⟨rfl, rfl⟩ := h
    exact ⟨a0, c0, a1, c1, rfl⟩
theorem as_one {L : List Rd} (h : mOf L = List.replicate 1 T9) : ∃ a0 c0, L = [⟨a0, c0, T9⟩] := by
  match L, h with
  | [⟨a0, c0, l0⟩], h =>
    simp [mOf, List.replicate] at h
    subst h
    exact ⟨a0, c0, rfl⟩

set_option maxRecDepth 20000 in
set_option maxHeartbeats 32000000 in
theorem law_FullKnown (W : World) : Calls Try.prog 3 #[] W (VOk W) := by
  go_enter Try.func3, Try.ntmps3
  go_wp2_with fail
  refine (fawake_any W).mono ?_
  rintro x w0 ⟨rfl, hb⟩
  have O0 := Lib.hid (show On W Emp w0 from ⟨hb, trivial⟩)
  clear hb
  go_wp2_with fail
  refine (en_none w0 (z := 0) (y := 0) ⟨by decide, by decide⟩ (by decide)).mono ?_
  rintro x w1 ⟨rfl, hb⟩
  have O1 := Lib.hid (O0.out.below stb_emp hb)
  clear hb O0
  go_wp2_with fail
  refine (en_none w1 (z := 2) (y := 2) ⟨by decide, by decide⟩ (by decide)).mono ?_
  rintro x w2 ⟨rfl, hb⟩
  have O2 := Lib.hid (O1.out.below stb_emp hb)
  clear hb O1
  go_wp2_with fail
  refine (on_new (n := 3) (me := 0) (z := 3) (y := 0) stb_emp O2.out rfl rfl (by decide) (by decide) (by decide)).mono ?_
  rintro x w3 ⟨p, rfl, h⟩
  have O3 := Lib.hid (show On W (Eng p P30 Emp) w3 from h)
  clear h O2
  go_wp2_with fail
  refine (on_new (n := 3) (me := 1) (z := 3) (y := 1) (stb_eng stb_emp) O3.out rfl rfl (by decide) (by decide) (by decide)).mono ?_
  rintro x w4 ⟨q, rfl, h⟩
  have O4 := Lib.hid (show On W (Eng q Q30 (Eng p P30 Emp)) w4 from h)
  clear h O3
  go_wp2_with fail
  refine (on_new (n := 3) (me := 2) (z := 3) (y := 2) (stb_eng (stb_eng stb_emp)) O4.out rfl rfl (by decide) (by decide) (by decide)).mono ?_
  rintro x w5 ⟨r, rfl, h⟩
  have O5 := Lib.hid (show On W (Eng r R30 (Eng q Q30 (Eng p P30 Emp))) w5 from h)
  clear h O4
  go_wp2_with fail
  have a0 : (w5.alloc (.cells #[.int .i64 1, .int .i64 2] 3)).cell? ⟨w5.heap.size, 0, none⟩ = some (.int .i64 1) := by simp
  have a1 : (w5.alloc (.cells #[.int .i64 1, .int .i64 2] 3)).cell? ⟨w5.heap.size, 1, none⟩ = some (.int .i64 2) := by simp
  refine (of_two a0 a1).mono ?_
  rintro x w' ⟨rfl, rfl⟩
  have O6 := Lib.hid (sw3 stb_emp (O5.out.below (stb_eng (stb_eng (stb_eng stb_emp))) (box_b w5 (.cells #[.int .i64 1, .int .i64 2] 3))))
  clear a0 a1 O5
  generalize w5.alloc (.cells #[.int .i64 1, .int .i64 2] 3) = w6 at *
  go_wp2_with fail
  refine (on_send_in (t := 6) (c := 2) (L := Z9) (R' := fun a cap => Eng r R30 (Eng q Q30 (Bq a cap 2 (List.replicate 2 Z9) Emp))) (stb_eng (stb_eng stb_emp)) O6.out (by decide) st33 (by decide) ps31 (fun w' N Fr a cap hN hB => ins_eng hN (ins_eng hN (ins_bq stb_emp hB)))).mono ?_
  rintro x w7 ⟨sa, sc, rfl, h⟩
  have O7 := Lib.hid (sw3 (stb_bq stb_emp) h)
  clear h O6
  obtain ⟨L7, hm7, hl7, h7⟩ := O7.out.rw3
  obtain ⟨s0, k0, s1, k1, rfl⟩ := as_two hm7
  obtain ⟨b, off, rfl⟩ := h7.rows3 (fun A h => some_rows h (by simp))
  have O8 := Lib.hid h7
  have LK := Lib.hid (fun (w : World) (x y z : Nat) (e1 e2 e3 : En) (h : On W (Eng x e1 (Eng y e2 (Eng z e3 (Rw (some ⟨b, off, none⟩) sc [⟨s0, k0, Z9⟩, ⟨s1, k1, Z9⟩] Emp)))) w) => h.rows3 (fun A h => two_rows h))
  have c0 := (LK.out _ _ _ _ _ _ _ h7).1.1
  have c1 := (LK.out _ _ _ _ _ _ _ h7).1.2.1
  have OD := Lib.hid (O8.out.below (stb_eng (stb_eng (stb_eng (stb_rw stb_emp)))) (drew_below w7))
  clear O7 hm7 hl7 h7
  go_upto_region 11 with fail
  have c0d := (LK.out _ _ _ _ _ _ _ OD.out).1.1
  have c1d := (LK.out _ _ _ _ _ _ _ OD.out).1.2.1
  refine wp_region_noPanic ?_
  refine wp_region_held_drew (S := (fun w' => w'.cell? ⟨b, off, none⟩ = some (.slice s0 9 k0) ∧ w'.cell? ⟨b, off + 0, none⟩ = some (.slice s0 9 k0))) (by kernel_rfl) ?_ (fun hHeld => ?_)
  · exact ⟨c0d, c1d⟩
  refine wpAnyH_take (i := 0) (oi := { dst := some 58, op := Op.move (Operand.tmp 7), type := 23, pos := "law.go:99", after := #[], guard := none }) (v := ?_) rfl (by kernel_rfl) (by kernel_rfl) (by kernel_rfl) (fun _ _ _ h => h) (Or.inl ⟨by rfl, ?_⟩) (by assumption) ?_
  rotate_left
  · (intro w hSw; (try dsimp only at hSw); go_simp; try with_reducible rfl)
  ((try simp only [Act.put]); (try simp only [List.setIfInBounds_toArray]); (try simp only [List.set_cons_succ]); (try simp only [List.set_cons_zero]))
  refine wpAnyH_take (i := 3) (oi := { dst := some 61, op := Op.move (Operand.tmp 11), type := 27, pos := "law.go:99", after := #[], guard := none }) (v := ?_) rfl (by kernel_rfl) (by kernel_rfl) (by kernel_rfl) (fun _ _ _ h => h) (Or.inl ⟨by rfl, ?_⟩) (by assumption) ?_
  rotate_left
  · (intro w hSw; (try dsimp only at hSw); go_simp; try with_reducible rfl)
  ((try simp only [Act.put]); (try simp only [List.setIfInBounds_toArray]); (try simp only [List.set_cons_succ]); (try simp only [List.set_cons_zero]))
  refine wpAnyH_take (i := 4) (oi := { dst := some 62, op := Op.indexAddr 27 (Operand.tmp 61) (Operand.const (Value.int IntKind.i64 0)), type := 0, pos := "law.go:99", after := #[{ on := 3, ground := Ground.data }], guard := none }) (v := ?_) rfl (by kernel_rfl) (by kernel_rfl) (by kernel_rfl) (fun _ _ _ h => h) (Or.inl ⟨by rfl, ?_⟩) (by assumption) ?_
  rotate_left
  · (intro w hSw; (try dsimp only at hSw); go_simp; try with_reducible rfl)
  ((try simp only [Act.put]); (try simp only [List.setIfInBounds_toArray]); (try simp only [List.set_cons_succ]); (try simp only [List.set_cons_zero]))
  refine wpAnyH_take (i := 5) (oi := { dst := some 63, op := Op.load 32 (Operand.tmp 62), type := 32, pos := "law.go:99", after := #[{ on := 4, ground := Ground.data }], guard := none }) (v := ?_) rfl (by kernel_rfl) (by kernel_rfl) (by kernel_rfl) (fun _ _ _ h => h) (Or.inl ⟨by rfl, ?_⟩) (by assumption) ?_
  rotate_left
  · (intro w hSw; (try dsimp only at hSw); go_simp; try with_reducible rfl)
  ((try simp only [Act.put]); (try simp only [List.setIfInBounds_toArray]); (try simp only [List.set_cons_succ]); (try simp only [List.set_cons_zero]))
  refine wpAnyH_ready (rs := [1]) (by kernel_rfl) (by simp) ?_
  refine AllReadyH.cons (o := { dst := some 59, op := Op.buildSlice 82 2 #[(0, Operand.const (Value.int IntKind.i64 1)), (1, Operand.const (Value.int IntKind.i64 2))], type := 82, pos := "law.go:99", after := #[], guard := none }) rfl (fun K hK => ?_) AllReadyH.nil
  go_simp
  have hb : Below w7.drew.heap.size w7.drew (w7.alloc (.cells #[.int .i64 1, .int .i64 2] 3)).drew := box_b w7.drew (.cells #[.int .i64 1, .int .i64 2] 3)
  have OM := Lib.hid (OD.out.below (stb_eng (stb_eng (stb_eng (stb_rw stb_emp)))) hb)
  have a0 : (w7.alloc (.cells #[.int .i64 1, .int .i64 2] 3)).drew.cell? ⟨w7.heap.size, 0, none⟩ = some (.int .i64 1) := (show (w7.alloc (.cells #[.int .i64 1, .int .i64 2] 3)).cell? ⟨w7.heap.size, 0, none⟩ = some (.int .i64 1) from by simp)
  have a1 : (w7.alloc (.cells #[.int .i64 1, .int .i64 2] 3)).drew.cell? ⟨w7.heap.size, 1, none⟩ = some (.int .i64 2) := (show (w7.alloc (.cells #[.int .i64 1, .int .i64 2] 3)).cell? ⟨w7.heap.size, 1, none⟩ = some (.int .i64 2) from by simp)
  generalize hw : (w7.alloc (.cells #[.int .i64 1, .int .i64 2] 3)).drew = w8 at *
  clear hw
  try go_wp2_with fail
  refine hK.out _ _ ?_ (fun hNew => ?_)
  · first | exact hHeld | exact hc8 | exact ⟨cell_go hHeld.1 hb, cell_go hHeld.2 hb⟩
  clear hK K
  replace hHeld := hNew
  clear hNew
  ((try simp only [Act.put]); (try simp only [List.setIfInBounds_toArray]); (try simp only [List.set_cons_succ]); (try simp only [List.set_cons_zero]))
  refine wpAnyH_ready (rs := [2]) (by kernel_rfl) (by simp) ?_
  refine AllReadyH.cons (o := { dst := some 60, op := Op.call { callee := Callee.value (Operand.func 11), args := #[Operand.tmp 59], argTypes := #[82] }, type := 30, pos := "law.go:99", after := #[{ on := 1, ground := Ground.data }], guard := none }) rfl (fun K hK => ?_) AllReadyH.nil
  go_simp
  refine (of_two a0 a1).mono ?_
  rintro x w' ⟨rfl, rfl⟩
  try go_wp2_with fail
  refine hK.out _ _ ?_ (fun hNew => ?_)
  · first | exact hHeld | exact hc8 | exact ⟨cell_go hHeld.1 hb, cell_go hHeld.2 hb⟩
  clear hK K
  replace hHeld := hNew
  clear hNew
  ((try simp only [Act.put]); (try simp only [List.setIfInBounds_toArray]); (try simp only [List.set_cons_succ]); (try simp only [List.set_cons_zero]))
  refine wpAnyH_ready (rs := [6]) (by kernel_rfl) (by simp) ?_
  refine AllReadyH.cons (o := { dst := some 64, op := Op.call { callee := Callee.value (Operand.func 12), args := #[Operand.tmp 58, Operand.const (Value.int IntKind.i64 0), Operand.const (Value.int IntKind.u64 1), Operand.tmp 60, Operand.tmp 63], argTypes := #[23, 3, 29, 30, 32] }, type := 4, pos := "law.go:99", after := #[{ on := 0, ground := Ground.data }, { on := 2, ground := Ground.data }, { on := 5, ground := Ground.data }, { on := 2, ground := Ground.chain }], guard := none }) rfl (fun K hK => ?_) AllReadyH.nil
  go_simp
  refine (on_take (f := 0) (num := 1) (t := 6) (stb_eng (stb_eng (stb_rw stb_emp))) OM.out (by decide) (LK.out _ _ _ _ _ _ _ OM.out).1.2.2 rfl (by decide) ⟨by decide, by decide⟩ can_q tk_q).mono ?_
  rintro x w9 ⟨rfl, h⟩
  have O9 := Lib.hid h
  have hc8 := And.intro (LK.out _ _ _ _ _ _ _ h).1.1 (LK.out _ _ _ _ _ _ _ h).1.2.1
  clear h
  try go_wp2_with fail
  refine hK.out _ _ ?_ (fun hNew => ?_)
  · first | exact hHeld | exact hc8 | exact ⟨cell_go hHeld.1 hb, cell_go hHeld.2 hb⟩
  clear hK K
  replace hHeld := hNew
  clear hNew
  ((try simp only [Act.put]); (try simp only [List.setIfInBounds_toArray]); (try simp only [List.set_cons_succ]); (try simp only [List.set_cons_zero]))
  refine wpAnyH_take (i := 7) (oi := { dst := some 12, op := Op.assign (Operand.tmp 64), type := 4, pos := "law.go:99", after := #[{ on := 6, ground := Ground.data }, { on := 6, ground := Ground.chain }, { on := 0, ground := Ground.phase }, { on := 1, ground := Ground.phase }, { on := 2, ground := Ground.phase }, { on := 3, ground := Ground.phase }, { on := 4, ground := Ground.phase }, { on := 5, ground := Ground.phase }, { on := 6, ground := Ground.phase }], guard := none }) (v := ?_) rfl (by kernel_rfl) (by kernel_rfl) (by kernel_rfl) (fun _ _ _ h => h) (Or.inl ⟨by rfl, ?_⟩) (by assumption) ?_
  rotate_left
  · (intro w hSw; (try dsimp only at hSw); go_simp; try with_reducible rfl)
  ((try simp only [Act.put]); (try simp only [List.setIfInBounds_toArray]); (try simp only [List.set_cons_succ]); (try simp only [List.set_cons_zero]))
  refine wpAnyH_done (by kernel_rfl) ?_ _
  refine NoPanic.normal ?_
  skip
  clear hHeld c0 c1 c0d c1d OD O8
  go_upto_region 12 with fail
  have a0 : (w9.alloc (.cells #[.int .i64 2] 3)).cell? ⟨w9.heap.size, 0, none⟩ = some (.int .i64 2) := by simp
  have O10 := Lib.hid (O9.out.below (stb_eng (stb_eng (stb_eng (stb_rw stb_emp)))) (box_b w9 (.cells #[.int .i64 2] 3)))
  go_wp2_with fail
  refine (of_cell (x := 2) (s := 4) a0 ⟨by decide, by decide⟩ (by decide)).mono ?_
  rintro x w' ⟨rfl, rfl⟩
  clear a0 O9
  generalize w9.alloc (.cells #[.int .i64 2] 3) = w10 at *
  go_wp2_with fail
  refine (on_send_in (t := 4) (c := 1) (L := T9) (R' := fun a cap => Eng p P31 (Eng r R30 (Bq a cap 1 (List.replicate 1 T9) (Rw (some ⟨b, off, none⟩) sc [⟨s0, k0, Z9⟩, ⟨s1, k1, Z9⟩] Emp)))) (stb_eng (stb_eng (stb_rw stb_emp))) O10.out (by decide) st34 (by decide) qs32 (fun w' N Fr a cap hN hB => ins_eng hN (ins_eng hN (ins_bq (stb_rw stb_emp) hB)))).mono ?_
  rintro x w11 ⟨ta, tc, rfl, h⟩
  obtain ⟨L11, hm11, hl11, h11⟩ := (sw3 (stb_bq (stb_rw stb_emp)) h).rw3
  obtain ⟨t0, j0, rfl⟩ := as_one hm11
  obtain ⟨bt, ot, rfl⟩ := h11.rows3 (fun A h => some_rows h (by simp))
  have O11 := Lib.hid h11
  clear h hm11 hl11 h11 O10 LK
  have LK := Lib.hid (fun (w : World) (x y z : Nat) (e1 e2 e3 : En) (h : On W (Eng x e1 (Eng y e2 (Eng z e3 (Rw (some ⟨bt, ot, none⟩) tc [⟨t0, j0, T9⟩] (Rw (some ⟨b, off, none⟩) sc [⟨s0, k0, Z9⟩, ⟨s1, k1, Z9⟩] Emp))))) w) => h.rows3 (fun A h => two_rows h.2))
  have LT := Lib.hid (fun (w : World) (x y z : Nat) (e1 e2 e3 : En) (h : On W (Eng x e1 (Eng y e2 (Eng z e3 (Rw (some ⟨bt, ot, none⟩) tc [⟨t0, j0, T9⟩] (Rw (some ⟨b, off, none⟩) sc [⟨s0, k0, Z9⟩, ⟨s1, k1, Z9⟩] Emp))))) w) => h.rows3 (fun A h => one_row h))
  have c0 := (LT.out _ _ _ _ _ _ _ O11.out).1
  have c1 := (LT.out _ _ _ _ _ _ _ O11.out).2.1
  go_wp2_with fail
  refine (on_can (f := 1) (num := 1) (stb_eng (stb_eng (stb_rw (stb_rw stb_emp)))) O11.out (LT.out _ _ _ _ _ _ _ O11.out).2.2 rfl (by decide) ⟨by decide, by decide⟩ can_r).mono ?_
  rintro x w12 ⟨rfl, h, -⟩
  have O12 := Lib.hid h
  clear h O11 c0 c1
  have OD := Lib.hid (O12.out.below (stb_eng (stb_eng (stb_eng (stb_rw (stb_rw stb_emp))))) (drew_below w12))
  go_upto_region 16 with fail
  have c0d := (LT.out _ _ _ _ _ _ _ OD.out).1
  have c1d := (LT.out _ _ _ _ _ _ _ OD.out).2.1
  refine wp_region_noPanic ?_
  refine wp_region_held_drew (S := (fun w' => w'.cell? ⟨bt, ot, none⟩ = some (.slice t0 9 j0) ∧ w'.cell? ⟨bt, ot + 0, none⟩ = some (.slice t0 9 j0))) (by kernel_rfl) ?_ (fun hHeld => ?_)
  · exact ⟨c0d, c1d⟩
  refine wpAnyH_take (i := 0) (oi := { dst := some 77, op := Op.move (Operand.tmp 9), type := 23, pos := "law.go:105", after := #[], guard := none }) (v := ?_) rfl (by kernel_rfl) (by kernel_rfl) (by kernel_rfl) (fun _ _ _ h => h) (Or.inl ⟨by rfl, ?_⟩) (by assumption) ?_
  rotate_left
  · (intro w hSw; (try dsimp only at hSw); go_simp; try with_reducible rfl)
  ((try simp only [Act.put]); (try simp only [List.setIfInBounds_toArray]); (try simp only [List.set_cons_succ]); (try simp only [List.set_cons_zero]))
  refine wpAnyH_take (i := 3) (oi := { dst := some 80, op := Op.move (Operand.tmp 13), type := 27, pos := "law.go:105", after := #[], guard := none }) (v := ?_) rfl (by kernel_rfl) (by kernel_rfl) (by kernel_rfl) (fun _ _ _ h => h) (Or.inl ⟨by rfl, ?_⟩) (by assumption) ?_
  rotate_left
  · (intro w hSw; (try dsimp only at hSw); go_simp; try with_reducible rfl)
  ((try simp only [Act.put]); (try simp only [List.setIfInBounds_toArray]); (try simp only [List.set_cons_succ]); (try simp only [List.set_cons_zero]))
  refine wpAnyH_take (i := 4) (oi := { dst := some 81, op := Op.indexAddr 27 (Operand.tmp 80) (Operand.const (Value.int IntKind.i64 0)), type := 0, pos := "law.go:105", after := #[{ on := 3, ground := Ground.data }], guard := none }) (v := ?_) rfl (by kernel_rfl) (by kernel_rfl) (by kernel_rfl) (fun _ _ _ h => h) (Or.inl ⟨by rfl, ?_⟩) (by assumption) ?_
  rotate_left
  · (intro w hSw; (try dsimp only at hSw); go_simp; try with_reducible rfl)
  ((try simp only [Act.put]); (try simp only [List.setIfInBounds_toArray]); (try simp only [List.set_cons_succ]); (try simp only [List.set_cons_zero]))
  refine wpAnyH_take (i := 5) (oi := { dst := some 82, op := Op.load 32 (Operand.tmp 81), type := 32, pos := "law.go:105", after := #[{ on := 4, ground := Ground.data }], guard := none }) (v := ?_) rfl (by kernel_rfl) (by kernel_rfl) (by kernel_rfl) (fun _ _ _ h => h) (Or.inl ⟨by rfl, ?_⟩) (by assumption) ?_
  rotate_left
  · (intro w hSw; (try dsimp only at hSw); go_simp; try with_reducible rfl)
  ((try simp only [Act.put]); (try simp only [List.setIfInBounds_toArray]); (try simp only [List.set_cons_succ]); (try simp only [List.set_cons_zero]))
  refine wpAnyH_ready (rs := [1]) (by kernel_rfl) (by simp) ?_
  refine AllReadyH.cons (o := { dst := some 78, op := Op.buildSlice 82 1 #[(0, Operand.const (Value.int IntKind.i64 2))], type := 82, pos := "law.go:105", after := #[], guard := none }) rfl (fun K hK => ?_) AllReadyH.nil
  go_simp
  have hb : Below w12.drew.heap.size w12.drew (w12.alloc (.cells #[.int .i64 2] 3)).drew := box_b w12.drew (.cells #[.int .i64 2] 3)
  have OM := Lib.hid (OD.out.below (stb_eng (stb_eng (stb_eng (stb_rw (stb_rw stb_emp))))) hb)
  have a0 : (w12.alloc (.cells #[.int .i64 2] 3)).drew.cell? ⟨w12.heap.size, 0, none⟩ = some (.int .i64 2) := (show (w12.alloc (.cells #[.int .i64 2] 3)).cell? ⟨w12.heap.size, 0, none⟩ = some (.int .i64 2) from by simp)
  generalize hw : (w12.alloc (.cells #[.int .i64 2] 3)).drew = w13 at *
  clear hw
  try go_wp2_with fail
  refine hK.out _ _ ?_ (fun hNew => ?_)
  · first | exact hHeld | exact hc8 | exact ⟨cell_go hHeld.1 hb, cell_go hHeld.2 hb⟩
  clear hK K
  replace hHeld := hNew
  clear hNew
  ((try simp only [Act.put]); (try simp only [List.setIfInBounds_toArray]); (try simp only [List.set_cons_succ]); (try simp only [List.set_cons_zero]))
  refine wpAnyH_ready (rs := [2]) (by kernel_rfl) (by simp) ?_
  refine AllReadyH.cons (o := { dst := some 79, op := Op.call { callee := Callee.value (Operand.func 11), args := #[Operand.tmp 78], argTypes := #[82] }, type := 30, pos := "law.go:105", after := #[{ on := 1, ground := Ground.data }], guard := none }) rfl (fun K hK => ?_) AllReadyH.nil
  go_simp
  refine (of_cell (x := 2) (s := 4) a0 ⟨by decide, by decide⟩ (by decide)).mono ?_
  rintro x w' ⟨rfl, rfl⟩
  try go_wp2_with fail
  refine hK.out _ _ ?_ (fun hNew => ?_)
  · first | exact hHeld | exact hc8 | exact ⟨cell_go hHeld.1 hb, cell_go hHeld.2 hb⟩
  clear hK K
  replace hHeld := hNew
  clear hNew
  ((try simp only [Act.put]); (try simp only [List.setIfInBounds_toArray]); (try simp only [List.set_cons_succ]); (try simp only [List.set_cons_zero]))
  refine wpAnyH_ready (rs := [6]) (by kernel_rfl) (by simp) ?_
  refine AllReadyH.cons (o := { dst := some 83, op := Op.call { callee := Callee.value (Operand.func 12), args := #[Operand.tmp 77, Operand.const (Value.int IntKind.i64 1), Operand.const (Value.int IntKind.u64 1), Operand.tmp 79, Operand.tmp 82], argTypes := #[23, 3, 29, 30, 32] }, type := 4, pos := "law.go:105", after := #[{ on := 0, ground := Ground.data }, { on := 2, ground := Ground.data }, { on := 5, ground := Ground.data }, { on := 2, ground := Ground.chain }], guard := none }) rfl (fun K hK => ?_) AllReadyH.nil
  go_simp
  refine (on_take (f := 1) (num := 1) (t := 4) (stb_eng (stb_eng (stb_rw (stb_rw stb_emp)))) OM.out (by decide) (LT.out _ _ _ _ _ _ _ OM.out).2.2 rfl (by decide) ⟨by decide, by decide⟩ can_r tk_r0).mono ?_
  rintro x w16 ⟨rfl, h⟩
  have O16 := Lib.hid h
  have hc8 := And.intro (LT.out _ _ _ _ _ _ _ h).1 (LT.out _ _ _ _ _ _ _ h).2.1
  clear h
  try go_wp2_with fail
  refine hK.out _ _ ?_ (fun hNew => ?_)
  · first | exact hHeld | exact hc8 | exact ⟨cell_go hHeld.1 hb, cell_go hHeld.2 hb⟩
  clear hK K
  replace hHeld := hNew
  clear hNew
  ((try simp only [Act.put]); (try simp only [List.setIfInBounds_toArray]); (try simp only [List.set_cons_succ]); (try simp only [List.set_cons_zero]))
  refine wpAnyH_take (i := 7) (oi := { dst := some 15, op := Op.assign (Operand.tmp 83), type := 4, pos := "law.go:105", after := #[{ on := 6, ground := Ground.data }, { on := 6, ground := Ground.chain }, { on := 0, ground := Ground.phase }, { on := 1, ground := Ground.phase }, { on := 2, ground := Ground.phase }, { on := 3, ground := Ground.phase }, { on := 4, ground := Ground.phase }, { on := 5, ground := Ground.phase }, { on := 6, ground := Ground.phase }], guard := none }) (v := ?_) rfl (by kernel_rfl) (by kernel_rfl) (by kernel_rfl) (fun _ _ _ h => h) (Or.inl ⟨by rfl, ?_⟩) (by assumption) ?_
  rotate_left
  · (intro w hSw; (try dsimp only at hSw); go_simp; try with_reducible rfl)
  ((try simp only [Act.put]); (try simp only [List.setIfInBounds_toArray]); (try simp only [List.set_cons_succ]); (try simp only [List.set_cons_zero]))
  refine wpAnyH_done (by kernel_rfl) ?_ _
  refine NoPanic.normal ?_
  skip
  clear hHeld c0d c1d OD O12
  have OD := Lib.hid (O16.out.below (stb_eng (stb_eng (stb_eng (stb_rw (stb_rw stb_emp))))) (drew_below w16))
  go_upto_region 17 with fail
  have c0d := (LK.out _ _ _ _ _ _ _ OD.out).2.1
  have c1d := (LK.out _ _ _ _ _ _ _ OD.out).2.2.1
  refine wp_region_noPanic ?_
  refine wp_region_held_drew (S := (fun w' => w'.cell? ⟨b, off + 1, none⟩ = some (.slice s1 9 k1) ∧ w'.cell? ⟨b, off + 1, none⟩ = some (.slice s1 9 k1))) (by kernel_rfl) ?_ (fun hHeld => ?_)
  · exact ⟨c0d, c1d⟩
  refine wpAnyH_take (i := 0) (oi := { dst := some 84, op := Op.move (Operand.tmp 9), type := 23, pos := "law.go:106", after := #[], guard := none }) (v := ?_) rfl (by kernel_rfl) (by kernel_rfl) (by kernel_rfl) (fun _ _ _ h => h) (Or.inl ⟨by rfl, ?_⟩) (by assumption) ?_
  rotate_left
  · (intro w hSw; (try dsimp only at hSw); go_simp; try with_reducible rfl)
  ((try simp only [Act.put]); (try simp only [List.setIfInBounds_toArray]); (try simp only [List.set_cons_succ]); (try simp only [List.set_cons_zero]))
  refine wpAnyH_take (i := 3) (oi := { dst := some 87, op := Op.move (Operand.tmp 11), type := 27, pos := "law.go:106", after := #[], guard := none }) (v := ?_) rfl (by kernel_rfl) (by kernel_rfl) (by kernel_rfl) (fun _ _ _ h => h) (Or.inl ⟨by rfl, ?_⟩) (by assumption) ?_
  rotate_left
  · (intro w hSw; (try dsimp only at hSw); go_simp; try with_reducible rfl)
  ((try simp only [Act.put]); (try simp only [List.setIfInBounds_toArray]); (try simp only [List.set_cons_succ]); (try simp only [List.set_cons_zero]))
  refine wpAnyH_take (i := 4) (oi := { dst := some 88, op := Op.indexAddr 27 (Operand.tmp 87) (Operand.const (Value.int IntKind.i64 1)), type := 0, pos := "law.go:106", after := #[{ on := 3, ground := Ground.data }], guard := none }) (v := ?_) rfl (by kernel_rfl) (by kernel_rfl) (by kernel_rfl) (fun _ _ _ h => h) (Or.inl ⟨by rfl, ?_⟩) (by assumption) ?_
  rotate_left
  · (intro w hSw; (try dsimp only at hSw); go_simp; try with_reducible rfl)
  ((try simp only [Act.put]); (try simp only [List.setIfInBounds_toArray]); (try simp only [List.set_cons_succ]); (try simp only [List.set_cons_zero]))
  refine wpAnyH_take (i := 5) (oi := { dst := some 89, op := Op.load 32 (Operand.tmp 88), type := 32, pos := "law.go:106", after := #[{ on := 4, ground := Ground.data }], guard := none }) (v := ?_) rfl (by kernel_rfl) (by kernel_rfl) (by kernel_rfl) (fun _ _ _ h => h) (Or.inl ⟨by rfl, ?_⟩) (by assumption) ?_
  rotate_left
  · (intro w hSw; (try dsimp only at hSw); go_simp; try with_reducible rfl)
  ((try simp only [Act.put]); (try simp only [List.setIfInBounds_toArray]); (try simp only [List.set_cons_succ]); (try simp only [List.set_cons_zero]))
  refine wpAnyH_ready (rs := [1]) (by kernel_rfl) (by simp) ?_
  refine AllReadyH.cons (o := { dst := some 85, op := Op.buildSlice 82 2 #[(0, Operand.const (Value.int IntKind.i64 1)), (1, Operand.const (Value.int IntKind.i64 2))], type := 82, pos := "law.go:106", after := #[], guard := none }) rfl (fun K hK => ?_) AllReadyH.nil
  go_simp
  have hb : Below w16.drew.heap.size w16.drew (w16.alloc (.cells #[.int .i64 1, .int .i64 2] 3)).drew := box_b w16.drew (.cells #[.int .i64 1, .int .i64 2] 3)
  have OM := Lib.hid (OD.out.below (stb_eng (stb_eng (stb_eng (stb_rw (stb_rw stb_emp))))) hb)
  have a0 : (w16.alloc (.cells #[.int .i64 1, .int .i64 2] 3)).drew.cell? ⟨w16.heap.size, 0, none⟩ = some (.int .i64 1) := (show (w16.alloc (.cells #[.int .i64 1, .int .i64 2] 3)).cell? ⟨w16.heap.size, 0, none⟩ = some (.int .i64 1) from by simp)
  have a1 : (w16.alloc (.cells #[.int .i64 1, .int .i64 2] 3)).drew.cell? ⟨w16.heap.size, 1, none⟩ = some (.int .i64 2) := (show (w16.alloc (.cells #[.int .i64 1, .int .i64 2] 3)).cell? ⟨w16.heap.size, 1, none⟩ = some (.int .i64 2) from by simp)
  generalize hw : (w16.alloc (.cells #[.int .i64 1, .int .i64 2] 3)).drew = w14 at *
  clear hw
  try go_wp2_with fail
  refine hK.out _ _ ?_ (fun hNew => ?_)
  · first | exact hHeld | exact hc8 | exact ⟨cell_go hHeld.1 hb, cell_go hHeld.2 hb⟩
  clear hK K
  replace hHeld := hNew
  clear hNew
  ((try simp only [Act.put]); (try simp only [List.setIfInBounds_toArray]); (try simp only [List.set_cons_succ]); (try simp only [List.set_cons_zero]))
  refine wpAnyH_ready (rs := [2]) (by kernel_rfl) (by simp) ?_
  refine AllReadyH.cons (o := { dst := some 86, op := Op.call { callee := Callee.value (Operand.func 11), args := #[Operand.tmp 85], argTypes := #[82] }, type := 30, pos := "law.go:106", after := #[{ on := 1, ground := Ground.data }], guard := none }) rfl (fun K hK => ?_) AllReadyH.nil
  go_simp
  refine (of_two a0 a1).mono ?_
  rintro x w' ⟨rfl, rfl⟩
  try go_wp2_with fail
  refine hK.out _ _ ?_ (fun hNew => ?_)
  · first | exact hHeld | exact hc8 | exact ⟨cell_go hHeld.1 hb, cell_go hHeld.2 hb⟩
  clear hK K
  replace hHeld := hNew
  clear hNew
  ((try simp only [Act.put]); (try simp only [List.setIfInBounds_toArray]); (try simp only [List.set_cons_succ]); (try simp only [List.set_cons_zero]))
  refine wpAnyH_ready (rs := [6]) (by kernel_rfl) (by simp) ?_
  refine AllReadyH.cons (o := { dst := some 90, op := Op.call { callee := Callee.value (Operand.func 12), args := #[Operand.tmp 84, Operand.const (Value.int IntKind.i64 0), Operand.const (Value.int IntKind.u64 1), Operand.tmp 86, Operand.tmp 89], argTypes := #[23, 3, 29, 30, 32] }, type := 4, pos := "law.go:106", after := #[{ on := 0, ground := Ground.data }, { on := 2, ground := Ground.data }, { on := 5, ground := Ground.data }, { on := 2, ground := Ground.chain }], guard := none }) rfl (fun K hK => ?_) AllReadyH.nil
  go_simp
  refine (on_take (f := 0) (num := 1) (t := 6) (stb_eng (stb_eng (stb_rw (stb_rw stb_emp)))) OM.out (by decide) (LK.out _ _ _ _ _ _ _ OM.out).2.2.2 rfl (by decide) ⟨by decide, by decide⟩ can_r0 tk_r).mono ?_
  rintro x w17 ⟨rfl, h⟩
  have O17 := Lib.hid h
  have hc8 := And.intro (LK.out _ _ _ _ _ _ _ h).2.1 (LK.out _ _ _ _ _ _ _ h).2.2.1
  clear h
  try go_wp2_with fail
  refine hK.out _ _ ?_ (fun hNew => ?_)
  · first | exact hHeld | exact hc8 | exact ⟨cell_go hHeld.1 hb, cell_go hHeld.2 hb⟩
  clear hK K
  replace hHeld := hNew
  clear hNew
  ((try simp only [Act.put]); (try simp only [List.setIfInBounds_toArray]); (try simp only [List.set_cons_succ]); (try simp only [List.set_cons_zero]))
  refine wpAnyH_take (i := 7) (oi := { dst := some 16, op := Op.assign (Operand.tmp 90), type := 4, pos := "law.go:106", after := #[{ on := 6, ground := Ground.data }, { on := 6, ground := Ground.chain }, { on := 0, ground := Ground.phase }, { on := 1, ground := Ground.phase }, { on := 2, ground := Ground.phase }, { on := 3, ground := Ground.phase }, { on := 4, ground := Ground.phase }, { on := 5, ground := Ground.phase }, { on := 6, ground := Ground.phase }], guard := none }) (v := ?_) rfl (by kernel_rfl) (by kernel_rfl) (by kernel_rfl) (fun _ _ _ h => h) (Or.inl ⟨by rfl, ?_⟩) (by assumption) ?_
  rotate_left
  · (intro w hSw; (try dsimp only at hSw); go_simp; try with_reducible rfl)
  ((try simp only [Act.put]); (try simp only [List.setIfInBounds_toArray]); (try simp only [List.set_cons_succ]); (try simp only [List.set_cons_zero]))
  refine wpAnyH_done (by kernel_rfl) ?_ _
  refine NoPanic.normal ?_
  skip
  clear hHeld c0d c1d OD O16
  have c0 := (LT.out _ _ _ _ _ _ _ O17.out).1
  have c1 := (LT.out _ _ _ _ _ _ _ O17.out).2.1
  go_wp2_with fail
  refine (on_can (f := 1) (num := 1) (stb_eng (stb_eng (stb_rw (stb_rw stb_emp)))) O17.out (LT.out _ _ _ _ _ _ _ O17.out).2.2 rfl (by decide) ⟨by decide, by decide⟩ can_r1).mono ?_
  rintro x w18 ⟨rfl, h, -⟩
  have O18 := Lib.hid h
  clear h O17 c0 c1
  have c0 := (LT.out _ _ _ _ _ _ _ O18.out).1
  have c1 := (LT.out _ _ _ _ _ _ _ O18.out).2.1
  go_wp2_with fail
  refine (on_can (f := 2) (num := 1) (stb_eng (stb_eng (stb_rw (stb_rw stb_emp)))) O18.out (LT.out _ _ _ _ _ _ _ O18.out).2.2 rfl (by decide) ⟨by decide, by decide⟩ can_r2).mono ?_
  rintro x w19 ⟨rfl, h, -⟩
  have O19 := Lib.hid h
  clear h O18 c0 c1
  go_wp2_with fail
  refine (on_can (f := 1) (num := 1) (bs := []) (stb_eng (stb_eng (stb_rw (stb_rw stb_emp)))) O19.out (SlAt.none _ _ _) rfl (by decide) ⟨by decide, by decide⟩ can_rn).mono ?_
  rintro x w20 ⟨rfl, h, -⟩
  have O20 := Lib.hid h
  clear h O19
  have c0 := (LK.out _ _ _ _ _ _ _ O20.out).1.1
  have c1 := (LK.out _ _ _ _ _ _ _ O20.out).1.2.1
  have S0 := (LK.out _ _ _ _ _ _ _ O20.out).1.2.2
  have f9 : 9 ≤ k0 := S0.fit
  have f8 : ((8 : Nat) : Int) ≤ (k0 : Int) := by omega
  have HS := Lib.hid S0
  clear S0
  go_wp2_with fail
  refine (read_at (z := 3) (HS.out.take 8) rfl (by decide) rd38).mono ?_
  rintro x w21 hR
  obtain ⟨rfl, hb⟩ := hR.none
  have O21 := Lib.hid (O20.out.below (stb_eng (stb_eng (stb_eng (stb_rw (stb_rw stb_emp))))) (hb.trans ((box_b w21 (.cells #[.int .i64 0, .slice none 0 0] 37)).mono hb.size)))
  clear hR hb HS c0 c1 f8 f9 O20
  go_upto_region 21 with fail
  generalize w21.alloc (.cells #[.int .i64 0, .slice none 0 0] 37) = w22 at *
  simp only [List.append_eq, List.cons_append, List.nil_append]
  go_wp2_with fail
  refine (on_got (g := [1, 0, 0]) (stb_eng (stb_eng (stb_rw (stb_rw stb_emp)))) O21.out rfl).mono ?_
  rintro x w23 ⟨ga, gc, rfl, h, -⟩
  have G23 := Lib.hid h.sl
  have O23 := Lib.hid (h.mono (fun _ _ => eng_drop sl_drop))
  clear h O21
  have X23 := Lib.hid (ql_lit w23 [1, 0, 0] #[.int .u64 1, .int .u64 0, .int .u64 0] 29 3 rfl rfl (by intro x hx; simp at hx; rcases hx with rfl | rfl <;> decide) (by unfold maxLen; omega))
  have O24 := Lib.hid (O23.out.below (stb_eng (stb_eng (stb_eng (stb_rw (stb_rw stb_emp))))) (box_b w23 (.cells #[.int .u64 1, .int .u64 0, .int .u64 0] 29)))
  have G24 := Lib.hid (G23.out.below (box_b w23 (.cells #[.int .u64 1, .int .u64 0, .int .u64 0] 29)))
  clear O23 G23
  go_wp2_with fail
  generalize w23.alloc (.cells #[.int .u64 1, .int .u64 0, .int .u64 0] 29) = w24 at *
  refine (longs_any (r := true) G24.out X23.out rfl rfl (decide_eq_true rfl)).mono ?_
  rintro x w25 ⟨rfl, n25, hw⟩
  have O25 := Lib.hid (O24.out.below (stb_eng (stb_eng (stb_eng (stb_rw (stb_rw stb_emp))))) (drew_b hw))
  clear hw O24 G24 X23
  go_wp2_with fail
  refine (on_sent (m := T33) (stb_eng (stb_eng (stb_rw (stb_rw stb_emp)))) O25.out rfl).mono ?_
  rintro x w26 ⟨a26, c26, rfl, h, -⟩
  have O26 := Lib.hid h
  clear h O25
  go_wp2_with fail
  refine (mat_any (i := 0) (j := 1) (v := 1) O26.out.sq (by decide)).mono ?_
  rintro x w27 ⟨rfl, hb⟩
  have O27 := Lib.hid ((O26.out.mono (fun _ _ => eng_drop sq_drop)).below (stb_eng (stb_eng (stb_eng (stb_rw (stb_rw stb_emp))))) hb)
  clear hb O26
  go_wp2_with fail
  refine (on_sent (m := T33) (stb_eng (stb_eng (stb_rw (stb_rw stb_emp)))) O27.out rfl).mono ?_
  rintro x w28 ⟨a28, c28, rfl, h, -⟩
  have O28 := Lib.hid h
  clear h O27
  go_wp2_with fail
  refine (mat_any (i := 0) (j := 2) (v := 1) O28.out.sq (by decide)).mono ?_
  rintro x w29 ⟨rfl, hb⟩
  have O29 := Lib.hid (sw3 (stb_rw (stb_rw stb_emp)) ((O28.out.mono (fun _ _ => eng_drop sq_drop)).below (stb_eng (stb_eng (stb_eng (stb_rw (stb_rw stb_emp))))) hb))
  clear hb O28
  go_wp2_with fail
  refine (on_send (t := 0) (c := 0) (L := T9) (stb_eng (stb_eng (stb_rw (stb_rw stb_emp)))) O29.out (by decide) st34 (by decide) ps30).mono ?_
  rintro x w30 ⟨a30, c30, rfl, h⟩
  have O30 := Lib.hid h.1
  clear h O29
  go_wp2_with fail
  refine (stamp_at (z := 0) (A := fun _ => True) (SqAt.nil w30) (L := []) (by split <;> rfl)).mono ?_
  rintro x w31 ⟨a31, c31, rfl, -, hb, -⟩
  have B := Lib.hid (O30.out.trans (hb.mono O30.out.size))
  clear hb O30
  go_wp2_with fail
  go_ret
  exact ⟨rfl, B.out⟩

end Go.Proofs.Ytopnagjbdjicaaa
