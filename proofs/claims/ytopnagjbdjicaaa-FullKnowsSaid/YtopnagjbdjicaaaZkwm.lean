/-
  FullKnows.
-/
import Derived.Test.YtopnagjbdjicaaaMan
import Derived.Deep.RegionHeld3
namespace Go.Proofs.Ytopnagjbdjicaaa
open Go.RowKit

set_option maxRecDepth 20000 in
set_option maxHeartbeats 16000000 in
theorem law_FullKnows (z : Int) (l : List Fa) (ao : Option Addr) (c0 : Nat) (W : World) (b0 : FaAt W ao c0 l) :
    Calls Try.prog 7 #[.int .i64 z, .slice ao l.length c0] W (VOk W) := by
  have hf := b0.fit
  have hm := b0.max
  unfold maxLen at hm
  have FA := Lib.hid b0
  clear b0
  go_enter Try.func7, Try.ntmps7
  go_wp2_with fail
  refine (fawake_any W).mono ?_
  rintro x w0 ⟨rfl, hb⟩
  have B := Lib.hid hb
  clear hb
  by_cases h1 : z < 1
  · have d1 : decide (z < 1) = true := decide_eq_true h1
    clear h1
    go_wp2_with fail
    go_ret
    exact ⟨rfl, B.out⟩
  have d1 : decide (z < 1) = false := decide_eq_false h1
  by_cases h2 : z > 8
  · have d2 : decide (z > 8) = true := decide_eq_true h2
    clear h1 h2
    go_wp2_with fail
    go_ret
    exact ⟨rfl, B.out⟩
  have d2 : decide (z > 8) = false := decide_eq_false h2
  by_cases h3 : 30 < l.length
  · have d3 : decide ((l.length : Int) > 30) = true := decide_eq_true (by omega)
    have d4 : decide (30 < l.length) = true := decide_eq_true h3
    clear h1 h2 h3
    go_wp2_with fail
    go_ret
    exact ⟨rfl, B.out⟩
  have d3 : decide ((l.length : Int) > 30) = false := decide_eq_false (by omega)
  have d4 : decide (30 < l.length) = false := decide_eq_false h3
  obtain ⟨n, rfl⟩ : ∃ k : Nat, z = k := ⟨z.toNat, by omega⟩
  have g1 : 1 ≤ n := by omega
  have g2 : n ≤ 8 := by omega
  have O0 := Lib.hid (show On W Emp w0 from ⟨B.out, trivial⟩)
  go_wp2_with fail
  refine (on_new (me := 0) stb_emp O0.out rfl rfl g1 (by omega) (by omega)).mono ?_
  rintro x w1 ⟨p, rfl, h1'⟩
  have O1 := Lib.hid h1'
  clear h1' O0
  go_wp2_with fail
  go_loopw [7] (fun i wr => ∃ (k : Nat) (e : En), k ≤ l.length ∧ i = .int .i64 (k : Nat) ∧ e.n = n ∧ On W (Eng p e Emp) wr) (fun i _ => l.length - (intOf i).toNat)
  case atStart => exact ⟨0, _, Nat.zero_le _, rfl, rfl, O1.out⟩
  case round =>
    obtain ⟨k, e, hk, rfl, hE, hO⟩ := hrel
    subst hE
    have O := Lib.hid hO
    have HE8 := Lib.hid g2
    clear hO O1
    by_cases hlt : k < l.length
    · obtain ⟨b, off, ra, hbW, y0, y1, y3, y4, y5⟩ := FA.out.cell k hlt
      subst ra
      have BD := Lib.hid (FA.out.body _ (List.getElem_mem hlt))
      have CW := Lib.hid (show (∀ w', Below W.heap.size W w' → w'.cell? ⟨b, off + k * 5 + 1, none⟩ = some (.int .i64 l[k].fr)) ∧ (∀ w', Below W.heap.size W w' → w'.cell? ⟨b, off + k * 5 + 3, none⟩ = some (.int .u64 (l[k].t : Int))) ∧ ∀ w', Below W.heap.size W w' → w'.cell? ⟨b, off + k * 5 + 4, none⟩ = some (.slice l[k].s.a l[k].s.l.length l[k].s.c) from ⟨fun w' hb => cell_go y1 hb, fun w' hb => cell_go y4 hb, fun w' hb => cell_go y5 hb⟩)
      have CO := Lib.hid (show ∀ w', Below W.heap.size W w' → w'.cell? ⟨b, off + k * 5, none⟩ = some (.int .i64 l[k].op) from fun w' hb => cell_go y0 hb)
      clear y0 y1 y3 y4 y5 hbW
      generalize l[k] = xa at *
      obtain ⟨xo, xf, xp, xt, xs⟩ := xa
      obtain ⟨xsa, xsc, xsb⟩ := xs
      simp only at BD CW CO
      have XS0 := Lib.hid BD.out.1
      have TL := Lib.hid BD.out.2.1
      have FO := Lib.hid BD.out.2.2
      obtain ⟨xsl, hxl⟩ : ∃ n, n = xsb.length := ⟨_, rfl⟩
      rw [← hxl] at CW
      have XL := Lib.hid hxl.symm
      clear BD hxl
      have i0 : (0 : Int) ≤ (k : Int) := by omega
      have i1 : (k : Int) < (l.length : Int) := by omega
      have z5 : wr.cell? ⟨b, off + k * 5 + 4, none⟩ = some (.slice xsa xsl xsc) := CW.out.2.2 wr O.out.1
      by_cases hx : 300 < xsl
      · have dx : decide ((xsl : Int) > 300) = true := decide_eq_true (by omega)
        have dx2 : decide (300 < xsl) = true := decide_eq_true hx
        have BF := Lib.hid O.out.1
        clear hx
        go_wp2_with fail
        go_ret
        exact ⟨rfl, BF.out⟩
      have dx : decide ((xsl : Int) > 300) = false := decide_eq_false (by omega)
      have dx2 : decide (300 < xsl) = false := decide_eq_false hx
      have X3 := Lib.hid (show xsl ≤ 2000000 by omega)
      have OKE := Lib.hid O.out.ok
      go_wp2_with fail
      refine (on_sent (m := e.S) stb_emp O.out rfl).mono ?_
      rintro x w4 ⟨a8, c8, rfl, h4, -⟩
      have O4 := Lib.hid h4
      clear h4 z5 O
      go_wp2_with fail
      refine (on_got (g := e.G) (stb_sq stb_emp) O4.out rfl).mono ?_
      rintro x w5 ⟨a9, c9, rfl, h5, -⟩
      have OB := Lib.hid (h5.box (stb_sl (stb_sq stb_emp)) e.n (.slice a8 e.n c8) 37)
      clear h5 O4
      have z0 : (w5.alloc (.cells #[.int .i64 e.n, .slice a8 e.n c8] 37)).cell? ⟨b, off + k * 5, none⟩ = some (.int .i64 xo) := CO.out _ OB.out.1
      by_cases ho : xo = 0
      · have do1 : (xo == 0) = true := by simpa using ho
        have z3 : (w5.alloc (.cells #[.int .i64 e.n, .slice a8 e.n c8] 37)).cell? ⟨b, off + k * 5 + 3, none⟩ = some (.int .u64 (xt : Int)) := CW.out.2.1 _ OB.out.1
        clear ho
        go_wp2_with fail
        generalize w5.alloc (.cells #[.int .i64 e.n, .slice a8 e.n c8] 37) = w6 at *
        generalize w5.heap.size = pw at *
        clear z0 z3
        refine (on_send (t := xt) (stb_ce (stb_sl (stb_sq stb_emp))) OB.out TL.out rfl rfl rfl).mono ?_
        rintro x w10 ⟨aq, cq, rfl, h10⟩
        have O10 := Lib.hid (h10.mono (fun _ _ => eng_drop bq_drop))
        have SGW := send_grow OKE.out xt
        obtain ⟨e2, he2⟩ : ∃ e2, e2 = sendE e xt := ⟨_, rfl⟩
        rw [← he2] at O10 SGW
        have EN := Lib.hid SGW.1
        have SG := Lib.hid SGW.2.1
        have WG := Lib.hid SGW.2.2
        clear SGW h10 OB he2
        go_wp2_with fail
        refine (on_got (g := e2.G) (stb_ce (stb_sl (stb_sq stb_emp))) O10.out rfl).mono ?_
        rintro x w11 ⟨a10, c10, rfl, h11, -⟩
        have O11 := Lib.hid h11
        obtain ⟨A12, s10, sce, s9, -⟩ := h11.get
        have G1 := Lib.hid s9.1
        have G2 := Lib.hid s10.1
        have PW := Lib.hid sce.1
        clear h11 s10 sce s9 O10
        rw [EN.out]
        obtain ⟨lg, jj, dd, hd1, hd⟩ := SG.out
        have LG := Lib.hid (show e.G.length = e.n ∧ e2.G.length = e.n from ⟨OKE.out.G, by rw [lg]; exact OKE.out.G⟩)
        have HD := Lib.hid hd
        have GT := Lib.hid (show ∀ i, atN e2.G i < 18446744073709551616 from fun i => atN_lt (by decide) G2.out.lt i)
        clear lg hd
        go_wp2_with fail
        go_loopw [11, 12] (fun m i wr => ∃ (t x : Nat), t ≤ e.n ∧ i = .int .i64 (t : Nat) ∧ m = .int .i64 ((if jj < t then dd else 0 : Nat) : Int) ∧ wr = w11.drewN x) (fun _ i _ => e.n - (intOf i).toNat)
        case atStart => exact ⟨0, 0, Nat.zero_le _, rfl, rfl, rfl⟩
        case round =>
          obtain ⟨t, xd, htn, rfl, rfl, rfl⟩ := hrel
          obtain ⟨m0, hm0⟩ : ∃ m0, m0 = (if jj < t then dd else 0 : Nat) := ⟨_, rfl⟩
          have M0 := Lib.hid hm0
          have hm1 : m0 ≤ 1 := by rw [hm0]; split <;> omega
          rw [← hm0]
          clear hm0
          by_cases hlt : t < e.n
          · have ln1 := LG.out.1
            have ln2 := LG.out.2
            obtain ⟨b1, o1, ra1, -, q1⟩ := G1.out.at (i := t) (by omega)
            obtain ⟨b2, o2, ra2, -, q2⟩ := G2.out.at (i := t) (by omega)
            obtain ⟨D0, hD0⟩ : ∃ D0, D0 = (if t = jj then dd else 0 : Nat) := ⟨_, rfl⟩
            have hD1 : D0 ≤ 1 := by rw [hD0]; split <;> omega
            have hyx : atN e2.G t = atN e.G t + D0 := by rw [HD.out t, hD0]
            have hyl := GT.out t
            have M1 := Lib.hid (show m0 + D0 = (if jj < t + 1 then dd else 0 : Nat) from by
              rw [M0.out, hD0]
              by_cases e1 : jj < t
              · rw [if_pos e1, if_neg (by omega), if_pos (by omega)]; omega
              · rw [if_neg e1]
                by_cases e2 : t = jj
                · rw [if_pos e2, if_pos (by omega)]; omega
                · rw [if_neg e2, if_neg (by omega)])
            replace q1 : (w11.drewN xd).cell? ⟨b1, o1 + t, none⟩ = some (.int .u64 ((atN e.G t : Nat) : Int)) := q1
            replace q2 : (w11.drewN xd).cell? ⟨b2, o2 + t, none⟩ = some (.int .u64 ((atN e2.G t : Nat) : Int)) := q2
            clear hD0
            generalize atN e.G t = x at *
            generalize atN e2.G t = y at *
            have dxy : decide ((y : Int) < (x : Int)) = false := decide_eq_false (by omega)
            have dxy2 : decide (y < x) = false := decide_eq_false (by omega)
            have hsub : IntKind.u64.wrap ((y : Int) - (x : Int)) = (D0 : Int) := by rw [wrapQ (by omega)]; omega
            have i8 : (0 : Int) ≤ (t : Int) := by omega
            have i9 : (t : Int) < (e.n : Int) := by omega
            have dt : decide ((t : Int) < (e.n : Int)) = true := decide_eq_true i9
            have he8 := HE8.out
            have hI1 : IntKind.i64.wrap (D0 : Int) = (D0 : Int) := wrapJ (by omega)
            have hI2 : IntKind.i64.wrap ((m0 : Int) + (D0 : Int)) = (m0 : Int) + (D0 : Int) := wrapJ (by omega)
            clear hyx hyl ln1 ln2
            subst ra1 ra2
            go_upto_region 22 with fail
            refine wp_region_noPanic ?_
            refine wp_region_held_drew (S := (fun w' => w'.cell? ⟨b1, o1 + t, none⟩ = some (.int .u64 (x : Int)) ∧ w'.cell? ⟨b2, o2 + t, none⟩ = some (.int .u64 (y : Int)))) (by kernel_rfl) ?_ (fun hHeld => ?_)
            · exact ⟨q1, q2⟩
            refine wpAnyH_take (i := 0) (oi := { dst := some 103, op := Op.move (Operand.tmp 10), type := 42, pos := "more.go:67", after := #[], guard := none }) (v := ?_) rfl (by kernel_rfl) (by kernel_rfl) (by kernel_rfl) (fun _ _ _ h => h) (Or.inl ⟨by rfl, ?_⟩) (by assumption) ?_
            rotate_left
            · (intro w hSw; (try dsimp only at hSw); go_simp; try with_reducible rfl)
            ((try simp only [Act.put]); (try simp only [List.setIfInBounds_toArray]); (try simp only [List.set_cons_succ]); (try simp only [List.set_cons_zero]))
            refine wpAnyH_take (i := 1) (oi := { dst := some 104, op := Op.move (Operand.tmp 12), type := 3, pos := "more.go:67", after := #[], guard := none }) (v := ?_) rfl (by kernel_rfl) (by kernel_rfl) (by kernel_rfl) (fun _ _ _ h => h) (Or.inl ⟨by rfl, ?_⟩) (by assumption) ?_
            rotate_left
            · (intro w hSw; (try dsimp only at hSw); go_simp; try with_reducible rfl)
            ((try simp only [Act.put]); (try simp only [List.setIfInBounds_toArray]); (try simp only [List.set_cons_succ]); (try simp only [List.set_cons_zero]))
            refine wpAnyH_take (i := 2) (oi := { dst := some 105, op := Op.indexAddr 42 (Operand.tmp 103) (Operand.tmp 104), type := 0, pos := "more.go:67", after := #[{ on := 0, ground := Ground.data }, { on := 1, ground := Ground.data }], guard := none }) (v := ?_) rfl (by kernel_rfl) (by kernel_rfl) (by kernel_rfl) (fun _ _ _ h => h) (Or.inl ⟨by rfl, ?_⟩) (by assumption) ?_
            rotate_left
            · (intro w hSw; (try dsimp only at hSw); go_simp; try with_reducible rfl)
            ((try simp only [Act.put]); (try simp only [List.setIfInBounds_toArray]); (try simp only [List.set_cons_succ]); (try simp only [List.set_cons_zero]))
            refine wpAnyH_take (i := 3) (oi := { dst := some 106, op := Op.load 29 (Operand.tmp 105), type := 29, pos := "more.go:67", after := #[{ on := 2, ground := Ground.data }], guard := none }) (v := ?_) rfl (by kernel_rfl) (by kernel_rfl) (by kernel_rfl) (fun _ _ _ h => h) (Or.inl ⟨by rfl, ?_⟩) (by assumption) ?_
            rotate_left
            · (intro w hSw; (try dsimp only at hSw); go_simp; try with_reducible rfl)
            ((try simp only [Act.put]); (try simp only [List.setIfInBounds_toArray]); (try simp only [List.set_cons_succ]); (try simp only [List.set_cons_zero]))
            refine wpAnyH_take (i := 4) (oi := { dst := some 107, op := Op.move (Operand.tmp 9), type := 42, pos := "more.go:67", after := #[], guard := none }) (v := ?_) rfl (by kernel_rfl) (by kernel_rfl) (by kernel_rfl) (fun _ _ _ h => h) (Or.inl ⟨by rfl, ?_⟩) (by assumption) ?_
            rotate_left
            · (intro w hSw; (try dsimp only at hSw); go_simp; try with_reducible rfl)
            ((try simp only [Act.put]); (try simp only [List.setIfInBounds_toArray]); (try simp only [List.set_cons_succ]); (try simp only [List.set_cons_zero]))
            refine wpAnyH_take (i := 5) (oi := { dst := some 108, op := Op.move (Operand.tmp 12), type := 3, pos := "more.go:67", after := #[], guard := none }) (v := ?_) rfl (by kernel_rfl) (by kernel_rfl) (by kernel_rfl) (fun _ _ _ h => h) (Or.inl ⟨by rfl, ?_⟩) (by assumption) ?_
            rotate_left
            · (intro w hSw; (try dsimp only at hSw); go_simp; try with_reducible rfl)
            ((try simp only [Act.put]); (try simp only [List.setIfInBounds_toArray]); (try simp only [List.set_cons_succ]); (try simp only [List.set_cons_zero]))
            refine wpAnyH_take (i := 6) (oi := { dst := some 109, op := Op.indexAddr 42 (Operand.tmp 107) (Operand.tmp 108), type := 0, pos := "more.go:67", after := #[{ on := 4, ground := Ground.data }, { on := 5, ground := Ground.data }], guard := none }) (v := ?_) rfl (by kernel_rfl) (by kernel_rfl) (by kernel_rfl) (fun _ _ _ h => h) (Or.inl ⟨by rfl, ?_⟩) (by assumption) ?_
            rotate_left
            · (intro w hSw; (try dsimp only at hSw); go_simp; try with_reducible rfl)
            ((try simp only [Act.put]); (try simp only [List.setIfInBounds_toArray]); (try simp only [List.set_cons_succ]); (try simp only [List.set_cons_zero]))
            refine wpAnyH_take (i := 7) (oi := { dst := some 110, op := Op.load 29 (Operand.tmp 109), type := 29, pos := "more.go:67", after := #[{ on := 6, ground := Ground.data }], guard := none }) (v := ?_) rfl (by kernel_rfl) (by kernel_rfl) (by kernel_rfl) (fun _ _ _ h => h) (Or.inl ⟨by rfl, ?_⟩) (by assumption) ?_
            rotate_left
            · (intro w hSw; (try dsimp only at hSw); go_simp; try with_reducible rfl)
            ((try simp only [Act.put]); (try simp only [List.setIfInBounds_toArray]); (try simp only [List.set_cons_succ]); (try simp only [List.set_cons_zero]))
            refine wpAnyH_take (i := 8) (oi := { dst := some 111, op := Op.binOp BinOp.lss 29 (Operand.tmp 106) (Operand.tmp 110) 29, type := 4, pos := "more.go:67", after := #[{ on := 3, ground := Ground.data }, { on := 7, ground := Ground.data }], guard := none }) (v := ?_) rfl (by kernel_rfl) (by kernel_rfl) (by kernel_rfl) (fun _ _ _ h => h) (Or.inl ⟨by rfl, ?_⟩) (by assumption) ?_
            rotate_left
            · (intro w hSw; (try dsimp only at hSw); go_simp; try with_reducible rfl)
            ((try simp only [Act.put]); (try simp only [List.setIfInBounds_toArray]); (try simp only [List.set_cons_succ]); (try simp only [List.set_cons_zero]))
            refine wpAnyH_done (by kernel_rfl) ?_ _
            refine NoPanic.normal ?_
            skip
            clear hHeld
            go_upto_region 24 with fail
            refine wp_region_noPanic ?_
            refine wp_region_held_drew (S := (fun w' => w'.cell? ⟨b1, o1 + t, none⟩ = some (.int .u64 (x : Int)) ∧ w'.cell? ⟨b2, o2 + t, none⟩ = some (.int .u64 (y : Int)))) (by kernel_rfl) ?_ (fun hHeld => ?_)
            · exact ⟨q1, q2⟩
            refine wpAnyH_take (i := 0) (oi := { dst := some 112, op := Op.move (Operand.tmp 11), type := 3, pos := "more.go:70", after := #[], guard := none }) (v := ?_) rfl (by kernel_rfl) (by kernel_rfl) (by kernel_rfl) (fun _ _ _ h => h) (Or.inl ⟨by rfl, ?_⟩) (by assumption) ?_
            rotate_left
            · (intro w hSw; (try dsimp only at hSw); go_simp; try with_reducible rfl)
            ((try simp only [Act.put]); (try simp only [List.setIfInBounds_toArray]); (try simp only [List.set_cons_succ]); (try simp only [List.set_cons_zero]))
            refine wpAnyH_take (i := 1) (oi := { dst := some 113, op := Op.move (Operand.tmp 10), type := 42, pos := "more.go:70", after := #[], guard := none }) (v := ?_) rfl (by kernel_rfl) (by kernel_rfl) (by kernel_rfl) (fun _ _ _ h => h) (Or.inl ⟨by rfl, ?_⟩) (by assumption) ?_
            rotate_left
            · (intro w hSw; (try dsimp only at hSw); go_simp; try with_reducible rfl)
            ((try simp only [Act.put]); (try simp only [List.setIfInBounds_toArray]); (try simp only [List.set_cons_succ]); (try simp only [List.set_cons_zero]))
            refine wpAnyH_take (i := 2) (oi := { dst := some 114, op := Op.move (Operand.tmp 12), type := 3, pos := "more.go:70", after := #[], guard := none }) (v := ?_) rfl (by kernel_rfl) (by kernel_rfl) (by kernel_rfl) (fun _ _ _ h => h) (Or.inl ⟨by rfl, ?_⟩) (by assumption) ?_
            rotate_left
            · (intro w hSw; (try dsimp only at hSw); go_simp; try with_reducible rfl)
            ((try simp only [Act.put]); (try simp only [List.setIfInBounds_toArray]); (try simp only [List.set_cons_succ]); (try simp only [List.set_cons_zero]))
            refine wpAnyH_take (i := 3) (oi := { dst := some 115, op := Op.indexAddr 42 (Operand.tmp 113) (Operand.tmp 114), type := 0, pos := "more.go:70", after := #[{ on := 1, ground := Ground.data }, { on := 2, ground := Ground.data }], guard := none }) (v := ?_) rfl (by kernel_rfl) (by kernel_rfl) (by kernel_rfl) (fun _ _ _ h => h) (Or.inl ⟨by rfl, ?_⟩) (by assumption) ?_
            rotate_left
            · (intro w hSw; (try dsimp only at hSw); go_simp; try with_reducible rfl)
            ((try simp only [Act.put]); (try simp only [List.setIfInBounds_toArray]); (try simp only [List.set_cons_succ]); (try simp only [List.set_cons_zero]))
            refine wpAnyH_take (i := 4) (oi := { dst := some 116, op := Op.load 29 (Operand.tmp 115), type := 29, pos := "more.go:70", after := #[{ on := 3, ground := Ground.data }], guard := none }) (v := ?_) rfl (by kernel_rfl) (by kernel_rfl) (by kernel_rfl) (fun _ _ _ h => h) (Or.inl ⟨by rfl, ?_⟩) (by assumption) ?_
            rotate_left
            · (intro w hSw; (try dsimp only at hSw); go_simp; try with_reducible rfl)
            ((try simp only [Act.put]); (try simp only [List.setIfInBounds_toArray]); (try simp only [List.set_cons_succ]); (try simp only [List.set_cons_zero]))
            refine wpAnyH_take (i := 5) (oi := { dst := some 117, op := Op.move (Operand.tmp 9), type := 42, pos := "more.go:70", after := #[], guard := none }) (v := ?_) rfl (by kernel_rfl) (by kernel_rfl) (by kernel_rfl) (fun _ _ _ h => h) (Or.inl ⟨by rfl, ?_⟩) (by assumption) ?_
            rotate_left
            · (intro w hSw; (try dsimp only at hSw); go_simp; try with_reducible rfl)
            ((try simp only [Act.put]); (try simp only [List.setIfInBounds_toArray]); (try simp only [List.set_cons_succ]); (try simp only [List.set_cons_zero]))
            refine wpAnyH_take (i := 6) (oi := { dst := some 118, op := Op.move (Operand.tmp 12), type := 3, pos := "more.go:70", after := #[], guard := none }) (v := ?_) rfl (by kernel_rfl) (by kernel_rfl) (by kernel_rfl) (fun _ _ _ h => h) (Or.inl ⟨by rfl, ?_⟩) (by assumption) ?_
            rotate_left
            · (intro w hSw; (try dsimp only at hSw); go_simp; try with_reducible rfl)
            ((try simp only [Act.put]); (try simp only [List.setIfInBounds_toArray]); (try simp only [List.set_cons_succ]); (try simp only [List.set_cons_zero]))
            refine wpAnyH_take (i := 7) (oi := { dst := some 119, op := Op.indexAddr 42 (Operand.tmp 117) (Operand.tmp 118), type := 0, pos := "more.go:70", after := #[{ on := 5, ground := Ground.data }, { on := 6, ground := Ground.data }], guard := none }) (v := ?_) rfl (by kernel_rfl) (by kernel_rfl) (by kernel_rfl) (fun _ _ _ h => h) (Or.inl ⟨by rfl, ?_⟩) (by assumption) ?_
            rotate_left
            · (intro w hSw; (try dsimp only at hSw); go_simp; try with_reducible rfl)
            ((try simp only [Act.put]); (try simp only [List.setIfInBounds_toArray]); (try simp only [List.set_cons_succ]); (try simp only [List.set_cons_zero]))
            refine wpAnyH_take (i := 8) (oi := { dst := some 120, op := Op.load 29 (Operand.tmp 119), type := 29, pos := "more.go:70", after := #[{ on := 7, ground := Ground.data }], guard := none }) (v := ?_) rfl (by kernel_rfl) (by kernel_rfl) (by kernel_rfl) (fun _ _ _ h => h) (Or.inl ⟨by rfl, ?_⟩) (by assumption) ?_
            rotate_left
            · (intro w hSw; (try dsimp only at hSw); go_simp; try with_reducible rfl)
            ((try simp only [Act.put]); (try simp only [List.setIfInBounds_toArray]); (try simp only [List.set_cons_succ]); (try simp only [List.set_cons_zero]))
            refine wpAnyH_take (i := 9) (oi := { dst := some 121, op := Op.binOp BinOp.sub 29 (Operand.tmp 116) (Operand.tmp 120) 29, type := 29, pos := "more.go:70", after := #[{ on := 4, ground := Ground.data }, { on := 8, ground := Ground.data }], guard := none }) (v := ?_) rfl (by kernel_rfl) (by kernel_rfl) (by kernel_rfl) (fun _ _ _ h => h) (Or.inl ⟨by rfl, ?_⟩) (by assumption) ?_
            rotate_left
            · (intro w hSw; (try dsimp only at hSw); go_simp; try with_reducible rfl)
            ((try simp only [Act.put]); (try simp only [List.setIfInBounds_toArray]); (try simp only [List.set_cons_succ]); (try simp only [List.set_cons_zero]))
            refine wpAnyH_take (i := 10) (oi := { dst := some 122, op := Op.convert 29 3 (Operand.tmp 121), type := 3, pos := "more.go:70", after := #[{ on := 9, ground := Ground.data }], guard := none }) (v := ?_) rfl (by kernel_rfl) (by kernel_rfl) (by kernel_rfl) (fun _ _ _ h => h) (Or.inl ⟨by rfl, ?_⟩) (by assumption) ?_
            rotate_left
            · (intro w hSw; (try dsimp only at hSw); go_simp; try with_reducible rfl)
            ((try simp only [Act.put]); (try simp only [List.setIfInBounds_toArray]); (try simp only [List.set_cons_succ]); (try simp only [List.set_cons_zero]))
            refine wpAnyH_take (i := 11) (oi := { dst := some 123, op := Op.binOp BinOp.add 3 (Operand.tmp 112) (Operand.tmp 122) 3, type := 3, pos := "more.go:70", after := #[{ on := 0, ground := Ground.data }, { on := 10, ground := Ground.data }], guard := none }) (v := ?_) rfl (by kernel_rfl) (by kernel_rfl) (by kernel_rfl) (fun _ _ _ h => h) (Or.inl ⟨by rfl, ?_⟩) (by assumption) ?_
            rotate_left
            · (intro w hSw; (try dsimp only at hSw); go_simp; try with_reducible rfl)
            ((try simp only [Act.put]); (try simp only [List.setIfInBounds_toArray]); (try simp only [List.set_cons_succ]); (try simp only [List.set_cons_zero]))
            refine wpAnyH_take (i := 12) (oi := { dst := some 11, op := Op.assign (Operand.tmp 123), type := 3, pos := "more.go:70", after := #[{ on := 11, ground := Ground.data }, { on := 0, ground := Ground.phase }, { on := 1, ground := Ground.phase }, { on := 2, ground := Ground.phase }, { on := 3, ground := Ground.phase }, { on := 4, ground := Ground.phase }, { on := 5, ground := Ground.phase }, { on := 6, ground := Ground.phase }, { on := 7, ground := Ground.phase }, { on := 8, ground := Ground.phase }, { on := 9, ground := Ground.phase }, { on := 10, ground := Ground.phase }, { on := 11, ground := Ground.phase }], guard := none }) (v := ?_) rfl (by kernel_rfl) (by kernel_rfl) (by kernel_rfl) (fun _ _ _ h => h) (Or.inl ⟨by rfl, ?_⟩) (by assumption) ?_
            rotate_left
            · (intro w hSw; (try dsimp only at hSw); go_simp; try with_reducible rfl)
            ((try simp only [Act.put]); (try simp only [List.setIfInBounds_toArray]); (try simp only [List.set_cons_succ]); (try simp only [List.set_cons_zero]))
            refine wpAnyH_done (by kernel_rfl) ?_ _
            refine NoPanic.normal ?_
            skip
            clear hHeld
            go_wp2_with fail
            go_roundw
            case rel => exact ⟨t + 1, xd + 1 + 1, by omega, by go_num, by rw [← M1.out, Int.natCast_add], rfl⟩
            case measure => simp only [intOf]; omega
          · obtain rfl : t = e.n := by omega
            have dk9 : decide ((e.n : Int) < (e.n : Int)) = false := decide_eq_false (by omega)
            have hm2 : decide ((m0 : Int) > 1) = false := decide_eq_false (by omega)
            have hm3 : decide (1 < m0) = false := decide_eq_false (by omega)
            have OL := Lib.hid (O11.out.below (stb_eng (stb_sl (stb_ce (stb_sl (stb_sq stb_emp))))) (drewN_b (Below.refl _ w11) (xd + 1)))
            have y0 : (w11.drewN (xd + 1)).cell? ⟨pw, 0, none⟩ = some (.int .i64 e.n) := PW.out.c 0 (by decide)
            have y1 : (w11.drewN (xd + 1)).cell? ⟨pw, 1, none⟩ = some (.slice a8 e.n c8) := PW.out.c 1 (by decide)
            go_upto_region 25 with fail
            refine wp_region_noPanic ?_
            refine wp_region_held_drew (S := (fun w' => w'.cell? ⟨pw, 0, none⟩ = some (.int .i64 e.n) ∧ w'.cell? ⟨pw, 1, none⟩ = some (.slice a8 e.n c8))) (by kernel_rfl) ?_ (fun hHeld => ?_)
            · exact ⟨y0, y1⟩
            refine wpAnyH_take (i := 0) (oi := { dst := some 124, op := Op.load 37 (Operand.tmp 8), type := 37, pos := "more.go:72", after := #[], guard := none }) (v := ?_) rfl (by kernel_rfl) (by kernel_rfl) (by kernel_rfl) (fun _ _ _ h => h) (Or.inl ⟨by rfl, ?_⟩) (by assumption) ?_
            rotate_left
            · (intro w hSw; (try dsimp only at hSw); go_simp; try with_reducible rfl)
            ((try simp only [Act.put]); (try simp only [List.setIfInBounds_toArray]); (try simp only [List.set_cons_succ]); (try simp only [List.set_cons_zero]))
            refine wpAnyH_take (i := 1) (oi := { dst := some 125, op := Op.move (Operand.tmp 5), type := 23, pos := "more.go:72", after := #[], guard := none }) (v := ?_) rfl (by kernel_rfl) (by kernel_rfl) (by kernel_rfl) (fun _ _ _ h => h) (Or.inl ⟨by rfl, ?_⟩) (by assumption) ?_
            rotate_left
            · (intro w hSw; (try dsimp only at hSw); go_simp; try with_reducible rfl)
            ((try simp only [Act.put]); (try simp only [List.setIfInBounds_toArray]); (try simp only [List.set_cons_succ]); (try simp only [List.set_cons_zero]))
            refine wpAnyH_ready (rs := [2]) (by kernel_rfl) (by simp) ?_
            refine AllReadyH.cons (o := { dst := some 126, op := Op.call { callee := Callee.value (Operand.func 18), args := #[Operand.tmp 125], argTypes := #[23] }, type := 37, pos := "more.go:72", after := #[{ on := 1, ground := Ground.data }], guard := none }) rfl (fun K hK => ?_) AllReadyH.nil
            go_simp
            refine (on_sent (m := e2.S) (stb_sl (stb_ce (stb_sl (stb_sq stb_emp)))) OL.out rfl).mono ?_
            rintro x w14 ⟨a14, c14, rfl, h14, hb⟩
            have O14 := Lib.hid h14
            clear h14
            try go_wp2_with fail
            refine hK.out _ _ ?_ (fun hNew => ?_)
            · first | exact hHeld | exact ⟨cell_go hHeld.1 hb, cell_go hHeld.2 hb⟩
            clear hK K
            replace hHeld := hNew
            clear hNew
            ((try simp only [Act.put]); (try simp only [List.setIfInBounds_toArray]); (try simp only [List.set_cons_succ]); (try simp only [List.set_cons_zero]))
            refine wpAnyH_ready (rs := [3]) (by kernel_rfl) (by simp) ?_
            refine AllReadyH.cons (o := { dst := some 127, op := Op.call { callee := Callee.value (Operand.func 31), args := #[Operand.tmp 124, Operand.tmp 126], argTypes := #[37, 37] }, type := 4, pos := "more.go:72", after := #[{ on := 0, ground := Ground.data }, { on := 2, ground := Ground.data }, { on := 2, ground := Ground.chain }], guard := none }) rfl (fun K hK => ?_) AllReadyH.nil
            go_simp
            obtain ⟨A15, s15, s10, sce, s9, s8, -⟩ := O14.out.get
            have Q8 := Lib.hid (SqAt.mono (A' := fun _ => True) s8 (fun _ _ _ => trivial))
            have Q15 := Lib.hid (SqAt.mono (A' := fun _ => True) s15 (fun _ _ _ => trivial))
            rw [EN.out] at Q15
            clear s15 s10 sce s9 s8
            try rw [EN.out]
            refine (mwi_at (r := true) Q8.out Q15.out WG.out).mono ?_
            rintro x w15 ⟨rfl, hb⟩
            have O15 := Lib.hid ((O14.out.mono (fun _ _ => eng_drop (R' := Emp) (fun _ _ _ => trivial))).below (stb_eng stb_emp) hb)
            clear Q8 Q15
            try go_wp2_with fail
            refine hK.out _ _ ?_ (fun hNew => ?_)
            · first | exact hHeld | exact ⟨cell_go hHeld.1 hb, cell_go hHeld.2 hb⟩
            clear hK K
            replace hHeld := hNew
            clear hNew
            ((try simp only [Act.put]); (try simp only [List.setIfInBounds_toArray]); (try simp only [List.set_cons_succ]); (try simp only [List.set_cons_zero]))
            refine wpAnyH_take (i := 4) (oi := { dst := some 128, op := Op.unOp UnOp.not 4 (Operand.tmp 127), type := 4, pos := "more.go:72", after := #[{ on := 3, ground := Ground.data }], guard := none }) (v := ?_) rfl (by kernel_rfl) (by kernel_rfl) (by kernel_rfl) (fun _ _ _ h => h) (Or.inl ⟨by rfl, ?_⟩) (by assumption) ?_
            rotate_left
            · (intro w hSw; (try dsimp only at hSw); go_simp; try with_reducible rfl)
            ((try simp only [Act.put]); (try simp only [List.setIfInBounds_toArray]); (try simp only [List.set_cons_succ]); (try simp only [List.set_cons_zero]))
            refine wpAnyH_take (i := 5) (oi := { dst := some 129, op := Op.move (Operand.tmp 128), type := 4, pos := "more.go:72", after := #[{ on := 4, ground := Ground.data }, { on := 3, ground := Ground.chain }], guard := none }) (v := ?_) rfl (by kernel_rfl) (by kernel_rfl) (by kernel_rfl) (fun _ _ _ h => h) (Or.inl ⟨by rfl, ?_⟩) (by assumption) ?_
            rotate_left
            · (intro w hSw; (try dsimp only at hSw); go_simp; try with_reducible rfl)
            ((try simp only [Act.put]); (try simp only [List.setIfInBounds_toArray]); (try simp only [List.set_cons_succ]); (try simp only [List.set_cons_zero]))
            refine wpAnyH_take (i := 6) (oi := { dst := some 130, op := Op.move (Operand.tmp 11), type := 3, pos := "more.go:72", after := #[{ on := 5, ground := Ground.guard }], guard := some (5, false) }) (v := ?_) rfl (by kernel_rfl) (by kernel_rfl) (by kernel_rfl) (fun _ _ _ h => h) (Or.inl ⟨by rfl, ?_⟩) (by assumption) ?_
            rotate_left
            · (intro w hSw; (try dsimp only at hSw); go_simp; try with_reducible rfl)
            ((try simp only [Act.put]); (try simp only [List.setIfInBounds_toArray]); (try simp only [List.set_cons_succ]); (try simp only [List.set_cons_zero]))
            refine wpAnyH_take (i := 7) (oi := { dst := some 131, op := Op.binOp BinOp.gtr 3 (Operand.tmp 130) (Operand.const (Value.int IntKind.i64 1)) 3, type := 4, pos := "more.go:72", after := #[{ on := 6, ground := Ground.data }, { on := 5, ground := Ground.guard }], guard := some (5, false) }) (v := ?_) rfl (by kernel_rfl) (by kernel_rfl) (by kernel_rfl) (fun _ _ _ h => h) (Or.inl ⟨by rfl, ?_⟩) (by assumption) ?_
            rotate_left
            · (intro w hSw; (try dsimp only at hSw); go_simp; try with_reducible rfl)
            ((try simp only [Act.put]); (try simp only [List.setIfInBounds_toArray]); (try simp only [List.set_cons_succ]); (try simp only [List.set_cons_zero]))
            refine wpAnyH_take (i := 8) (oi := { dst := some 132, op := Op.pick (Operand.tmp 129) (Operand.const (Value.bool true)) (Operand.tmp 131), type := 4, pos := "more.go:72", after := #[{ on := 5, ground := Ground.data }, { on := 7, ground := Ground.data }], guard := none }) (v := ?_) rfl (by kernel_rfl) (by kernel_rfl) (by kernel_rfl) (fun _ _ _ h => h) (Or.inl ⟨by rfl, ?_⟩) (by assumption) ?_
            rotate_left
            · (intro w hSw; (try dsimp only at hSw); go_simp; try with_reducible rfl)
            ((try simp only [Act.put]); (try simp only [List.setIfInBounds_toArray]); (try simp only [List.set_cons_succ]); (try simp only [List.set_cons_zero]))
            refine wpAnyH_take (i := 9) (oi := { dst := some 133, op := Op.move (Operand.tmp 132), type := 4, pos := "more.go:72", after := #[{ on := 8, ground := Ground.data }, { on := 5, ground := Ground.chain }], guard := none }) (v := ?_) rfl (by kernel_rfl) (by kernel_rfl) (by kernel_rfl) (fun _ _ _ h => h) (Or.inl ⟨by rfl, ?_⟩) (by assumption) ?_
            rotate_left
            · (intro w hSw; (try dsimp only at hSw); go_simp; try with_reducible rfl)
            ((try simp only [Act.put]); (try simp only [List.setIfInBounds_toArray]); (try simp only [List.set_cons_succ]); (try simp only [List.set_cons_zero]))
            refine wpAnyH_take (i := 10) (oi := { dst := some 134, op := Op.move (Operand.tmp 10), type := 42, pos := "more.go:72", after := #[{ on := 9, ground := Ground.guard }], guard := some (9, false) }) (v := ?_) rfl (by kernel_rfl) (by kernel_rfl) (by kernel_rfl) (fun _ _ _ h => h) (Or.inl ⟨by rfl, ?_⟩) (by assumption) ?_
            rotate_left
            · (intro w hSw; (try dsimp only at hSw); go_simp; try with_reducible rfl)
            ((try simp only [Act.put]); (try simp only [List.setIfInBounds_toArray]); (try simp only [List.set_cons_succ]); (try simp only [List.set_cons_zero]))
            refine wpAnyH_take (i := 11) (oi := { dst := some 135, op := Op.call { callee := Callee.builtin Builtin.len, args := #[Operand.tmp 134], argTypes := #[42] }, type := 3, pos := "more.go:72", after := #[{ on := 10, ground := Ground.data }, { on := 9, ground := Ground.guard }], guard := some (9, false) }) (v := ?_) rfl (by kernel_rfl) (by kernel_rfl) (by kernel_rfl) (fun _ _ _ h => h) (Or.inl ⟨by rfl, ?_⟩) (by assumption) ?_
            rotate_left
            · (intro w hSw; (try dsimp only at hSw); go_simp; try with_reducible rfl)
            ((try simp only [Act.put]); (try simp only [List.setIfInBounds_toArray]); (try simp only [List.set_cons_succ]); (try simp only [List.set_cons_zero]))
            refine wpAnyH_take (i := 12) (oi := { dst := some 136, op := Op.move (Operand.tmp 0), type := 3, pos := "more.go:72", after := #[{ on := 9, ground := Ground.guard }], guard := some (9, false) }) (v := ?_) rfl (by kernel_rfl) (by kernel_rfl) (by kernel_rfl) (fun _ _ _ h => h) (Or.inl ⟨by rfl, ?_⟩) (by assumption) ?_
            rotate_left
            · (intro w hSw; (try dsimp only at hSw); go_simp; try with_reducible rfl)
            ((try simp only [Act.put]); (try simp only [List.setIfInBounds_toArray]); (try simp only [List.set_cons_succ]); (try simp only [List.set_cons_zero]))
            refine wpAnyH_take (i := 13) (oi := { dst := some 137, op := Op.binOp BinOp.neq 3 (Operand.tmp 135) (Operand.tmp 136) 3, type := 4, pos := "more.go:72", after := #[{ on := 11, ground := Ground.data }, { on := 12, ground := Ground.data }, { on := 9, ground := Ground.guard }], guard := some (9, false) }) (v := ?_) rfl (by kernel_rfl) (by kernel_rfl) (by kernel_rfl) (fun _ _ _ h => h) (Or.inl ⟨by rfl, ?_⟩) (by assumption) ?_
            rotate_left
            · (intro w hSw; (try dsimp only at hSw); go_simp; try with_reducible rfl)
            ((try simp only [Act.put]); (try simp only [List.setIfInBounds_toArray]); (try simp only [List.set_cons_succ]); (try simp only [List.set_cons_zero]))
            refine wpAnyH_take (i := 14) (oi := { dst := some 138, op := Op.pick (Operand.tmp 133) (Operand.const (Value.bool true)) (Operand.tmp 137), type := 4, pos := "more.go:72", after := #[{ on := 9, ground := Ground.data }, { on := 13, ground := Ground.data }], guard := none }) (v := ?_) rfl (by kernel_rfl) (by kernel_rfl) (by kernel_rfl) (fun _ _ _ h => h) (Or.inl ⟨by rfl, ?_⟩) (by assumption) ?_
            rotate_left
            · (intro w hSw; (try dsimp only at hSw); go_simp; try with_reducible rfl)
            ((try simp only [Act.put]); (try simp only [List.setIfInBounds_toArray]); (try simp only [List.set_cons_succ]); (try simp only [List.set_cons_zero]))
            refine wpAnyH_take (i := 15) (oi := { dst := some 139, op := Op.move (Operand.tmp 138), type := 4, pos := "more.go:72", after := #[{ on := 14, ground := Ground.data }, { on := 9, ground := Ground.chain }], guard := none }) (v := ?_) rfl (by kernel_rfl) (by kernel_rfl) (by kernel_rfl) (fun _ _ _ h => h) (Or.inl ⟨by rfl, ?_⟩) (by assumption) ?_
            rotate_left
            · (intro w hSw; (try dsimp only at hSw); go_simp; try with_reducible rfl)
            ((try simp only [Act.put]); (try simp only [List.setIfInBounds_toArray]); (try simp only [List.set_cons_succ]); (try simp only [List.set_cons_zero]))
            refine wpAnyH_take (i := 16) (oi := { dst := some 140, op := Op.move (Operand.tmp 9), type := 42, pos := "more.go:72", after := #[{ on := 15, ground := Ground.guard }], guard := some (15, false) }) (v := ?_) rfl (by kernel_rfl) (by kernel_rfl) (by kernel_rfl) (fun _ _ _ h => h) (Or.inl ⟨by rfl, ?_⟩) (by assumption) ?_
            rotate_left
            · (intro w hSw; (try dsimp only at hSw); go_simp; try with_reducible rfl)
            ((try simp only [Act.put]); (try simp only [List.setIfInBounds_toArray]); (try simp only [List.set_cons_succ]); (try simp only [List.set_cons_zero]))
            refine wpAnyH_take (i := 17) (oi := { dst := some 141, op := Op.call { callee := Callee.builtin Builtin.len, args := #[Operand.tmp 140], argTypes := #[42] }, type := 3, pos := "more.go:72", after := #[{ on := 16, ground := Ground.data }, { on := 15, ground := Ground.guard }], guard := some (15, false) }) (v := ?_) rfl (by kernel_rfl) (by kernel_rfl) (by kernel_rfl) (fun _ _ _ h => h) (Or.inl ⟨by rfl, ?_⟩) (by assumption) ?_
            rotate_left
            · (intro w hSw; (try dsimp only at hSw); go_simp; try with_reducible rfl)
            ((try simp only [Act.put]); (try simp only [List.setIfInBounds_toArray]); (try simp only [List.set_cons_succ]); (try simp only [List.set_cons_zero]))
            refine wpAnyH_take (i := 18) (oi := { dst := some 142, op := Op.move (Operand.tmp 0), type := 3, pos := "more.go:72", after := #[{ on := 15, ground := Ground.guard }], guard := some (15, false) }) (v := ?_) rfl (by kernel_rfl) (by kernel_rfl) (by kernel_rfl) (fun _ _ _ h => h) (Or.inl ⟨by rfl, ?_⟩) (by assumption) ?_
            rotate_left
            · (intro w hSw; (try dsimp only at hSw); go_simp; try with_reducible rfl)
            ((try simp only [Act.put]); (try simp only [List.setIfInBounds_toArray]); (try simp only [List.set_cons_succ]); (try simp only [List.set_cons_zero]))
            refine wpAnyH_take (i := 19) (oi := { dst := some 143, op := Op.binOp BinOp.neq 3 (Operand.tmp 141) (Operand.tmp 142) 3, type := 4, pos := "more.go:72", after := #[{ on := 17, ground := Ground.data }, { on := 18, ground := Ground.data }, { on := 15, ground := Ground.guard }], guard := some (15, false) }) (v := ?_) rfl (by kernel_rfl) (by kernel_rfl) (by kernel_rfl) (fun _ _ _ h => h) (Or.inl ⟨by rfl, ?_⟩) (by assumption) ?_
            rotate_left
            · (intro w hSw; (try dsimp only at hSw); go_simp; try with_reducible rfl)
            ((try simp only [Act.put]); (try simp only [List.setIfInBounds_toArray]); (try simp only [List.set_cons_succ]); (try simp only [List.set_cons_zero]))
            refine wpAnyH_take (i := 20) (oi := { dst := some 144, op := Op.pick (Operand.tmp 139) (Operand.const (Value.bool true)) (Operand.tmp 143), type := 4, pos := "more.go:72", after := #[{ on := 15, ground := Ground.data }, { on := 19, ground := Ground.data }], guard := none }) (v := ?_) rfl (by kernel_rfl) (by kernel_rfl) (by kernel_rfl) (fun _ _ _ h => h) (Or.inl ⟨by rfl, ?_⟩) (by assumption) ?_
            rotate_left
            · (intro w hSw; (try dsimp only at hSw); go_simp; try with_reducible rfl)
            ((try simp only [Act.put]); (try simp only [List.setIfInBounds_toArray]); (try simp only [List.set_cons_succ]); (try simp only [List.set_cons_zero]))
            refine wpAnyH_done (by kernel_rfl) ?_ _
            refine NoPanic.normal ?_
            go_wp2_with fail
            go_roundw
            case rel => exact ⟨k + 1, e2, by omega, by go_num, EN.out, O15.out⟩
            case measure => simp only [intOf]; omega
      · have do1 : (xo == 0) = false := by simpa using ho
        clear ho
        go_upto_region 16 with fail
        generalize w5.alloc (.cells #[.int .i64 e.n, .slice a8 e.n c8] 37) = w6 at *
        generalize w5.heap.size = pw at *
        clear z0
        have x1 : w6.drew.cell? ⟨b, off + k * 5 + 1, none⟩ = some (.int .i64 xf) := CW.out.1 w6 OB.out.1
        have x3 : w6.drew.cell? ⟨b, off + k * 5 + 3, none⟩ = some (.int .u64 (xt : Int)) := CW.out.2.1 w6 OB.out.1
        have x4 : w6.drew.cell? ⟨b, off + k * 5 + 4, none⟩ = some (.slice xsa xsl xsc) := CW.out.2.2 w6 OB.out.1
        have XS := Lib.hid (XS0.out.below OB.out.1)
        refine wp_region_noPanic ?_
        refine wp_region_held_drew (S := (fun w' => w'.cell? ⟨b, off + k * 5 + 1, none⟩ = some (.int .i64 xf) ∧ w'.cell? ⟨b, off + k * 5 + 3, none⟩ = some (.int .u64 (xt : Int)) ∧ w'.cell? ⟨b, off + k * 5 + 4, none⟩ = some (.slice xsa xsl xsc))) (by kernel_rfl) ?_ (fun hHeld => ?_)
        · exact ⟨x1, x3, x4⟩
        refine wpAnyH_take (i := 0) (oi := { dst := some 67, op := Op.move (Operand.tmp 5), type := 23, pos := "more.go:62", after := #[], guard := none }) (v := ?_) rfl (by kernel_rfl) (by kernel_rfl) (by kernel_rfl) (fun _ _ _ h => h) (Or.inl ⟨by rfl, ?_⟩) (by assumption) ?_
        rotate_left
        · (intro w hSw; (try dsimp only at hSw); go_simp; try with_reducible rfl)
        ((try simp only [Act.put]); (try simp only [List.setIfInBounds_toArray]); (try simp only [List.set_cons_succ]); (try simp only [List.set_cons_zero]))
        refine wpAnyH_take (i := 1) (oi := { dst := some 68, op := Op.move (Operand.tmp 1), type := 47, pos := "more.go:62", after := #[], guard := none }) (v := ?_) rfl (by kernel_rfl) (by kernel_rfl) (by kernel_rfl) (fun _ _ _ h => h) (Or.inl ⟨by rfl, ?_⟩) (by assumption) ?_
        rotate_left
        · (intro w hSw; (try dsimp only at hSw); go_simp; try with_reducible rfl)
        ((try simp only [Act.put]); (try simp only [List.setIfInBounds_toArray]); (try simp only [List.set_cons_succ]); (try simp only [List.set_cons_zero]))
        refine wpAnyH_take (i := 2) (oi := { dst := some 69, op := Op.move (Operand.tmp 7), type := 3, pos := "more.go:62", after := #[], guard := none }) (v := ?_) rfl (by kernel_rfl) (by kernel_rfl) (by kernel_rfl) (fun _ _ _ h => h) (Or.inl ⟨by rfl, ?_⟩) (by assumption) ?_
        rotate_left
        · (intro w hSw; (try dsimp only at hSw); go_simp; try with_reducible rfl)
        ((try simp only [Act.put]); (try simp only [List.setIfInBounds_toArray]); (try simp only [List.set_cons_succ]); (try simp only [List.set_cons_zero]))
        refine wpAnyH_take (i := 3) (oi := { dst := some 70, op := Op.indexAddr 47 (Operand.tmp 68) (Operand.tmp 69), type := 0, pos := "more.go:62", after := #[{ on := 1, ground := Ground.data }, { on := 2, ground := Ground.data }], guard := none }) (v := ?_) rfl (by kernel_rfl) (by kernel_rfl) (by kernel_rfl) (fun _ _ _ h => h) (Or.inl ⟨by rfl, ?_⟩) (by assumption) ?_
        rotate_left
        · (intro w hSw; (try dsimp only at hSw); go_simp; try with_reducible rfl)
        ((try simp only [Act.put]); (try simp only [List.setIfInBounds_toArray]); (try simp only [List.set_cons_succ]); (try simp only [List.set_cons_zero]))
        refine wpAnyH_take (i := 4) (oi := { dst := some 71, op := Op.fieldAddr 51 (Operand.tmp 70) 1, type := 0, pos := "more.go:62", after := #[{ on := 3, ground := Ground.data }], guard := none }) (v := ?_) rfl (by kernel_rfl) (by kernel_rfl) (by kernel_rfl) (fun _ _ _ h => h) (Or.inl ⟨by rfl, ?_⟩) (by assumption) ?_
        rotate_left
        · (intro w hSw; (try dsimp only at hSw); go_simp; try with_reducible rfl)
        ((try simp only [Act.put]); (try simp only [List.setIfInBounds_toArray]); (try simp only [List.set_cons_succ]); (try simp only [List.set_cons_zero]))
        refine wpAnyH_take (i := 5) (oi := { dst := some 72, op := Op.load 3 (Operand.tmp 71), type := 3, pos := "more.go:62", after := #[{ on := 4, ground := Ground.data }], guard := none }) (v := ?_) rfl (by kernel_rfl) (by kernel_rfl) (by kernel_rfl) (fun _ _ _ h => h) (Or.inl ⟨by rfl, ?_⟩) (by assumption) ?_
        rotate_left
        · (intro w hSw; (try dsimp only at hSw); go_simp; try with_reducible rfl)
        ((try simp only [Act.put]); (try simp only [List.setIfInBounds_toArray]); (try simp only [List.set_cons_succ]); (try simp only [List.set_cons_zero]))
        refine wpAnyH_take (i := 6) (oi := { dst := some 73, op := Op.move (Operand.tmp 1), type := 47, pos := "more.go:62", after := #[], guard := none }) (v := ?_) rfl (by kernel_rfl) (by kernel_rfl) (by kernel_rfl) (fun _ _ _ h => h) (Or.inl ⟨by rfl, ?_⟩) (by assumption) ?_
        rotate_left
        · (intro w hSw; (try dsimp only at hSw); go_simp; try with_reducible rfl)
        ((try simp only [Act.put]); (try simp only [List.setIfInBounds_toArray]); (try simp only [List.set_cons_succ]); (try simp only [List.set_cons_zero]))
        refine wpAnyH_take (i := 7) (oi := { dst := some 74, op := Op.move (Operand.tmp 7), type := 3, pos := "more.go:62", after := #[], guard := none }) (v := ?_) rfl (by kernel_rfl) (by kernel_rfl) (by kernel_rfl) (fun _ _ _ h => h) (Or.inl ⟨by rfl, ?_⟩) (by assumption) ?_
        rotate_left
        · (intro w hSw; (try dsimp only at hSw); go_simp; try with_reducible rfl)
        ((try simp only [Act.put]); (try simp only [List.setIfInBounds_toArray]); (try simp only [List.set_cons_succ]); (try simp only [List.set_cons_zero]))
        refine wpAnyH_take (i := 8) (oi := { dst := some 75, op := Op.indexAddr 47 (Operand.tmp 73) (Operand.tmp 74), type := 0, pos := "more.go:62", after := #[{ on := 6, ground := Ground.data }, { on := 7, ground := Ground.data }], guard := none }) (v := ?_) rfl (by kernel_rfl) (by kernel_rfl) (by kernel_rfl) (fun _ _ _ h => h) (Or.inl ⟨by rfl, ?_⟩) (by assumption) ?_
        rotate_left
        · (intro w hSw; (try dsimp only at hSw); go_simp; try with_reducible rfl)
        ((try simp only [Act.put]); (try simp only [List.setIfInBounds_toArray]); (try simp only [List.set_cons_succ]); (try simp only [List.set_cons_zero]))
        refine wpAnyH_take (i := 9) (oi := { dst := some 76, op := Op.fieldAddr 51 (Operand.tmp 75) 3, type := 0, pos := "more.go:62", after := #[{ on := 8, ground := Ground.data }], guard := none }) (v := ?_) rfl (by kernel_rfl) (by kernel_rfl) (by kernel_rfl) (fun _ _ _ h => h) (Or.inl ⟨by rfl, ?_⟩) (by assumption) ?_
        rotate_left
        · (intro w hSw; (try dsimp only at hSw); go_simp; try with_reducible rfl)
        ((try simp only [Act.put]); (try simp only [List.setIfInBounds_toArray]); (try simp only [List.set_cons_succ]); (try simp only [List.set_cons_zero]))
        refine wpAnyH_take (i := 10) (oi := { dst := some 77, op := Op.load 29 (Operand.tmp 76), type := 29, pos := "more.go:62", after := #[{ on := 9, ground := Ground.data }], guard := none }) (v := ?_) rfl (by kernel_rfl) (by kernel_rfl) (by kernel_rfl) (fun _ _ _ h => h) (Or.inl ⟨by rfl, ?_⟩) (by assumption) ?_
        rotate_left
        · (intro w hSw; (try dsimp only at hSw); go_simp; try with_reducible rfl)
        ((try simp only [Act.put]); (try simp only [List.setIfInBounds_toArray]); (try simp only [List.set_cons_succ]); (try simp only [List.set_cons_zero]))
        refine wpAnyH_take (i := 11) (oi := { dst := some 78, op := Op.move (Operand.tmp 1), type := 47, pos := "more.go:62", after := #[], guard := none }) (v := ?_) rfl (by kernel_rfl) (by kernel_rfl) (by kernel_rfl) (fun _ _ _ h => h) (Or.inl ⟨by rfl, ?_⟩) (by assumption) ?_
        rotate_left
        · (intro w hSw; (try dsimp only at hSw); go_simp; try with_reducible rfl)
        ((try simp only [Act.put]); (try simp only [List.setIfInBounds_toArray]); (try simp only [List.set_cons_succ]); (try simp only [List.set_cons_zero]))
        refine wpAnyH_take (i := 12) (oi := { dst := some 79, op := Op.move (Operand.tmp 7), type := 3, pos := "more.go:62", after := #[], guard := none }) (v := ?_) rfl (by kernel_rfl) (by kernel_rfl) (by kernel_rfl) (fun _ _ _ h => h) (Or.inl ⟨by rfl, ?_⟩) (by assumption) ?_
        rotate_left
        · (intro w hSw; (try dsimp only at hSw); go_simp; try with_reducible rfl)
        ((try simp only [Act.put]); (try simp only [List.setIfInBounds_toArray]); (try simp only [List.set_cons_succ]); (try simp only [List.set_cons_zero]))
        refine wpAnyH_take (i := 13) (oi := { dst := some 80, op := Op.indexAddr 47 (Operand.tmp 78) (Operand.tmp 79), type := 0, pos := "more.go:62", after := #[{ on := 11, ground := Ground.data }, { on := 12, ground := Ground.data }], guard := none }) (v := ?_) rfl (by kernel_rfl) (by kernel_rfl) (by kernel_rfl) (fun _ _ _ h => h) (Or.inl ⟨by rfl, ?_⟩) (by assumption) ?_
        rotate_left
        · (intro w hSw; (try dsimp only at hSw); go_simp; try with_reducible rfl)
        ((try simp only [Act.put]); (try simp only [List.setIfInBounds_toArray]); (try simp only [List.set_cons_succ]); (try simp only [List.set_cons_zero]))
        refine wpAnyH_take (i := 14) (oi := { dst := some 81, op := Op.fieldAddr 51 (Operand.tmp 80) 4, type := 0, pos := "more.go:62", after := #[{ on := 13, ground := Ground.data }], guard := none }) (v := ?_) rfl (by kernel_rfl) (by kernel_rfl) (by kernel_rfl) (fun _ _ _ h => h) (Or.inl ⟨by rfl, ?_⟩) (by assumption) ?_
        rotate_left
        · (intro w hSw; (try dsimp only at hSw); go_simp; try with_reducible rfl)
        ((try simp only [Act.put]); (try simp only [List.setIfInBounds_toArray]); (try simp only [List.set_cons_succ]); (try simp only [List.set_cons_zero]))
        refine wpAnyH_take (i := 15) (oi := { dst := some 82, op := Op.load 32 (Operand.tmp 81), type := 32, pos := "more.go:62", after := #[{ on := 14, ground := Ground.data }], guard := none }) (v := ?_) rfl (by kernel_rfl) (by kernel_rfl) (by kernel_rfl) (fun _ _ _ h => h) (Or.inl ⟨by rfl, ?_⟩) (by assumption) ?_
        rotate_left
        · (intro w hSw; (try dsimp only at hSw); go_simp; try with_reducible rfl)
        ((try simp only [Act.put]); (try simp only [List.setIfInBounds_toArray]); (try simp only [List.set_cons_succ]); (try simp only [List.set_cons_zero]))
        refine wpAnyH_ready (rs := [16]) (by kernel_rfl) (by simp) ?_
        refine AllReadyH.cons (o := { dst := some 83, op := Op.call { callee := Callee.value (Operand.func 12), args := #[Operand.tmp 67, Operand.tmp 72, Operand.const (Value.int IntKind.u64 1), Operand.tmp 77, Operand.tmp 82], argTypes := #[23, 3, 29, 30, 32] }, type := 4, pos := "more.go:62", after := #[{ on := 0, ground := Ground.data }, { on := 5, ground := Ground.data }, { on := 10, ground := Ground.data }, { on := 15, ground := Ground.data }], guard := none }) rfl (fun K hK => ?_) AllReadyH.nil
        go_simp
        refine (on_take (f := xf) (num := 1) (stb_ce (stb_sl (stb_sq stb_emp))) (OB.out.below (stb_eng (stb_ce (stb_sl (stb_sq stb_emp)))) (drew_below w6)) TL.out (XS.out.below (drew_below w6)) XL.out X3.out FO.out rfl rfl).mono ?_
        rintro x w10 ⟨rfl, h10⟩
        have O10 := Lib.hid h10
        have hn := And.intro (CW.out.1 w10 h10.1) (And.intro (CW.out.2.1 w10 h10.1) (CW.out.2.2 w10 h10.1))
        clear h10
        try go_wp2_with fail
        refine hK.out _ _ ?_ (fun hNew => ?_)
        · first | exact hHeld | exact hn
        clear hK K
        replace hHeld := hNew
        clear hNew
        ((try simp only [Act.put]); (try simp only [List.setIfInBounds_toArray]); (try simp only [List.set_cons_succ]); (try simp only [List.set_cons_zero]))
        refine wpAnyH_done (by kernel_rfl) ?_ _
        refine NoPanic.normal ?_
        skip
        clear hHeld x1 x3 x4
        have SGW := take_grow OKE.out xf xt xsb
        obtain ⟨e2, he2⟩ : ∃ e2, e2 = takeE e xf xt xsb := ⟨_, rfl⟩
        rw [← he2] at O10 SGW
        have EN := Lib.hid SGW.1
        have SG := Lib.hid SGW.2.1
        have WG := Lib.hid SGW.2.2
        clear SGW OB he2
        go_wp2_with fail
        refine (on_got (g := e2.G) (stb_ce (stb_sl (stb_sq stb_emp))) O10.out rfl).mono ?_
        rintro x w11 ⟨a10, c10, rfl, h11, -⟩
        have O11 := Lib.hid h11
        obtain ⟨A12, s10, sce, s9, -⟩ := h11.get
        have G1 := Lib.hid s9.1
        have G2 := Lib.hid s10.1
        have PW := Lib.hid sce.1
        clear h11 s10 sce s9 O10
        rw [EN.out]
        obtain ⟨lg, jj, dd, hd1, hd⟩ := SG.out
        have LG := Lib.hid (show e.G.length = e.n ∧ e2.G.length = e.n from ⟨OKE.out.G, by rw [lg]; exact OKE.out.G⟩)
        have HD := Lib.hid hd
        have GT := Lib.hid (show ∀ i, atN e2.G i < 18446744073709551616 from fun i => atN_lt (by decide) G2.out.lt i)
        clear lg hd
        go_wp2_with fail
        go_loopw [11, 12] (fun m i wr => ∃ (t x : Nat), t ≤ e.n ∧ i = .int .i64 (t : Nat) ∧ m = .int .i64 ((if jj < t then dd else 0 : Nat) : Int) ∧ wr = w11.drewN x) (fun _ i _ => e.n - (intOf i).toNat)
        case atStart => exact ⟨0, 0, Nat.zero_le _, rfl, rfl, rfl⟩
        case round =>
          obtain ⟨t, xd, htn, rfl, rfl, rfl⟩ := hrel
          obtain ⟨m0, hm0⟩ : ∃ m0, m0 = (if jj < t then dd else 0 : Nat) := ⟨_, rfl⟩
          have M0 := Lib.hid hm0
          have hm1 : m0 ≤ 1 := by rw [hm0]; split <;> omega
          rw [← hm0]
          clear hm0
          by_cases hlt : t < e.n
          · have ln1 := LG.out.1
            have ln2 := LG.out.2
            obtain ⟨b1, o1, ra1, -, q1⟩ := G1.out.at (i := t) (by omega)
            obtain ⟨b2, o2, ra2, -, q2⟩ := G2.out.at (i := t) (by omega)
            obtain ⟨D0, hD0⟩ : ∃ D0, D0 = (if t = jj then dd else 0 : Nat) := ⟨_, rfl⟩
            have hD1 : D0 ≤ 1 := by rw [hD0]; split <;> omega
            have hyx : atN e2.G t = atN e.G t + D0 := by rw [HD.out t, hD0]
            have hyl := GT.out t
            have M1 := Lib.hid (show m0 + D0 = (if jj < t + 1 then dd else 0 : Nat) from by
              rw [M0.out, hD0]
              by_cases e1 : jj < t
              · rw [if_pos e1, if_neg (by omega), if_pos (by omega)]; omega
              · rw [if_neg e1]
                by_cases e2 : t = jj
                · rw [if_pos e2, if_pos (by omega)]; omega
                · rw [if_neg e2, if_neg (by omega)])
            replace q1 : (w11.drewN xd).cell? ⟨b1, o1 + t, none⟩ = some (.int .u64 ((atN e.G t : Nat) : Int)) := q1
            replace q2 : (w11.drewN xd).cell? ⟨b2, o2 + t, none⟩ = some (.int .u64 ((atN e2.G t : Nat) : Int)) := q2
            clear hD0
            generalize atN e.G t = x at *
            generalize atN e2.G t = y at *
            have dxy : decide ((y : Int) < (x : Int)) = false := decide_eq_false (by omega)
            have dxy2 : decide (y < x) = false := decide_eq_false (by omega)
            have hsub : IntKind.u64.wrap ((y : Int) - (x : Int)) = (D0 : Int) := by rw [wrapQ (by omega)]; omega
            have i8 : (0 : Int) ≤ (t : Int) := by omega
            have i9 : (t : Int) < (e.n : Int) := by omega
            have dt : decide ((t : Int) < (e.n : Int)) = true := decide_eq_true i9
            have he8 := HE8.out
            have hI1 : IntKind.i64.wrap (D0 : Int) = (D0 : Int) := wrapJ (by omega)
            have hI2 : IntKind.i64.wrap ((m0 : Int) + (D0 : Int)) = (m0 : Int) + (D0 : Int) := wrapJ (by omega)
            clear hyx hyl ln1 ln2
            subst ra1 ra2
            go_upto_region 22 with fail
            refine wp_region_noPanic ?_
            refine wp_region_held_drew (S := (fun w' => w'.cell? ⟨b1, o1 + t, none⟩ = some (.int .u64 (x : Int)) ∧ w'.cell? ⟨b2, o2 + t, none⟩ = some (.int .u64 (y : Int)))) (by kernel_rfl) ?_ (fun hHeld => ?_)
            · exact ⟨q1, q2⟩
            refine wpAnyH_take (i := 0) (oi := { dst := some 103, op := Op.move (Operand.tmp 10), type := 42, pos := "more.go:67", after := #[], guard := none }) (v := ?_) rfl (by kernel_rfl) (by kernel_rfl) (by kernel_rfl) (fun _ _ _ h => h) (Or.inl ⟨by rfl, ?_⟩) (by assumption) ?_
            rotate_left
            · (intro w hSw; (try dsimp only at hSw); go_simp; try with_reducible rfl)
            ((try simp only [Act.put]); (try simp only [List.setIfInBounds_toArray]); (try simp only [List.set_cons_succ]); (try simp only [List.set_cons_zero]))
            refine wpAnyH_take (i := 1) (oi := { dst := some 104, op := Op.move (Operand.tmp 12), type := 3, pos := "more.go:67", after := #[], guard := none }) (v := ?_) rfl (by kernel_rfl) (by kernel_rfl) (by kernel_rfl) (fun _ _ _ h => h) (Or.inl ⟨by rfl, ?_⟩) (by assumption) ?_
            rotate_left
            · (intro w hSw; (try dsimp only at hSw); go_simp; try with_reducible rfl)
            ((try simp only [Act.put]); (try simp only [List.setIfInBounds_toArray]); (try simp only [List.set_cons_succ]); (try simp only [List.set_cons_zero]))
            refine wpAnyH_take (i := 2) (oi := { dst := some 105, op := Op.indexAddr 42 (Operand.tmp 103) (Operand.tmp 104), type := 0, pos := "more.go:67", after := #[{ on := 0, ground := Ground.data }, { on := 1, ground := Ground.data }], guard := none }) (v := ?_) rfl (by kernel_rfl) (by kernel_rfl) (by kernel_rfl) (fun _ _ _ h => h) (Or.inl ⟨by rfl, ?_⟩) (by assumption) ?_
            rotate_left
            · (intro w hSw; (try dsimp only at hSw); go_simp; try with_reducible rfl)
            ((try simp only [Act.put]); (try simp only [List.setIfInBounds_toArray]); (try simp only [List.set_cons_succ]); (try simp only [List.set_cons_zero]))
            refine wpAnyH_take (i := 3) (oi := { dst := some 106, op := Op.load 29 (Operand.tmp 105), type := 29, pos := "more.go:67", after := #[{ on := 2, ground := Ground.data }], guard := none }) (v := ?_) rfl (by kernel_rfl) (by kernel_rfl) (by kernel_rfl) (fun _ _ _ h => h) (Or.inl ⟨by rfl, ?_⟩) (by assumption) ?_
            rotate_left
            · (intro w hSw; (try dsimp only at hSw); go_simp; try with_reducible rfl)
            ((try simp only [Act.put]); (try simp only [List.setIfInBounds_toArray]); (try simp only [List.set_cons_succ]); (try simp only [List.set_cons_zero]))
            refine wpAnyH_take (i := 4) (oi := { dst := some 107, op := Op.move (Operand.tmp 9), type := 42, pos := "more.go:67", after := #[], guard := none }) (v := ?_) rfl (by kernel_rfl) (by kernel_rfl) (by kernel_rfl) (fun _ _ _ h => h) (Or.inl ⟨by rfl, ?_⟩) (by assumption) ?_
            rotate_left
            · (intro w hSw; (try dsimp only at hSw); go_simp; try with_reducible rfl)
            ((try simp only [Act.put]); (try simp only [List.setIfInBounds_toArray]); (try simp only [List.set_cons_succ]); (try simp only [List.set_cons_zero]))
            refine wpAnyH_take (i := 5) (oi := { dst := some 108, op := Op.move (Operand.tmp 12), type := 3, pos := "more.go:67", after := #[], guard := none }) (v := ?_) rfl (by kernel_rfl) (by kernel_rfl) (by kernel_rfl) (fun _ _ _ h => h) (Or.inl ⟨by rfl, ?_⟩) (by assumption) ?_
            rotate_left
            · (intro w hSw; (try dsimp only at hSw); go_simp; try with_reducible rfl)
            ((try simp only [Act.put]); (try simp only [List.setIfInBounds_toArray]); (try simp only [List.set_cons_succ]); (try simp only [List.set_cons_zero]))
            refine wpAnyH_take (i := 6) (oi := { dst := some 109, op := Op.indexAddr 42 (Operand.tmp 107) (Operand.tmp 108), type := 0, pos := "more.go:67", after := #[{ on := 4, ground := Ground.data }, { on := 5, ground := Ground.data }], guard := none }) (v := ?_) rfl (by kernel_rfl) (by kernel_rfl) (by kernel_rfl) (fun _ _ _ h => h) (Or.inl ⟨by rfl, ?_⟩) (by assumption) ?_
            rotate_left
            · (intro w hSw; (try dsimp only at hSw); go_simp; try with_reducible rfl)
            ((try simp only [Act.put]); (try simp only [List.setIfInBounds_toArray]); (try simp only [List.set_cons_succ]); (try simp only [List.set_cons_zero]))
            refine wpAnyH_take (i := 7) (oi := { dst := some 110, op := Op.load 29 (Operand.tmp 109), type := 29, pos := "more.go:67", after := #[{ on := 6, ground := Ground.data }], guard := none }) (v := ?_) rfl (by kernel_rfl) (by kernel_rfl) (by kernel_rfl) (fun _ _ _ h => h) (Or.inl ⟨by rfl, ?_⟩) (by assumption) ?_
            rotate_left
            · (intro w hSw; (try dsimp only at hSw); go_simp; try with_reducible rfl)
            ((try simp only [Act.put]); (try simp only [List.setIfInBounds_toArray]); (try simp only [List.set_cons_succ]); (try simp only [List.set_cons_zero]))
            refine wpAnyH_take (i := 8) (oi := { dst := some 111, op := Op.binOp BinOp.lss 29 (Operand.tmp 106) (Operand.tmp 110) 29, type := 4, pos := "more.go:67", after := #[{ on := 3, ground := Ground.data }, { on := 7, ground := Ground.data }], guard := none }) (v := ?_) rfl (by kernel_rfl) (by kernel_rfl) (by kernel_rfl) (fun _ _ _ h => h) (Or.inl ⟨by rfl, ?_⟩) (by assumption) ?_
            rotate_left
            · (intro w hSw; (try dsimp only at hSw); go_simp; try with_reducible rfl)
            ((try simp only [Act.put]); (try simp only [List.setIfInBounds_toArray]); (try simp only [List.set_cons_succ]); (try simp only [List.set_cons_zero]))
            refine wpAnyH_done (by kernel_rfl) ?_ _
            refine NoPanic.normal ?_
            skip
            clear hHeld
            go_upto_region 24 with fail
            refine wp_region_noPanic ?_
            refine wp_region_held_drew (S := (fun w' => w'.cell? ⟨b1, o1 + t, none⟩ = some (.int .u64 (x : Int)) ∧ w'.cell? ⟨b2, o2 + t, none⟩ = some (.int .u64 (y : Int)))) (by kernel_rfl) ?_ (fun hHeld => ?_)
            · exact ⟨q1, q2⟩
            refine wpAnyH_take (i := 0) (oi := { dst := some 112, op := Op.move (Operand.tmp 11), type := 3, pos := "more.go:70", after := #[], guard := none }) (v := ?_) rfl (by kernel_rfl) (by kernel_rfl) (by kernel_rfl) (fun _ _ _ h => h) (Or.inl ⟨by rfl, ?_⟩) (by assumption) ?_
            rotate_left
            · (intro w hSw; (try dsimp only at hSw); go_simp; try with_reducible rfl)
            ((try simp only [Act.put]); (try simp only [List.setIfInBounds_toArray]); (try simp only [List.set_cons_succ]); (try simp only [List.set_cons_zero]))
            refine wpAnyH_take (i := 1) (oi := { dst := some 113, op := Op.move (Operand.tmp 10), type := 42, pos := "more.go:70", after := #[], guard := none }) (v := ?_) rfl (by kernel_rfl) (by kernel_rfl) (by kernel_rfl) (fun _ _ _ h => h) (Or.inl ⟨by rfl, ?_⟩) (by assumption) ?_
            rotate_left
            · (intro w hSw; (try dsimp only at hSw); go_simp; try with_reducible rfl)
            ((try simp only [Act.put]); (try simp only [List.setIfInBounds_toArray]); (try simp only [List.set_cons_succ]); (try simp only [List.set_cons_zero]))
            refine wpAnyH_take (i := 2) (oi := { dst := some 114, op := Op.move (Operand.tmp 12), type := 3, pos := "more.go:70", after := #[], guard := none }) (v := ?_) rfl (by kernel_rfl) (by kernel_rfl) (by kernel_rfl) (fun _ _ _ h => h) (Or.inl ⟨by rfl, ?_⟩) (by assumption) ?_
            rotate_left
            · (intro w hSw; (try dsimp only at hSw); go_simp; try with_reducible rfl)
            ((try simp only [Act.put]); (try simp only [List.setIfInBounds_toArray]); (try simp only [List.set_cons_succ]); (try simp only [List.set_cons_zero]))
            refine wpAnyH_take (i := 3) (oi := { dst := some 115, op := Op.indexAddr 42 (Operand.tmp 113) (Operand.tmp 114), type := 0, pos := "more.go:70", after := #[{ on := 1, ground := Ground.data }, { on := 2, ground := Ground.data }], guard := none }) (v := ?_) rfl (by kernel_rfl) (by kernel_rfl) (by kernel_rfl) (fun _ _ _ h => h) (Or.inl ⟨by rfl, ?_⟩) (by assumption) ?_
            rotate_left
            · (intro w hSw; (try dsimp only at hSw); go_simp; try with_reducible rfl)
            ((try simp only [Act.put]); (try simp only [List.setIfInBounds_toArray]); (try simp only [List.set_cons_succ]); (try simp only [List.set_cons_zero]))
            refine wpAnyH_take (i := 4) (oi := { dst := some 116, op := Op.load 29 (Operand.tmp 115), type := 29, pos := "more.go:70", after := #[{ on := 3, ground := Ground.data }], guard := none }) (v := ?_) rfl (by kernel_rfl) (by kernel_rfl) (by kernel_rfl) (fun _ _ _ h => h) (Or.inl ⟨by rfl, ?_⟩) (by assumption) ?_
            rotate_left
            · (intro w hSw; (try dsimp only at hSw); go_simp; try with_reducible rfl)
            ((try simp only [Act.put]); (try simp only [List.setIfInBounds_toArray]); (try simp only [List.set_cons_succ]); (try simp only [List.set_cons_zero]))
            refine wpAnyH_take (i := 5) (oi := { dst := some 117, op := Op.move (Operand.tmp 9), type := 42, pos := "more.go:70", after := #[], guard := none }) (v := ?_) rfl (by kernel_rfl) (by kernel_rfl) (by kernel_rfl) (fun _ _ _ h => h) (Or.inl ⟨by rfl, ?_⟩) (by assumption) ?_
            rotate_left
            · (intro w hSw; (try dsimp only at hSw); go_simp; try with_reducible rfl)
            ((try simp only [Act.put]); (try simp only [List.setIfInBounds_toArray]); (try simp only [List.set_cons_succ]); (try simp only [List.set_cons_zero]))
            refine wpAnyH_take (i := 6) (oi := { dst := some 118, op := Op.move (Operand.tmp 12), type := 3, pos := "more.go:70", after := #[], guard := none }) (v := ?_) rfl (by kernel_rfl) (by kernel_rfl) (by kernel_rfl) (fun _ _ _ h => h) (Or.inl ⟨by rfl, ?_⟩) (by assumption) ?_
            rotate_left
            · (intro w hSw; (try dsimp only at hSw); go_simp; try with_reducible rfl)
            ((try simp only [Act.put]); (try simp only [List.setIfInBounds_toArray]); (try simp only [List.set_cons_succ]); (try simp only [List.set_cons_zero]))
            refine wpAnyH_take (i := 7) (oi := { dst := some 119, op := Op.indexAddr 42 (Operand.tmp 117) (Operand.tmp 118), type := 0, pos := "more.go:70", after := #[{ on := 5, ground := Ground.data }, { on := 6, ground := Ground.data }], guard := none }) (v := ?_) rfl (by kernel_rfl) (by kernel_rfl) (by kernel_rfl) (fun _ _ _ h => h) (Or.inl ⟨by rfl, ?_⟩) (by assumption) ?_
            rotate_left
            · (intro w hSw; (try dsimp only at hSw); go_simp; try with_reducible rfl)
            ((try simp only [Act.put]); (try simp only [List.setIfInBounds_toArray]); (try simp only [List.set_cons_succ]); (try simp only [List.set_cons_zero]))
            refine wpAnyH_take (i := 8) (oi := { dst := some 120, op := Op.load 29 (Operand.tmp 119), type := 29, pos := "more.go:70", after := #[{ on := 7, ground := Ground.data }], guard := none }) (v := ?_) rfl (by kernel_rfl) (by kernel_rfl) (by kernel_rfl) (fun _ _ _ h => h) (Or.inl ⟨by rfl, ?_⟩) (by assumption) ?_
            rotate_left
            · (intro w hSw; (try dsimp only at hSw); go_simp; try with_reducible rfl)
            ((try simp only [Act.put]); (try simp only [List.setIfInBounds_toArray]); (try simp only [List.set_cons_succ]); (try simp only [List.set_cons_zero]))
            refine wpAnyH_take (i := 9) (oi := { dst := some 121, op := Op.binOp BinOp.sub 29 (Operand.tmp 116) (Operand.tmp 120) 29, type := 29, pos := "more.go:70", after := #[{ on := 4, ground := Ground.data }, { on := 8, ground := Ground.data }], guard := none }) (v := ?_) rfl (by kernel_rfl) (by kernel_rfl) (by kernel_rfl) (fun _ _ _ h => h) (Or.inl ⟨by rfl, ?_⟩) (by assumption) ?_
            rotate_left
            · (intro w hSw; (try dsimp only at hSw); go_simp; try with_reducible rfl)
            ((try simp only [Act.put]); (try simp only [List.setIfInBounds_toArray]); (try simp only [List.set_cons_succ]); (try simp only [List.set_cons_zero]))
            refine wpAnyH_take (i := 10) (oi := { dst := some 122, op := Op.convert 29 3 (Operand.tmp 121), type := 3, pos := "more.go:70", after := #[{ on := 9, ground := Ground.data }], guard := none }) (v := ?_) rfl (by kernel_rfl) (by kernel_rfl) (by kernel_rfl) (fun _ _ _ h => h) (Or.inl ⟨by rfl, ?_⟩) (by assumption) ?_
            rotate_left
            · (intro w hSw; (try dsimp only at hSw); go_simp; try with_reducible rfl)
            ((try simp only [Act.put]); (try simp only [List.setIfInBounds_toArray]); (try simp only [List.set_cons_succ]); (try simp only [List.set_cons_zero]))
            refine wpAnyH_take (i := 11) (oi := { dst := some 123, op := Op.binOp BinOp.add 3 (Operand.tmp 112) (Operand.tmp 122) 3, type := 3, pos := "more.go:70", after := #[{ on := 0, ground := Ground.data }, { on := 10, ground := Ground.data }], guard := none }) (v := ?_) rfl (by kernel_rfl) (by kernel_rfl) (by kernel_rfl) (fun _ _ _ h => h) (Or.inl ⟨by rfl, ?_⟩) (by assumption) ?_
            rotate_left
            · (intro w hSw; (try dsimp only at hSw); go_simp; try with_reducible rfl)
            ((try simp only [Act.put]); (try simp only [List.setIfInBounds_toArray]); (try simp only [List.set_cons_succ]); (try simp only [List.set_cons_zero]))
            refine wpAnyH_take (i := 12) (oi := { dst := some 11, op := Op.assign (Operand.tmp 123), type := 3, pos := "more.go:70", after := #[{ on := 11, ground := Ground.data }, { on := 0, ground := Ground.phase }, { on := 1, ground := Ground.phase }, { on := 2, ground := Ground.phase }, { on := 3, ground := Ground.phase }, { on := 4, ground := Ground.phase }, { on := 5, ground := Ground.phase }, { on := 6, ground := Ground.phase }, { on := 7, ground := Ground.phase }, { on := 8, ground := Ground.phase }, { on := 9, ground := Ground.phase }, { on := 10, ground := Ground.phase }, { on := 11, ground := Ground.phase }], guard := none }) (v := ?_) rfl (by kernel_rfl) (by kernel_rfl) (by kernel_rfl) (fun _ _ _ h => h) (Or.inl ⟨by rfl, ?_⟩) (by assumption) ?_
            rotate_left
            · (intro w hSw; (try dsimp only at hSw); go_simp; try with_reducible rfl)
            ((try simp only [Act.put]); (try simp only [List.setIfInBounds_toArray]); (try simp only [List.set_cons_succ]); (try simp only [List.set_cons_zero]))
            refine wpAnyH_done (by kernel_rfl) ?_ _
            refine NoPanic.normal ?_
            skip
            clear hHeld
            go_wp2_with fail
            go_roundw
            case rel => exact ⟨t + 1, xd + 1 + 1, by omega, by go_num, by rw [← M1.out, Int.natCast_add], rfl⟩
            case measure => simp only [intOf]; omega
          · obtain rfl : t = e.n := by omega
            have dk9 : decide ((e.n : Int) < (e.n : Int)) = false := decide_eq_false (by omega)
            have hm2 : decide ((m0 : Int) > 1) = false := decide_eq_false (by omega)
            have hm3 : decide (1 < m0) = false := decide_eq_false (by omega)
            have OL := Lib.hid (O11.out.below (stb_eng (stb_sl (stb_ce (stb_sl (stb_sq stb_emp))))) (drewN_b (Below.refl _ w11) (xd + 1)))
            have y0 : (w11.drewN (xd + 1)).cell? ⟨pw, 0, none⟩ = some (.int .i64 e.n) := PW.out.c 0 (by decide)
            have y1 : (w11.drewN (xd + 1)).cell? ⟨pw, 1, none⟩ = some (.slice a8 e.n c8) := PW.out.c 1 (by decide)
            go_upto_region 25 with fail
            refine wp_region_noPanic ?_
            refine wp_region_held_drew (S := (fun w' => w'.cell? ⟨pw, 0, none⟩ = some (.int .i64 e.n) ∧ w'.cell? ⟨pw, 1, none⟩ = some (.slice a8 e.n c8))) (by kernel_rfl) ?_ (fun hHeld => ?_)
            · exact ⟨y0, y1⟩
            refine wpAnyH_take (i := 0) (oi := { dst := some 124, op := Op.load 37 (Operand.tmp 8), type := 37, pos := "more.go:72", after := #[], guard := none }) (v := ?_) rfl (by kernel_rfl) (by kernel_rfl) (by kernel_rfl) (fun _ _ _ h => h) (Or.inl ⟨by rfl, ?_⟩) (by assumption) ?_
            rotate_left
            · (intro w hSw; (try dsimp only at hSw); go_simp; try with_reducible rfl)
            ((try simp only [Act.put]); (try simp only [List.setIfInBounds_toArray]); (try simp only [List.set_cons_succ]); (try simp only [List.set_cons_zero]))
            refine wpAnyH_take (i := 1) (oi := { dst := some 125, op := Op.move (Operand.tmp 5), type := 23, pos := "more.go:72", after := #[], guard := none }) (v := ?_) rfl (by kernel_rfl) (by kernel_rfl) (by kernel_rfl) (fun _ _ _ h => h) (Or.inl ⟨by rfl, ?_⟩) (by assumption) ?_
            rotate_left
            · (intro w hSw; (try dsimp only at hSw); go_simp; try with_reducible rfl)
            ((try simp only [Act.put]); (try simp only [List.setIfInBounds_toArray]); (try simp only [List.set_cons_succ]); (try simp only [List.set_cons_zero]))
            refine wpAnyH_ready (rs := [2]) (by kernel_rfl) (by simp) ?_
            refine AllReadyH.cons (o := { dst := some 126, op := Op.call { callee := Callee.value (Operand.func 18), args := #[Operand.tmp 125], argTypes := #[23] }, type := 37, pos := "more.go:72", after := #[{ on := 1, ground := Ground.data }], guard := none }) rfl (fun K hK => ?_) AllReadyH.nil
            go_simp
            refine (on_sent (m := e2.S) (stb_sl (stb_ce (stb_sl (stb_sq stb_emp)))) OL.out rfl).mono ?_
            rintro x w14 ⟨a14, c14, rfl, h14, hb⟩
            have O14 := Lib.hid h14
            clear h14
            try go_wp2_with fail
            refine hK.out _ _ ?_ (fun hNew => ?_)
            · first | exact hHeld | exact ⟨cell_go hHeld.1 hb, cell_go hHeld.2 hb⟩
            clear hK K
            replace hHeld := hNew
            clear hNew
            ((try simp only [Act.put]); (try simp only [List.setIfInBounds_toArray]); (try simp only [List.set_cons_succ]); (try simp only [List.set_cons_zero]))
            refine wpAnyH_ready (rs := [3]) (by kernel_rfl) (by simp) ?_
            refine AllReadyH.cons (o := { dst := some 127, op := Op.call { callee := Callee.value (Operand.func 31), args := #[Operand.tmp 124, Operand.tmp 126], argTypes := #[37, 37] }, type := 4, pos := "more.go:72", after := #[{ on := 0, ground := Ground.data }, { on := 2, ground := Ground.data }, { on := 2, ground := Ground.chain }], guard := none }) rfl (fun K hK => ?_) AllReadyH.nil
            go_simp
            obtain ⟨A15, s15, s10, sce, s9, s8, -⟩ := O14.out.get
            have Q8 := Lib.hid (SqAt.mono (A' := fun _ => True) s8 (fun _ _ _ => trivial))
            have Q15 := Lib.hid (SqAt.mono (A' := fun _ => True) s15 (fun _ _ _ => trivial))
            rw [EN.out] at Q15
            clear s15 s10 sce s9 s8
            try rw [EN.out]
            refine (mwi_at (r := true) Q8.out Q15.out WG.out).mono ?_
            rintro x w15 ⟨rfl, hb⟩
            have O15 := Lib.hid ((O14.out.mono (fun _ _ => eng_drop (R' := Emp) (fun _ _ _ => trivial))).below (stb_eng stb_emp) hb)
            clear Q8 Q15
            try go_wp2_with fail
            refine hK.out _ _ ?_ (fun hNew => ?_)
            · first | exact hHeld | exact ⟨cell_go hHeld.1 hb, cell_go hHeld.2 hb⟩
            clear hK K
            replace hHeld := hNew
            clear hNew
            ((try simp only [Act.put]); (try simp only [List.setIfInBounds_toArray]); (try simp only [List.set_cons_succ]); (try simp only [List.set_cons_zero]))
            refine wpAnyH_take (i := 4) (oi := { dst := some 128, op := Op.unOp UnOp.not 4 (Operand.tmp 127), type := 4, pos := "more.go:72", after := #[{ on := 3, ground := Ground.data }], guard := none }) (v := ?_) rfl (by kernel_rfl) (by kernel_rfl) (by kernel_rfl) (fun _ _ _ h => h) (Or.inl ⟨by rfl, ?_⟩) (by assumption) ?_
            rotate_left
            · (intro w hSw; (try dsimp only at hSw); go_simp; try with_reducible rfl)
            ((try simp only [Act.put]); (try simp only [List.setIfInBounds_toArray]); (try simp only [List.set_cons_succ]); (try simp only [List.set_cons_zero]))
            refine wpAnyH_take (i := 5) (oi := { dst := some 129, op := Op.move (Operand.tmp 128), type := 4, pos := "more.go:72", after := #[{ on := 4, ground := Ground.data }, { on := 3, ground := Ground.chain }], guard := none }) (v := ?_) rfl (by kernel_rfl) (by kernel_rfl) (by kernel_rfl) (fun _ _ _ h => h) (Or.inl ⟨by rfl, ?_⟩) (by assumption) ?_
            rotate_left
            · (intro w hSw; (try dsimp only at hSw); go_simp; try with_reducible rfl)
            ((try simp only [Act.put]); (try simp only [List.setIfInBounds_toArray]); (try simp only [List.set_cons_succ]); (try simp only [List.set_cons_zero]))
            refine wpAnyH_take (i := 6) (oi := { dst := some 130, op := Op.move (Operand.tmp 11), type := 3, pos := "more.go:72", after := #[{ on := 5, ground := Ground.guard }], guard := some (5, false) }) (v := ?_) rfl (by kernel_rfl) (by kernel_rfl) (by kernel_rfl) (fun _ _ _ h => h) (Or.inl ⟨by rfl, ?_⟩) (by assumption) ?_
            rotate_left
            · (intro w hSw; (try dsimp only at hSw); go_simp; try with_reducible rfl)
            ((try simp only [Act.put]); (try simp only [List.setIfInBounds_toArray]); (try simp only [List.set_cons_succ]); (try simp only [List.set_cons_zero]))
            refine wpAnyH_take (i := 7) (oi := { dst := some 131, op := Op.binOp BinOp.gtr 3 (Operand.tmp 130) (Operand.const (Value.int IntKind.i64 1)) 3, type := 4, pos := "more.go:72", after := #[{ on := 6, ground := Ground.data }, { on := 5, ground := Ground.guard }], guard := some (5, false) }) (v := ?_) rfl (by kernel_rfl) (by kernel_rfl) (by kernel_rfl) (fun _ _ _ h => h) (Or.inl ⟨by rfl, ?_⟩) (by assumption) ?_
            rotate_left
            · (intro w hSw; (try dsimp only at hSw); go_simp; try with_reducible rfl)
            ((try simp only [Act.put]); (try simp only [List.setIfInBounds_toArray]); (try simp only [List.set_cons_succ]); (try simp only [List.set_cons_zero]))
            refine wpAnyH_take (i := 8) (oi := { dst := some 132, op := Op.pick (Operand.tmp 129) (Operand.const (Value.bool true)) (Operand.tmp 131), type := 4, pos := "more.go:72", after := #[{ on := 5, ground := Ground.data }, { on := 7, ground := Ground.data }], guard := none }) (v := ?_) rfl (by kernel_rfl) (by kernel_rfl) (by kernel_rfl) (fun _ _ _ h => h) (Or.inl ⟨by rfl, ?_⟩) (by assumption) ?_
            rotate_left
            · (intro w hSw; (try dsimp only at hSw); go_simp; try with_reducible rfl)
            ((try simp only [Act.put]); (try simp only [List.setIfInBounds_toArray]); (try simp only [List.set_cons_succ]); (try simp only [List.set_cons_zero]))
            refine wpAnyH_take (i := 9) (oi := { dst := some 133, op := Op.move (Operand.tmp 132), type := 4, pos := "more.go:72", after := #[{ on := 8, ground := Ground.data }, { on := 5, ground := Ground.chain }], guard := none }) (v := ?_) rfl (by kernel_rfl) (by kernel_rfl) (by kernel_rfl) (fun _ _ _ h => h) (Or.inl ⟨by rfl, ?_⟩) (by assumption) ?_
            rotate_left
            · (intro w hSw; (try dsimp only at hSw); go_simp; try with_reducible rfl)
            ((try simp only [Act.put]); (try simp only [List.setIfInBounds_toArray]); (try simp only [List.set_cons_succ]); (try simp only [List.set_cons_zero]))
            refine wpAnyH_take (i := 10) (oi := { dst := some 134, op := Op.move (Operand.tmp 10), type := 42, pos := "more.go:72", after := #[{ on := 9, ground := Ground.guard }], guard := some (9, false) }) (v := ?_) rfl (by kernel_rfl) (by kernel_rfl) (by kernel_rfl) (fun _ _ _ h => h) (Or.inl ⟨by rfl, ?_⟩) (by assumption) ?_
            rotate_left
            · (intro w hSw; (try dsimp only at hSw); go_simp; try with_reducible rfl)
            ((try simp only [Act.put]); (try simp only [List.setIfInBounds_toArray]); (try simp only [List.set_cons_succ]); (try simp only [List.set_cons_zero]))
            refine wpAnyH_take (i := 11) (oi := { dst := some 135, op := Op.call { callee := Callee.builtin Builtin.len, args := #[Operand.tmp 134], argTypes := #[42] }, type := 3, pos := "more.go:72", after := #[{ on := 10, ground := Ground.data }, { on := 9, ground := Ground.guard }], guard := some (9, false) }) (v := ?_) rfl (by kernel_rfl) (by kernel_rfl) (by kernel_rfl) (fun _ _ _ h => h) (Or.inl ⟨by rfl, ?_⟩) (by assumption) ?_
            rotate_left
            · (intro w hSw; (try dsimp only at hSw); go_simp; try with_reducible rfl)
            ((try simp only [Act.put]); (try simp only [List.setIfInBounds_toArray]); (try simp only [List.set_cons_succ]); (try simp only [List.set_cons_zero]))
            refine wpAnyH_take (i := 12) (oi := { dst := some 136, op := Op.move (Operand.tmp 0), type := 3, pos := "more.go:72", after := #[{ on := 9, ground := Ground.guard }], guard := some (9, false) }) (v := ?_) rfl (by kernel_rfl) (by kernel_rfl) (by kernel_rfl) (fun _ _ _ h => h) (Or.inl ⟨by rfl, ?_⟩) (by assumption) ?_
            rotate_left
            · (intro w hSw; (try dsimp only at hSw); go_simp; try with_reducible rfl)
            ((try simp only [Act.put]); (try simp only [List.setIfInBounds_toArray]); (try simp only [List.set_cons_succ]); (try simp only [List.set_cons_zero]))
            refine wpAnyH_take (i := 13) (oi := { dst := some 137, op := Op.binOp BinOp.neq 3 (Operand.tmp 135) (Operand.tmp 136) 3, type := 4, pos := "more.go:72", after := #[{ on := 11, ground := Ground.data }, { on := 12, ground := Ground.data }, { on := 9, ground := Ground.guard }], guard := some (9, false) }) (v := ?_) rfl (by kernel_rfl) (by kernel_rfl) (by kernel_rfl) (fun _ _ _ h => h) (Or.inl ⟨by rfl, ?_⟩) (by assumption) ?_
            rotate_left
            · (intro w hSw; (try dsimp only at hSw); go_simp; try with_reducible rfl)
            ((try simp only [Act.put]); (try simp only [List.setIfInBounds_toArray]); (try simp only [List.set_cons_succ]); (try simp only [List.set_cons_zero]))
            refine wpAnyH_take (i := 14) (oi := { dst := some 138, op := Op.pick (Operand.tmp 133) (Operand.const (Value.bool true)) (Operand.tmp 137), type := 4, pos := "more.go:72", after := #[{ on := 9, ground := Ground.data }, { on := 13, ground := Ground.data }], guard := none }) (v := ?_) rfl (by kernel_rfl) (by kernel_rfl) (by kernel_rfl) (fun _ _ _ h => h) (Or.inl ⟨by rfl, ?_⟩) (by assumption) ?_
            rotate_left
            · (intro w hSw; (try dsimp only at hSw); go_simp; try with_reducible rfl)
            ((try simp only [Act.put]); (try simp only [List.setIfInBounds_toArray]); (try simp only [List.set_cons_succ]); (try simp only [List.set_cons_zero]))
            refine wpAnyH_take (i := 15) (oi := { dst := some 139, op := Op.move (Operand.tmp 138), type := 4, pos := "more.go:72", after := #[{ on := 14, ground := Ground.data }, { on := 9, ground := Ground.chain }], guard := none }) (v := ?_) rfl (by kernel_rfl) (by kernel_rfl) (by kernel_rfl) (fun _ _ _ h => h) (Or.inl ⟨by rfl, ?_⟩) (by assumption) ?_
            rotate_left
            · (intro w hSw; (try dsimp only at hSw); go_simp; try with_reducible rfl)
            ((try simp only [Act.put]); (try simp only [List.setIfInBounds_toArray]); (try simp only [List.set_cons_succ]); (try simp only [List.set_cons_zero]))
            refine wpAnyH_take (i := 16) (oi := { dst := some 140, op := Op.move (Operand.tmp 9), type := 42, pos := "more.go:72", after := #[{ on := 15, ground := Ground.guard }], guard := some (15, false) }) (v := ?_) rfl (by kernel_rfl) (by kernel_rfl) (by kernel_rfl) (fun _ _ _ h => h) (Or.inl ⟨by rfl, ?_⟩) (by assumption) ?_
            rotate_left
            · (intro w hSw; (try dsimp only at hSw); go_simp; try with_reducible rfl)
            ((try simp only [Act.put]); (try simp only [List.setIfInBounds_toArray]); (try simp only [List.set_cons_succ]); (try simp only [List.set_cons_zero]))
            refine wpAnyH_take (i := 17) (oi := { dst := some 141, op := Op.call { callee := Callee.builtin Builtin.len, args := #[Operand.tmp 140], argTypes := #[42] }, type := 3, pos := "more.go:72", after := #[{ on := 16, ground := Ground.data }, { on := 15, ground := Ground.guard }], guard := some (15, false) }) (v := ?_) rfl (by kernel_rfl) (by kernel_rfl) (by kernel_rfl) (fun _ _ _ h => h) (Or.inl ⟨by rfl, ?_⟩) (by assumption) ?_
            rotate_left
            · (intro w hSw; (try dsimp only at hSw); go_simp; try with_reducible rfl)
            ((try simp only [Act.put]); (try simp only [List.setIfInBounds_toArray]); (try simp only [List.set_cons_succ]); (try simp only [List.set_cons_zero]))
            refine wpAnyH_take (i := 18) (oi := { dst := some 142, op := Op.move (Operand.tmp 0), type := 3, pos := "more.go:72", after := #[{ on := 15, ground := Ground.guard }], guard := some (15, false) }) (v := ?_) rfl (by kernel_rfl) (by kernel_rfl) (by kernel_rfl) (fun _ _ _ h => h) (Or.inl ⟨by rfl, ?_⟩) (by assumption) ?_
            rotate_left
            · (intro w hSw; (try dsimp only at hSw); go_simp; try with_reducible rfl)
            ((try simp only [Act.put]); (try simp only [List.setIfInBounds_toArray]); (try simp only [List.set_cons_succ]); (try simp only [List.set_cons_zero]))
            refine wpAnyH_take (i := 19) (oi := { dst := some 143, op := Op.binOp BinOp.neq 3 (Operand.tmp 141) (Operand.tmp 142) 3, type := 4, pos := "more.go:72", after := #[{ on := 17, ground := Ground.data }, { on := 18, ground := Ground.data }, { on := 15, ground := Ground.guard }], guard := some (15, false) }) (v := ?_) rfl (by kernel_rfl) (by kernel_rfl) (by kernel_rfl) (fun _ _ _ h => h) (Or.inl ⟨by rfl, ?_⟩) (by assumption) ?_
            rotate_left
            · (intro w hSw; (try dsimp only at hSw); go_simp; try with_reducible rfl)
            ((try simp only [Act.put]); (try simp only [List.setIfInBounds_toArray]); (try simp only [List.set_cons_succ]); (try simp only [List.set_cons_zero]))
            refine wpAnyH_take (i := 20) (oi := { dst := some 144, op := Op.pick (Operand.tmp 139) (Operand.const (Value.bool true)) (Operand.tmp 143), type := 4, pos := "more.go:72", after := #[{ on := 15, ground := Ground.data }, { on := 19, ground := Ground.data }], guard := none }) (v := ?_) rfl (by kernel_rfl) (by kernel_rfl) (by kernel_rfl) (fun _ _ _ h => h) (Or.inl ⟨by rfl, ?_⟩) (by assumption) ?_
            rotate_left
            · (intro w hSw; (try dsimp only at hSw); go_simp; try with_reducible rfl)
            ((try simp only [Act.put]); (try simp only [List.setIfInBounds_toArray]); (try simp only [List.set_cons_succ]); (try simp only [List.set_cons_zero]))
            refine wpAnyH_done (by kernel_rfl) ?_ _
            refine NoPanic.normal ?_
            go_wp2_with fail
            go_roundw
            case rel => exact ⟨k + 1, e2, by omega, by go_num, EN.out, O15.out⟩
            case measure => simp only [intOf]; omega
    · obtain rfl : k = l.length := by omega
      have dk : decide ((l.length : Int) < (l.length : Int)) = false := decide_eq_false (by omega)
      have BF := Lib.hid O.out.1
      go_wp2_with fail
      go_ret
      exact ⟨rfl, BF.out⟩

end Go.Proofs.Ytopnagjbdjicaaa
