/-
  FullPlays.
-/
import Derived.Test.YtopnagjbdjicaaaMan
import Derived.Test.YtopnagjbdjicaaaWstrm
import Derived.Deep.RegionHeld3
namespace Go.Proofs.Ytopnagjbdjicaaa
open Go.RowKit

theorem Try.infoX : (Try.prog.info? 32).map (fun i => (i.zero, i.size, i.bytes)) = some (some (.slice none 0 0), 1, 24) := by kernel_rfl
theorem take_same (e : En) (f : Int) (t : Nat) (b : List Nat) : (takeE e f t b).n = e.n ∧ (takeE e f t b).me = e.me := by
  cases hc : canE e f b
  · rw [takeE_no hc]; exact ⟨rfl, rfl⟩
  · obtain ⟨m, hm, -⟩ := canE_is hc
    rw [takeE_yes hc hm]; exact ⟨rfl, rfl⟩

set_option maxRecDepth 20000 in
set_option maxHeartbeats 16000000 in
theorem law_FullPlays (n me : Int) (l : List Fa) (ao : Option Addr) (c0 : Nat) (W : World) (_bn : -9223372036854775808 ≤ n ∧ n ≤ 9223372036854775807) (bm : -9223372036854775808 ≤ me ∧ me ≤ 9223372036854775807) (b0 : FaAt W ao c0 l) :
    Calls Try.prog 4 #[.int .i64 n, .int .i64 me, .slice ao l.length c0] W (VOk W) := by
  have hf := b0.fit
  have hm := b0.max
  unfold maxLen at hm
  have FA := Lib.hid b0
  have HME := Lib.hid (show IntOk me from bm)
  clear b0 bm _bn
  obtain ⟨ti, hi0, hz0, hz1, hz2⟩ := info_v Try.infoX
  go_enter Try.func4, Try.ntmps4
  go_wp2_with fail
  refine (fawake_any W).mono ?_
  rintro x w0 ⟨rfl, hb⟩
  have B := Lib.hid hb
  clear hb
  by_cases h0 : n < 1
  · have d0 : decide (n < 1) = true := decide_eq_true h0
    have CN := Lib.hid (en_none w0 (z := n) (y := me) HME.out (by omega))
    clear h0
    go_wp2_with fail
    refine CN.out.mono ?_
    rintro x w1 ⟨rfl, hb⟩
    have B1 := Lib.hid (B.out.trans (hb.mono B.out.size))
    clear hb CN
    go_wp2_with fail
    go_ret
    exact ⟨rfl, B1.out⟩
  have d0 : decide (n < 1) = false := decide_eq_false h0
  by_cases h1 : n > 16
  · have d1 : decide (n > 16) = true := decide_eq_true h1
    have CN := Lib.hid (en_none w0 (z := n) (y := me) HME.out (by omega))
    clear h0 h1
    go_wp2_with fail
    refine CN.out.mono ?_
    rintro x w1 ⟨rfl, hb⟩
    have B1 := Lib.hid (B.out.trans (hb.mono B.out.size))
    clear hb CN
    go_wp2_with fail
    go_ret
    exact ⟨rfl, B1.out⟩
  have d1 : decide (n > 16) = false := decide_eq_false h1
  by_cases h2 : me < 0
  · have d2 : decide (me < 0) = true := decide_eq_true h2
    have CN := Lib.hid (en_none w0 (z := n) (y := me) HME.out (by omega))
    clear h0 h1 h2
    go_wp2_with fail
    refine CN.out.mono ?_
    rintro x w1 ⟨rfl, hb⟩
    have B1 := Lib.hid (B.out.trans (hb.mono B.out.size))
    clear hb CN
    go_wp2_with fail
    go_ret
    exact ⟨rfl, B1.out⟩
  have d2 : decide (me < 0) = false := decide_eq_false h2
  by_cases h3 : me ≥ n
  · have d3 : decide (me ≥ n) = true := decide_eq_true h3
    have CN := Lib.hid (en_none w0 (z := n) (y := me) HME.out (by omega))
    clear h0 h1 h2 h3
    go_wp2_with fail
    refine CN.out.mono ?_
    rintro x w1 ⟨rfl, hb⟩
    have B1 := Lib.hid (B.out.trans (hb.mono B.out.size))
    clear hb CN
    go_wp2_with fail
    go_ret
    exact ⟨rfl, B1.out⟩
  have d3 : decide (me ≥ n) = false := decide_eq_false h3
  obtain ⟨n, rfl⟩ : ∃ k : Nat, n = k := ⟨n.toNat, by omega⟩
  obtain ⟨me, rfl⟩ : ∃ k : Nat, me = k := ⟨me.toNat, by omega⟩
  have g1 : 1 ≤ n := by omega
  have g2 : n ≤ 16 := by omega
  have g3 : me < n := by omega
  have O0 := Lib.hid (show On W Emp w0 from ⟨B.out, trivial⟩)
  clear h0 h1 h2 h3
  by_cases hx : 40 < l.length
  · have d8 : decide ((l.length : Int) > 40) = true := decide_eq_true (by omega)
    have d9 : decide (40 < l.length) = true := decide_eq_true hx
    clear hx
    go_wp2_with fail
    refine (on_new stb_emp O0.out rfl rfl g1 g2 g3).mono ?_
    rintro x w1 ⟨p, rfl, h1'⟩
    have BF := Lib.hid h1'.1
    clear h1' O0
    go_wp2_with fail
    go_ret
    exact ⟨rfl, BF.out⟩
  have d8 : decide ((l.length : Int) > 40) = false := decide_eq_false (by omega)
  have d9 : decide (40 < l.length) = false := decide_eq_false hx
  have HL40 := Lib.hid (show l.length ≤ 40 by omega)
  clear hx
  go_wp2_with fail
  refine (on_new stb_emp O0.out rfl rfl g1 g2 g3).mono ?_
  rintro x w1 ⟨p, rfl, h1'⟩
  have O1 := Lib.hid h1'
  clear h1' O0
  go_wp2_with fail
  refine (on_begun (stb_eng stb_emp) O1.out rfl rfl g1 g2 g3).mono ?_
  rintro x w2 ⟨q, rfl, h2'⟩
  have O2 := Lib.hid (h2'.mono (fun A w h => eng_drop (fun A w h => den_drop (fun A w h => tl_nil stb_emp h) h) (den_back stb_emp h)))
  clear h2' O1
  go_wp2_with fail
  go_loopw [10, 11] (fun s i wr => ∃ (k : Nat) (e : En) (T : List Rd), k ≤ l.length ∧ i = .int .i64 (k : Nat) ∧ e.n = n ∧ e.me = me ∧ T.length ≤ 64 * k ∧ (∀ r ∈ T, r.l.length ≤ 2560) ∧ On W (Eng p e (Den q e (Tl s T Emp))) wr) (fun _ i _ => l.length - (intOf i).toNat)
  case atStart => exact ⟨0, _, [], Nat.zero_le _, rfl, rfl, rfl, by simp, by simp, O2.out⟩
  case round =>
    obtain ⟨k, e, T, hk, rfl, hE, hM, hT, hTL, hO⟩ := hrel
    have O := Lib.hid hO
    have HTL := Lib.hid hTL
    clear hO O2 hTL
    subst hE hM
    obtain ⟨A9, hA9, hT9⟩ := O.out.tl3
    obtain ⟨la, lc, rfl⟩ := own_form hT9.1
    have LO := Lib.hid (show ∀ j, (Value.slice la T.length lc).ownBlock = some j → W.heap.size ≤ j from fun j e => (hA9 j (hT9.2.1 j e)).1)
    clear hA9 hT9
    by_cases hlt : k < l.length
    · obtain ⟨b, off, ra, hbW, y0, y1, y2, y3, y4⟩ := FA.out.cell k hlt
      subst ra
      have BD := Lib.hid (FA.out.body _ (List.getElem_mem hlt))
      have z0 := cell_go y0 O.out.1
      have z1 := cell_go y1 O.out.1
      have z2 := cell_go y2 O.out.1
      have z3 := cell_go y3 O.out.1
      have z4 := cell_go y4 O.out.1
      clear y0 y1 y2 y3 y4 hbW
      generalize l[k] = xa at *
      obtain ⟨xo, xf, xp, xt, xs⟩ := xa
      obtain ⟨xsa, xsc, xsb⟩ := xs
      simp only at BD z0 z1 z2 z3 z4
      have XS0 := Lib.hid BD.out.1
      have TL := Lib.hid BD.out.2.1
      have FO := Lib.hid BD.out.2.2
      obtain ⟨xsl, hxl⟩ : ∃ n, n = xsb.length := ⟨_, rfl⟩
      rw [← hxl] at z4
      have XL := Lib.hid hxl.symm
      clear BD hxl
      have i0 : (0 : Int) ≤ (k : Int) := by omega
      have i1 : (k : Int) < (l.length : Int) := by omega
      have BX := Lib.hid (box_b wr (.cells #[.int .i64 xo, .int .i64 xf, .int .i64 xp, .int .u64 (xt : Int), .slice xsa xsl xsc] 51))
      have O3 := Lib.hid (O.out.boxv (stb_tl stb_emp) [.int .i64 xo, .int .i64 xf, .int .i64 xp, .int .u64 (xt : Int), .slice xsa xsl xsc] 51)
      clear BX
      have XC := Lib.hid (Cel.new wr [.int .i64 xo, .int .i64 xf, .int .i64 xp, .int .u64 (xt : Int), .slice xsa xsl xsc] 51)
      have v0 : (wr.alloc (.cells #[.int .i64 xo, .int .i64 xf, .int .i64 xp, .int .u64 (xt : Int), .slice xsa xsl xsc] 51)).cell? ⟨wr.heap.size, 0, none⟩ = some (.int .i64 xo) := XC.out.c 0 (by simp)
      have v1 : (wr.alloc (.cells #[.int .i64 xo, .int .i64 xf, .int .i64 xp, .int .u64 (xt : Int), .slice xsa xsl xsc] 51)).cell? ⟨wr.heap.size, 1, none⟩ = some (.int .i64 xf) := XC.out.c 1 (by simp)
      have v2 : (wr.alloc (.cells #[.int .i64 xo, .int .i64 xf, .int .i64 xp, .int .u64 (xt : Int), .slice xsa xsl xsc] 51)).cell? ⟨wr.heap.size, 2, none⟩ = some (.int .i64 xp) := XC.out.c 2 (by simp)
      have v3 : (wr.alloc (.cells #[.int .i64 xo, .int .i64 xf, .int .i64 xp, .int .u64 (xt : Int), .slice xsa xsl xsc] 51)).cell? ⟨wr.heap.size, 3, none⟩ = some (.int .u64 (xt : Int)) := XC.out.c 3 (by simp)
      have v4 : (wr.alloc (.cells #[.int .i64 xo, .int .i64 xf, .int .i64 xp, .int .u64 (xt : Int), .slice xsa xsl xsc] 51)).cell? ⟨wr.heap.size, 4, none⟩ = some (.slice xsa xsl xsc) := XC.out.c 4 (by simp)
      clear XC
      by_cases hx : 600 < xsl
      · have dx : decide ((xsl : Int) > 600) = true := decide_eq_true (by omega)
        have dx2 : decide (600 < xsl) = true := decide_eq_true hx
        have BF := Lib.hid O3.out.1
        clear hx
        go_wp2_with fail
        go_ret
        exact ⟨rfl, BF.out⟩
      have dx : decide ((xsl : Int) > 600) = false := decide_eq_false (by omega)
      have dx2 : decide (600 < xsl) = false := decide_eq_false hx
      have X6 := Lib.hid (show xsl ≤ 2000000 by omega)
      clear hx
      by_cases hp : 0 ≤ xp
      · have d10 : decide (xp ≥ 0) = true := decide_eq_true hp
        by_cases hp2 : xp < (T.length : Int)
        · have d11 : decide (xp < (T.length : Int)) = true := decide_eq_true hp2
          obtain ⟨j, rfl⟩ : ∃ j : Nat, xp = j := ⟨xp.toNat, by omega⟩
          have hj : j < T.length := by omega
          obtain ⟨A9, hA9, hT9⟩ := O.out.tl3
          obtain ⟨g, cg, eg, hcr, hsr⟩ := hT9.row hj
          simp only [Value.slice.injEq, true_and] at eg
          obtain ⟨rfl, rfl⟩ := eg
          have KB := Lib.hid (show ∀ (A' : Nat → Prop) (w' : World), Tl (.slice (some ⟨g, 0, none⟩) T.length lc) T Emp A' w' → SlAt bV 256 w' T[j].a T[j].c T[j].l from fun A' w' h => (h.2.2.1 _ (List.getElem_mem hj)).1)
          have hcd : (wr.alloc (.cells #[.int .i64 xo, .int .i64 xf, .int .i64 (j : Int), .int .u64 (xt : Int), .slice xsa xsl xsc] 51)).cell? ⟨g, j, none⟩ = some (.slice T[j].a T[j].l.length T[j].c) := cell_go hcr (box_b wr (.cells #[.int .i64 xo, .int .i64 xf, .int .i64 (j : Int), .int .u64 (xt : Int), .slice xsa xsl xsc] 51))
          clear hA9 hT9 hsr hcr hp hp2
          have j0 : (0 : Int) ≤ (j : Int) := by omega
          have j1 : (j : Int) < (T.length : Int) := by omega
          have BM0 := HTL.out _ (List.getElem_mem hj)
          generalize T[j] = rj at *
          obtain ⟨ba, bc, bb⟩ := rj
          simp only at KB hcd BM0
          obtain ⟨bl, hbl⟩ : ∃ n, n = bb.length := ⟨_, rfl⟩
          rw [← hbl] at hcd
          have BL := Lib.hid hbl.symm
          have BM := Lib.hid (show bl ≤ 2000000 by omega)
          clear hbl BM0
          by_cases ho : xo = 0
          · have do1 : (xo == 0) = true := by simpa using ho
            clear ho
            as_aux_lemma =>
              obtain ⟨cn, hcn⟩ : ∃ c, (listN (toE e.n e.me xt)).length = c := ⟨_, rfl⟩
              have CN := Lib.hid hcn
              have C64 := Lib.hid (show cn ≤ 64 from by rw [← hcn]; exact toN_len _ 64)
              clear hcn
              obtain ⟨Ls, hLs⟩ : ∃ L, stampL e.S = L := ⟨_, rfl⟩
              have LS := Lib.hid hLs
              have LSL := Lib.hid (show Ls.length ≤ 2560 from by rw [← hLs]; exact stampE_len O3.out.ok)
              clear hLs
              obtain ⟨e2, he2⟩ : ∃ e2, sendE e xt = e2 := ⟨_, rfl⟩
              have E2 := Lib.hid he2
              clear he2
              have N2 := Lib.hid (show e2.n = e.n ∧ e2.me = e.me by rw [← E2.out]; exact ⟨rfl, rfl⟩)
              go_wp2_with fail
              generalize wr.alloc (.cells #[.int .i64 xo, .int .i64 xf, .int .i64 (j : Int), .int .u64 (xt : Int), .slice xsa xsl xsc] 51) = w3 at *
              generalize wr.heap.size = px at *
              have CS := Lib.hid (on_send_in (R' := fun a cap => Den q e (Cx px [.int .i64 xo, .int .i64 xf, .int .i64 (j : Int), .int .u64 (xt : Int), .slice xsa xsl xsc] (Tl (.slice (some ⟨g, 0, none⟩) T.length lc) T (Bq a cap cn (List.replicate cn Ls) Emp)))) (stb_den (stb_cx (stb_tl stb_emp))) O3.out TL.out LS.out CN.out E2.out (fun w' N Fr a cap hN hB => ins_den hN (ins_cx hN (ins_tl hN (ins_bq stb_emp hB)))))
              refine CS.out.mono ?_
              rintro x w4 ⟨a4, c4, rfl, h4⟩
              have O4 := Lib.hid (h4.mono (fun _ _ => den_swap (stb_cx (stb_tl (stb_bq stb_emp)))))
              have XC4 := Lib.hid h4.cx
              have u3 : w4.cell? ⟨px, 3, none⟩ = some (.int .u64 (xt : Int)) := XC4.out.c 3 (by simp)
              clear h4 v0 v1 v2 v3 v4 O3 CS XC4
              go_wp2_with fail
              refine (on_dsend (t := xt) (stb_eng (stb_cx (stb_tl (stb_bq stb_emp)))) O4.out TL.out LS.out CN.out E2.out).mono ?_
              rintro x w5 ⟨a5, c5, rfl, h5⟩
              have O5 := Lib.hid (h5.mono (fun _ _ h => den_back (stb_byx (stb_cx (stb_tl (stb_bq stb_emp)))) (den_drop (byx_swap (stb_cx (stb_tl (stb_bq stb_emp)))) h)))
              clear h5 O4 u3
              go_wp2_with fail
              go_loopw [10, 17] (fun s i wr => ∃ (t : Nat) (T2 : List Rd), t ≤ cn ∧ i = .int .i64 (t : Nat) ∧ T2.length = T.length + t ∧ (∀ r ∈ T2, r.l.length ≤ 2560) ∧ On W (Eng p e2 (Den q e2 (Byx a5 c5 Ls (Cx px [.int .i64 xo, .int .i64 xf, .int .i64 (j : Int), .int .u64 (xt : Int), .slice xsa xsl xsc] (Tl s T2 (Bq a4 c4 cn (List.replicate cn Ls) Emp)))))) wr) (fun _ i _ => cn - (intOf i).toNat)
              case atStart => exact ⟨0, T, Nat.zero_le _, rfl, rfl, HTL.out, O5.out⟩
              case round =>
                obtain ⟨t, T2, htc, rfl, hT2, hTL2, hO⟩ := hrel
                have O6 := Lib.hid hO
                have HTL2 := Lib.hid hTL2
                clear hO O5 hTL2
                by_cases htl : t < cn
                · skip
                  obtain ⟨A9, hA9, hT9, hS5⟩ := O6.out.tl5
                  obtain ⟨la2, lc2, rfl⟩ := own_form hT9.1
                  have LO2 := Lib.hid (show ∀ j, (Value.slice la2 T2.length lc2).ownBlock = some j → W.heap.size ≤ j from fun j e => (hA9 j (hT9.2.1 j e)).1)
                  obtain ⟨b, off, ra, rc, rfl, hc0, hs, -⟩ := hT9.2.2.2.1.row (i := t) htl
                  have hg := Lib.hid (show (List.replicate cn Ls).getD t [] = Ls by simp [htl])
                  rw [hg.out] at hc0 hs
                  have hc : wr.drew.cell? ⟨b, off + t, none⟩ = some (.slice ra Ls.length rc) := hc0
                  have CV1 := Lib.hid (conv_any (hs.below (drew_below wr)) rfl)
                  have CV2 := Lib.hid (conv_any (hS5.below (drew_below wr)) rfl)
                  have t0 : (0 : Int) ≤ (t : Int) := by omega
                  have t1 : (t : Int) < (cn : Int) := by omega
                  have c64 := C64.out
                  have h40 := HL40.out
                  have HT2 := Lib.hid hT2
                  clear hT2
                  clear hA9 hT9 hS5 hs hc0
                  go_upto_region 30 with fail
                  refine wp_region_noPanic ?_
                  refine wp_region_held_drew (S := (fun w' => w'.cell? ⟨b, off + t, none⟩ = some (.slice ra Ls.length rc))) (by kernel_rfl) ?_ (fun hHeld => ?_)
                  · exact hc
                  refine wpAnyH_take (i := 0) (oi := { dst := some 133, op := Op.move (Operand.tmp 14), type := 27, pos := "law.go:196", after := #[], guard := none }) (v := ?_) rfl (by kernel_rfl) (by kernel_rfl) (by kernel_rfl) (fun _ _ _ h => h) (Or.inl ⟨by rfl, ?_⟩) (by assumption) ?_
                  rotate_left
                  · (intro w hSw; (try dsimp only at hSw); go_simp; try with_reducible rfl)
                  ((try simp only [Act.put]); (try simp only [List.setIfInBounds_toArray]); (try simp only [List.set_cons_succ]); (try simp only [List.set_cons_zero]))
                  refine wpAnyH_take (i := 1) (oi := { dst := some 134, op := Op.move (Operand.tmp 17), type := 3, pos := "law.go:196", after := #[], guard := none }) (v := ?_) rfl (by kernel_rfl) (by kernel_rfl) (by kernel_rfl) (fun _ _ _ h => h) (Or.inl ⟨by rfl, ?_⟩) (by assumption) ?_
                  rotate_left
                  · (intro w hSw; (try dsimp only at hSw); go_simp; try with_reducible rfl)
                  ((try simp only [Act.put]); (try simp only [List.setIfInBounds_toArray]); (try simp only [List.set_cons_succ]); (try simp only [List.set_cons_zero]))
                  refine wpAnyH_take (i := 2) (oi := { dst := some 135, op := Op.indexAddr 27 (Operand.tmp 133) (Operand.tmp 134), type := 0, pos := "law.go:196", after := #[{ on := 0, ground := Ground.data }, { on := 1, ground := Ground.data }], guard := none }) (v := ?_) rfl (by kernel_rfl) (by kernel_rfl) (by kernel_rfl) (fun _ _ _ h => h) (Or.inl ⟨by rfl, ?_⟩) (by assumption) ?_
                  rotate_left
                  · (intro w hSw; (try dsimp only at hSw); go_simp; try with_reducible rfl)
                  ((try simp only [Act.put]); (try simp only [List.setIfInBounds_toArray]); (try simp only [List.set_cons_succ]); (try simp only [List.set_cons_zero]))
                  refine wpAnyH_take (i := 3) (oi := { dst := some 136, op := Op.load 32 (Operand.tmp 135), type := 32, pos := "law.go:196", after := #[{ on := 2, ground := Ground.data }], guard := none }) (v := ?_) rfl (by kernel_rfl) (by kernel_rfl) (by kernel_rfl) (fun _ _ _ h => h) (Or.inl ⟨by rfl, ?_⟩) (by assumption) ?_
                  rotate_left
                  · (intro w hSw; (try dsimp only at hSw); go_simp; try with_reducible rfl)
                  ((try simp only [Act.put]); (try simp only [List.setIfInBounds_toArray]); (try simp only [List.set_cons_succ]); (try simp only [List.set_cons_zero]))
                  refine wpAnyH_take (i := 5) (oi := { dst := some 138, op := Op.move (Operand.tmp 15), type := 32, pos := "law.go:196", after := #[], guard := none }) (v := ?_) rfl (by kernel_rfl) (by kernel_rfl) (by kernel_rfl) (fun _ _ _ h => h) (Or.inl ⟨by rfl, ?_⟩) (by assumption) ?_
                  rotate_left
                  · (intro w hSw; (try dsimp only at hSw); go_simp; try with_reducible rfl)
                  ((try simp only [Act.put]); (try simp only [List.setIfInBounds_toArray]); (try simp only [List.set_cons_succ]); (try simp only [List.set_cons_zero]))
                  refine wpAnyH_ready (rs := [4, 6]) (by kernel_rfl) (by simp) ?_
                  refine AllReadyH.cons (o := { dst := some 137, op := Op.convert 32 9 (Operand.tmp 136), type := 9, pos := "law.go:196", after := #[{ on := 3, ground := Ground.data }], guard := none }) rfl (fun K hK => ?_) (AllReadyH.cons (o := { dst := some 139, op := Op.convert 32 9 (Operand.tmp 138), type := 9, pos := "law.go:196", after := #[{ on := 5, ground := Ground.data }], guard := none }) rfl (fun K hK => ?_) AllReadyH.nil)
                  · skip
                    have cv := CV1.out
                    go_simp
                    clear cv
                    try go_wp2_with fail
                    refine hK.out _ _ ?_ (fun hNew => ?_)
                    · exact hHeld
                    clear hK K
                    replace hHeld := hNew
                    clear hNew
                    ((try simp only [Act.put]); (try simp only [List.setIfInBounds_toArray]); (try simp only [List.set_cons_succ]); (try simp only [List.set_cons_zero]))
                    refine wpAnyH_ready (rs := [6]) (by kernel_rfl) (by simp) ?_
                    refine AllReadyH.cons (o := { dst := some 139, op := Op.convert 32 9 (Operand.tmp 138), type := 9, pos := "law.go:196", after := #[{ on := 5, ground := Ground.data }], guard := none }) rfl (fun K hK => ?_) AllReadyH.nil
                    have cv := CV2.out
                    go_simp
                    clear cv
                    try go_wp2_with fail
                    refine hK.out _ _ ?_ (fun hNew => ?_)
                    · exact hHeld
                    clear hK K
                    replace hHeld := hNew
                    clear hNew
                    ((try simp only [Act.put]); (try simp only [List.setIfInBounds_toArray]); (try simp only [List.set_cons_succ]); (try simp only [List.set_cons_zero]))
                    refine wpAnyH_take (i := 7) (oi := { dst := some 140, op := Op.binOp BinOp.neq 9 (Operand.tmp 137) (Operand.tmp 139) 9, type := 4, pos := "law.go:196", after := #[{ on := 4, ground := Ground.data }, { on := 6, ground := Ground.data }], guard := none }) (v := ?_) rfl (by kernel_rfl) (by kernel_rfl) (by kernel_rfl) (fun _ _ _ h => h) (Or.inl ⟨by rfl, ?_⟩) (by assumption) ?_
                    rotate_left
                    · (intro w hSw; (try dsimp only at hSw); go_simp; try with_reducible rfl)
                    ((try simp only [Act.put]); (try simp only [List.setIfInBounds_toArray]); (try simp only [List.set_cons_succ]); (try simp only [List.set_cons_zero]))
                    refine wpAnyH_done (by kernel_rfl) ?_ _
                    refine NoPanic.normal ?_
                    clear hHeld CV1 CV2
                    have O7 := Lib.hid (O6.out.below (stb_eng (stb_den (stb_byx (stb_cx (stb_tl (stb_bq stb_emp)))))) (drew_below wr))
                    clear O6
                    generalize wr.drew = w9 at *
                    have hb9 : Below w9.heap.size w9 (w9.alloc (.cells #[.slice ra Ls.length rc] 32)) := box_b w9 (.cells #[.slice ra Ls.length rc] 32)
                    have O9 := Lib.hid (O7.out.below (stb_eng (stb_den (stb_byx (stb_cx (stb_tl (stb_bq stb_emp)))))) hb9)
                    have hc5 := Lib.hid (cell_go hc hb9)
                    clear hb9
                    have NX := Lib.hid (fun (v6 : Value) (w6 : World) (hown : w6.ownsRow 0 32 1 v6 (T2.length + 1) (T2.map rdV ++ [.slice ra Ls.length rc])) (hgr : (w9.alloc (.cells #[.slice ra Ls.length rc] 32)).grownBy w6 (Value.slice la2 T2.length lc2).ownBlock) (hat : ∀ j, v6.ownBlock = some j → (Value.slice la2 T2.length lc2).ownBlock = some j ∨ (w9.alloc (.cells #[.slice ra Ls.length rc] 32)).heap.size ≤ j) =>
                      show On W (Eng p e2 (Den q e2 (Byx a5 c5 Ls (Cx px [.int .i64 xo, .int .i64 xf, .int .i64 (j : Int), .int .u64 (xt : Int), .slice xsa xsl xsc] (Tl v6 (T2 ++ [⟨ra, rc, Ls⟩]) (Bq (some ⟨b, off, none⟩) c4 cn (List.replicate cn Ls) Emp)))))) w6 from by
                        have kk : Keep (fun j => (Value.slice la2 T2.length lc2).ownBlock = some j) (w9.alloc (.cells #[.slice ra Ls.length rc] 32)) w6 := (Keep.refl _ _).grown hgr (fun j h => Or.inl h)
                        have hu := upd_tl (L := T2) (cap := c4) (n := cn) (m := List.replicate cn Ls) (R := Emp) stb_emp (i := t) htl rfl (by rw [hg.out]; exact hc5.out) hgr (by rw [hg.out]; exact hown) hat
                        rw [hg.out] at hu
                        exact O9.out.upd kk (upd_eng kk (upd_den kk (upd_byx kk (upd_cx kk hu)))) (fun j e => Or.inl (LO2.out j e)))
                    have OW := Lib.hid (show (w9.alloc (.cells #[.slice ra Ls.length rc] 32)).ownsRow 0 32 1 (.slice la2 T2.length lc2) T2.length (T2.map rdV) from by
                      obtain ⟨A9, -, hT9, -⟩ := O9.out.tl5
                      exact hT9.1)
                    clear O7 O9 hc5
                    go_wp2_with (at_builtin
                                 refine wpList_append_at rfl (.tmp 141) (.tmp 146) 27 rfl 0 32 ti (.slice none 0 0) 1 24 Try.underlying27 hi0 hz0 hz1 hz2 rfl (by decide) (.slice la2 T2.length lc2) T2.length (T2.map rdV) rfl OW.out _ _ _ [.slice ra Ls.length rc] rfl ?h2 ?h3 ?h4 ?h5 ?h6 ?h7 ?h8 ?_
                                 case h2 => rfl
                                 case h3 => intro e; cases e
                                 case h4 => exact lit_cell _ _ _
                                 case h5 => intro u' hu; (rw [List.mem_singleton.1 hu]; rfl)
                                 case h6 => have := HT2.out; unfold maxLen; omega
                                 case h7 => have := HT2.out; omega
                                 case h8 => exact Nat.zero_le _
                                 intro v6 w6 hown6 hgr6 hat6
                                 have O10 := Lib.hid (NX.out v6 w6 hown6 hgr6 hat6)
                                 clear hown6 hgr6 hat6)
                    go_roundw
                    case rel => exact ⟨t + 1, _, by omega, by go_num, by have := HT2.out; simp; omega, fun r hr => (List.mem_append.1 hr).elim (HTL2.out r) (fun h => by rw [List.mem_singleton.1 h]; exact LSL.out), O10.out⟩
                    case measure => simp only [intOf]; omega
                  · skip
                    have cv := CV2.out
                    go_simp
                    clear cv
                    try go_wp2_with fail
                    refine hK.out _ _ ?_ (fun hNew => ?_)
                    · exact hHeld
                    clear hK K
                    replace hHeld := hNew
                    clear hNew
                    ((try simp only [Act.put]); (try simp only [List.setIfInBounds_toArray]); (try simp only [List.set_cons_succ]); (try simp only [List.set_cons_zero]))
                    refine wpAnyH_ready (rs := [4]) (by kernel_rfl) (by simp) ?_
                    refine AllReadyH.cons (o := { dst := some 137, op := Op.convert 32 9 (Operand.tmp 136), type := 9, pos := "law.go:196", after := #[{ on := 3, ground := Ground.data }], guard := none }) rfl (fun K hK => ?_) AllReadyH.nil
                    have cv := CV1.out
                    go_simp
                    clear cv
                    try go_wp2_with fail
                    refine hK.out _ _ ?_ (fun hNew => ?_)
                    · exact hHeld
                    clear hK K
                    replace hHeld := hNew
                    clear hNew
                    ((try simp only [Act.put]); (try simp only [List.setIfInBounds_toArray]); (try simp only [List.set_cons_succ]); (try simp only [List.set_cons_zero]))
                    refine wpAnyH_take (i := 7) (oi := { dst := some 140, op := Op.binOp BinOp.neq 9 (Operand.tmp 137) (Operand.tmp 139) 9, type := 4, pos := "law.go:196", after := #[{ on := 4, ground := Ground.data }, { on := 6, ground := Ground.data }], guard := none }) (v := ?_) rfl (by kernel_rfl) (by kernel_rfl) (by kernel_rfl) (fun _ _ _ h => h) (Or.inl ⟨by rfl, ?_⟩) (by assumption) ?_
                    rotate_left
                    · (intro w hSw; (try dsimp only at hSw); go_simp; try with_reducible rfl)
                    ((try simp only [Act.put]); (try simp only [List.setIfInBounds_toArray]); (try simp only [List.set_cons_succ]); (try simp only [List.set_cons_zero]))
                    refine wpAnyH_done (by kernel_rfl) ?_ _
                    refine NoPanic.normal ?_
                    clear hHeld CV1 CV2
                    have O7 := Lib.hid (O6.out.below (stb_eng (stb_den (stb_byx (stb_cx (stb_tl (stb_bq stb_emp)))))) (drew_below wr))
                    clear O6
                    generalize wr.drew = w9 at *
                    have hb9 : Below w9.heap.size w9 (w9.alloc (.cells #[.slice ra Ls.length rc] 32)) := box_b w9 (.cells #[.slice ra Ls.length rc] 32)
                    have O9 := Lib.hid (O7.out.below (stb_eng (stb_den (stb_byx (stb_cx (stb_tl (stb_bq stb_emp)))))) hb9)
                    have hc5 := Lib.hid (cell_go hc hb9)
                    clear hb9
                    have NX := Lib.hid (fun (v6 : Value) (w6 : World) (hown : w6.ownsRow 0 32 1 v6 (T2.length + 1) (T2.map rdV ++ [.slice ra Ls.length rc])) (hgr : (w9.alloc (.cells #[.slice ra Ls.length rc] 32)).grownBy w6 (Value.slice la2 T2.length lc2).ownBlock) (hat : ∀ j, v6.ownBlock = some j → (Value.slice la2 T2.length lc2).ownBlock = some j ∨ (w9.alloc (.cells #[.slice ra Ls.length rc] 32)).heap.size ≤ j) =>
                      show On W (Eng p e2 (Den q e2 (Byx a5 c5 Ls (Cx px [.int .i64 xo, .int .i64 xf, .int .i64 (j : Int), .int .u64 (xt : Int), .slice xsa xsl xsc] (Tl v6 (T2 ++ [⟨ra, rc, Ls⟩]) (Bq (some ⟨b, off, none⟩) c4 cn (List.replicate cn Ls) Emp)))))) w6 from by
                        have kk : Keep (fun j => (Value.slice la2 T2.length lc2).ownBlock = some j) (w9.alloc (.cells #[.slice ra Ls.length rc] 32)) w6 := (Keep.refl _ _).grown hgr (fun j h => Or.inl h)
                        have hu := upd_tl (L := T2) (cap := c4) (n := cn) (m := List.replicate cn Ls) (R := Emp) stb_emp (i := t) htl rfl (by rw [hg.out]; exact hc5.out) hgr (by rw [hg.out]; exact hown) hat
                        rw [hg.out] at hu
                        exact O9.out.upd kk (upd_eng kk (upd_den kk (upd_byx kk (upd_cx kk hu)))) (fun j e => Or.inl (LO2.out j e)))
                    have OW := Lib.hid (show (w9.alloc (.cells #[.slice ra Ls.length rc] 32)).ownsRow 0 32 1 (.slice la2 T2.length lc2) T2.length (T2.map rdV) from by
                      obtain ⟨A9, -, hT9, -⟩ := O9.out.tl5
                      exact hT9.1)
                    clear O7 O9 hc5
                    go_wp2_with (at_builtin
                                 refine wpList_append_at rfl (.tmp 141) (.tmp 146) 27 rfl 0 32 ti (.slice none 0 0) 1 24 Try.underlying27 hi0 hz0 hz1 hz2 rfl (by decide) (.slice la2 T2.length lc2) T2.length (T2.map rdV) rfl OW.out _ _ _ [.slice ra Ls.length rc] rfl ?h2 ?h3 ?h4 ?h5 ?h6 ?h7 ?h8 ?_
                                 case h2 => rfl
                                 case h3 => intro e; cases e
                                 case h4 => exact lit_cell _ _ _
                                 case h5 => intro u' hu; (rw [List.mem_singleton.1 hu]; rfl)
                                 case h6 => have := HT2.out; unfold maxLen; omega
                                 case h7 => have := HT2.out; omega
                                 case h8 => exact Nat.zero_le _
                                 intro v6 w6 hown6 hgr6 hat6
                                 have O10 := Lib.hid (NX.out v6 w6 hown6 hgr6 hat6)
                                 clear hown6 hgr6 hat6)
                    go_roundw
                    case rel => exact ⟨t + 1, _, by omega, by go_num, by have := HT2.out; simp; omega, fun r hr => (List.mem_append.1 hr).elim (HTL2.out r) (fun h => by rw [List.mem_singleton.1 h]; exact LSL.out), O10.out⟩
                    case measure => simp only [intOf]; omega
                · obtain rfl : t = cn := by omega
                  have dkk : decide ((t : Int) < (t : Int)) = false := decide_eq_false (by omega)
                  have O8 := Lib.hid (O6.out.mono (fun _ _ => eng_drop (den_drop2 (fun A w h => cx_drop (tl_drop bq_drop) A w (byx_gone (stb_cx (stb_tl (stb_bq stb_emp))) A w h)))))
                  have C9 := Lib.hid (show T2.length ≤ 64 * (k + 1) from by have := C64.out; omega)
                  have HT9 := HTL2
                  clear O6
                  obtain ⟨sa, sc, ga, gc, q2, q3, qs, qg⟩ := (O8.out.mono (fun _ _ => den_swap (stb_cx (stb_tl stb_emp)))).den
                  have QV := Lib.hid qs
                  have GV := Lib.hid qg
                  have OK2 := Lib.hid O8.out.ok
                  have GL := Lib.hid OK2.out.G
                  clear qs qg
                  go_upto_region 36 with fail
                  refine wp_region_noPanic ?_
                  refine wp_region_held_drew (S := (fun w' => w'.cell? ⟨q, 2, none⟩ = some (.slice sa e2.n sc) ∧ w'.cell? ⟨q, 3, none⟩ = some (.slice ga e2.n gc) ∧ Hid (Below wr.heap.size wr w'))) (by kernel_rfl) ?_ (fun hHeld => ?_)
                  · exact ⟨q2, q3, Lib.hid (drew_below wr)⟩
                  refine wpAnyH_take (i := 0) (oi := { dst := some 165, op := Op.move (Operand.tmp 7), type := 23, pos := "law.go:210", after := #[], guard := none }) (v := ?_) rfl (by kernel_rfl) (by kernel_rfl) (by kernel_rfl) (fun _ _ _ h => h) (Or.inl ⟨by rfl, ?_⟩) (by assumption) ?_
                  rotate_left
                  · (intro w hSw; (try dsimp only at hSw); go_simp; try with_reducible rfl)
                  ((try simp only [Act.put]); (try simp only [List.setIfInBounds_toArray]); (try simp only [List.set_cons_succ]); (try simp only [List.set_cons_zero]))
                  refine wpAnyH_take (i := 2) (oi := { dst := some 167, op := Op.move (Operand.tmp 9), type := 48, pos := "law.go:210", after := #[], guard := none }) (v := ?_) rfl (by kernel_rfl) (by kernel_rfl) (by kernel_rfl) (fun _ _ _ h => h) (Or.inl ⟨by rfl, ?_⟩) (by assumption) ?_
                  rotate_left
                  · (intro w hSw; (try dsimp only at hSw); go_simp; try with_reducible rfl)
                  ((try simp only [Act.put]); (try simp only [List.setIfInBounds_toArray]); (try simp only [List.set_cons_succ]); (try simp only [List.set_cons_zero]))
                  refine wpAnyH_take (i := 3) (oi := { dst := some 168, op := Op.nilCheck (Operand.tmp 167), type := 0, pos := "law.go:210", after := #[{ on := 2, ground := Ground.data }], guard := none }) (v := ?_) rfl (by kernel_rfl) (by kernel_rfl) (by kernel_rfl) (fun _ _ _ h => h) (Or.inl ⟨by rfl, ?_⟩) (by assumption) ?_
                  rotate_left
                  · (intro w hSw; (try dsimp only at hSw); go_simp; try with_reducible rfl)
                  ((try simp only [Act.put]); (try simp only [List.setIfInBounds_toArray]); (try simp only [List.set_cons_succ]); (try simp only [List.set_cons_zero]))
                  refine wpAnyH_take (i := 4) (oi := { dst := some 169, op := Op.fieldAddr 57 (Operand.tmp 168) 3, type := 0, pos := "law.go:210", after := #[{ on := 3, ground := Ground.data }], guard := none }) (v := ?_) rfl (by kernel_rfl) (by kernel_rfl) (by kernel_rfl) (fun _ _ _ h => h) (Or.inl ⟨by rfl, ?_⟩) (by assumption) ?_
                  rotate_left
                  · (intro w hSw; (try dsimp only at hSw); go_simp; try with_reducible rfl)
                  ((try simp only [Act.put]); (try simp only [List.setIfInBounds_toArray]); (try simp only [List.set_cons_succ]); (try simp only [List.set_cons_zero]))
                  refine wpAnyH_take (i := 5) (oi := { dst := some 170, op := Op.load 41 (Operand.tmp 169), type := 41, pos := "law.go:210", after := #[{ on := 4, ground := Ground.data }], guard := none }) (v := ?_) rfl (by kernel_rfl) (by kernel_rfl) (by kernel_rfl) (fun _ _ _ h => h) (Or.inl ⟨by rfl, ?_⟩) (by assumption) ?_
                  rotate_left
                  · (intro w hSw; (try dsimp only at hSw); go_simp; try with_reducible rfl)
                  ((try simp only [Act.put]); (try simp only [List.setIfInBounds_toArray]); (try simp only [List.set_cons_succ]); (try simp only [List.set_cons_zero]))
                  refine wpAnyH_ready (rs := [1]) (by kernel_rfl) (by simp) ?_
                  refine AllReadyH.cons (o := { dst := some 166, op := Op.call { callee := Callee.value (Operand.func 16), args := #[Operand.tmp 165], argTypes := #[23] }, type := 42, pos := "law.go:210", after := #[{ on := 0, ground := Ground.data }], guard := none }) rfl (fun K hK => ?_) AllReadyH.nil
                  go_simp
                  refine (on_got (g := e2.G) (stb_den (stb_cx (stb_tl stb_emp))) (O8.out.below (stb_eng (stb_den (stb_cx (stb_tl stb_emp)))) (Hid.out hHeld.2.2)) rfl).mono ?_
                  rintro x w10 ⟨a10, c10, rfl, h10, hb⟩
                  have G10 := Lib.hid h10.sl
                  clear h10
                  try go_wp2_with fail
                  refine hK.out _ _ ?_ (fun hNew => ?_)
                  · first | exact hHeld | exact ⟨cell_go hHeld.1 hb, cell_go hHeld.2.1 hb, Lib.hid ((Hid.out hHeld.2.2).trans (hb.mono (Hid.out hHeld.2.2).size))⟩
                  clear hK K
                  replace hHeld := hNew
                  clear hNew
                  ((try simp only [Act.put]); (try simp only [List.setIfInBounds_toArray]); (try simp only [List.set_cons_succ]); (try simp only [List.set_cons_zero]))
                  refine wpAnyH_ready (rs := [6]) (by kernel_rfl) (by simp) ?_
                  refine AllReadyH.cons (o := { dst := some 171, op := Op.call { callee := Callee.value (Operand.func 15), args := #[Operand.tmp 166, Operand.tmp 170], argTypes := #[41, 41] }, type := 4, pos := "law.go:210", after := #[{ on := 1, ground := Ground.data }, { on := 5, ground := Ground.data }, { on := 1, ground := Ground.chain }], guard := none }) rfl (fun K hK => ?_) AllReadyH.nil
                  go_simp
                  refine (longs_any (r := true) G10.out (GV.out.below (Hid.out hHeld.2.2)) GL.out GL.out (decide_eq_true rfl)).mono ?_
                  rintro x w5 ⟨rfl, n5, hw⟩
                  have hb := drew_b hw
                  clear hw
                  try go_wp2_with fail
                  refine hK.out _ _ ?_ (fun hNew => ?_)
                  · first | exact hHeld | exact ⟨cell_go hHeld.1 hb, cell_go hHeld.2.1 hb, Lib.hid ((Hid.out hHeld.2.2).trans (hb.mono (Hid.out hHeld.2.2).size))⟩
                  clear hK K
                  replace hHeld := hNew
                  clear hNew
                  ((try simp only [Act.put]); (try simp only [List.setIfInBounds_toArray]); (try simp only [List.set_cons_succ]); (try simp only [List.set_cons_zero]))
                  refine wpAnyH_take (i := 7) (oi := { dst := some 172, op := Op.unOp UnOp.not 4 (Operand.tmp 171), type := 4, pos := "law.go:210", after := #[{ on := 6, ground := Ground.data }], guard := none }) (v := ?_) rfl (by kernel_rfl) (by kernel_rfl) (by kernel_rfl) (fun _ _ _ h => h) (Or.inl ⟨by rfl, ?_⟩) (by assumption) ?_
                  rotate_left
                  · (intro w hSw; (try dsimp only at hSw); go_simp; try with_reducible rfl)
                  ((try simp only [Act.put]); (try simp only [List.setIfInBounds_toArray]); (try simp only [List.set_cons_succ]); (try simp only [List.set_cons_zero]))
                  refine wpAnyH_take (i := 8) (oi := { dst := some 173, op := Op.move (Operand.tmp 172), type := 4, pos := "law.go:210", after := #[{ on := 7, ground := Ground.data }, { on := 6, ground := Ground.chain }], guard := none }) (v := ?_) rfl (by kernel_rfl) (by kernel_rfl) (by kernel_rfl) (fun _ _ _ h => h) (Or.inl ⟨by rfl, ?_⟩) (by assumption) ?_
                  rotate_left
                  · (intro w hSw; (try dsimp only at hSw); go_simp; try with_reducible rfl)
                  ((try simp only [Act.put]); (try simp only [List.setIfInBounds_toArray]); (try simp only [List.set_cons_succ]); (try simp only [List.set_cons_zero]))
                  refine wpAnyH_take (i := 9) (oi := { dst := some 174, op := Op.move (Operand.tmp 7), type := 23, pos := "law.go:210", after := #[{ on := 8, ground := Ground.guard }], guard := some (8, false) }) (v := ?_) rfl (by kernel_rfl) (by kernel_rfl) (by kernel_rfl) (fun _ _ _ h => h) (Or.inl ⟨by rfl, ?_⟩) (by assumption) ?_
                  rotate_left
                  · (intro w hSw; (try dsimp only at hSw); go_simp; try with_reducible rfl)
                  ((try simp only [Act.put]); (try simp only [List.setIfInBounds_toArray]); (try simp only [List.set_cons_succ]); (try simp only [List.set_cons_zero]))
                  refine wpAnyH_take (i := 12) (oi := { dst := some 177, op := Op.move (Operand.tmp 9), type := 48, pos := "law.go:210", after := #[{ on := 8, ground := Ground.guard }], guard := some (8, false) }) (v := ?_) rfl (by kernel_rfl) (by kernel_rfl) (by kernel_rfl) (fun _ _ _ h => h) (Or.inl ⟨by rfl, ?_⟩) (by assumption) ?_
                  rotate_left
                  · (intro w hSw; (try dsimp only at hSw); go_simp; try with_reducible rfl)
                  ((try simp only [Act.put]); (try simp only [List.setIfInBounds_toArray]); (try simp only [List.set_cons_succ]); (try simp only [List.set_cons_zero]))
                  refine wpAnyH_take (i := 13) (oi := { dst := some 178, op := Op.nilCheck (Operand.tmp 177), type := 0, pos := "law.go:210", after := #[{ on := 12, ground := Ground.data }, { on := 8, ground := Ground.guard }], guard := some (8, false) }) (v := ?_) rfl (by kernel_rfl) (by kernel_rfl) (by kernel_rfl) (fun _ _ _ h => h) (Or.inl ⟨by rfl, ?_⟩) (by assumption) ?_
                  rotate_left
                  · (intro w hSw; (try dsimp only at hSw); go_simp; try with_reducible rfl)
                  ((try simp only [Act.put]); (try simp only [List.setIfInBounds_toArray]); (try simp only [List.set_cons_succ]); (try simp only [List.set_cons_zero]))
                  refine wpAnyH_take (i := 14) (oi := { dst := some 179, op := Op.fieldAddr 57 (Operand.tmp 178) 2, type := 0, pos := "law.go:210", after := #[{ on := 13, ground := Ground.data }, { on := 8, ground := Ground.guard }], guard := some (8, false) }) (v := ?_) rfl (by kernel_rfl) (by kernel_rfl) (by kernel_rfl) (fun _ _ _ h => h) (Or.inl ⟨by rfl, ?_⟩) (by assumption) ?_
                  rotate_left
                  · (intro w hSw; (try dsimp only at hSw); go_simp; try with_reducible rfl)
                  ((try simp only [Act.put]); (try simp only [List.setIfInBounds_toArray]); (try simp only [List.set_cons_succ]); (try simp only [List.set_cons_zero]))
                  refine wpAnyH_take (i := 15) (oi := { dst := some 180, op := Op.load 55 (Operand.tmp 179), type := 55, pos := "law.go:210", after := #[{ on := 14, ground := Ground.data }, { on := 8, ground := Ground.guard }], guard := some (8, false) }) (v := ?_) rfl (by kernel_rfl) (by kernel_rfl) (by kernel_rfl) (fun _ _ _ h => h) (Or.inl ⟨by rfl, ?_⟩) (by assumption) ?_
                  rotate_left
                  · (intro w hSw; (try dsimp only at hSw); go_simp; try with_reducible rfl)
                  ((try simp only [Act.put]); (try simp only [List.setIfInBounds_toArray]); (try simp only [List.set_cons_succ]); (try simp only [List.set_cons_zero]))
                  refine wpAnyH_ready (rs := [10]) (by kernel_rfl) (by simp) ?_
                  refine AllReadyH.cons (o := { dst := some 175, op := Op.call { callee := Callee.value (Operand.func 18), args := #[Operand.tmp 174], argTypes := #[23] }, type := 37, pos := "law.go:210", after := #[{ on := 9, ground := Ground.data }, { on := 8, ground := Ground.chain }, { on := 8, ground := Ground.guard }], guard := some (8, false) }) rfl (fun K hK => ?_) AllReadyH.nil
                  go_simp
                  refine (on_sent (m := e2.S) (stb_den (stb_cx (stb_tl stb_emp))) (O8.out.below (stb_eng (stb_den (stb_cx (stb_tl stb_emp)))) (Hid.out hHeld.2.2)) rfl).mono ?_
                  rintro x w11 ⟨a11, c11, rfl, h11, hb⟩
                  have Q11 := Lib.hid h11.sq
                  clear h11
                  try go_wp2_with fail
                  refine hK.out _ _ ?_ (fun hNew => ?_)
                  · first | exact hHeld | exact ⟨cell_go hHeld.1 hb, cell_go hHeld.2.1 hb, Lib.hid ((Hid.out hHeld.2.2).trans (hb.mono (Hid.out hHeld.2.2).size))⟩
                  clear hK K
                  replace hHeld := hNew
                  clear hNew
                  ((try simp only [Act.put]); (try simp only [List.setIfInBounds_toArray]); (try simp only [List.set_cons_succ]); (try simp only [List.set_cons_zero]))
                  refine wpAnyH_ready (rs := [11]) (by kernel_rfl) (by simp) ?_
                  refine AllReadyH.cons (o := { dst := some 176, op := Op.call { callee := Callee.value (Operand.func 25), args := #[Operand.tmp 175], argTypes := #[37] }, type := 55, pos := "law.go:210", after := #[{ on := 10, ground := Ground.data }, { on := 10, ground := Ground.chain }, { on := 8, ground := Ground.guard }], guard := some (8, false) }) rfl (fun K hK => ?_) AllReadyH.nil
                  go_simp
                  refine (rows_at (e2.n : Int) Q11.out (by have := OK2.out.n2; omega)).mono ?_
                  rintro x w12 ⟨a12, c12, rfl, h12⟩
                  have hb := h12.2
                  have R12 := Lib.hid h12.1
                  clear h12
                  try go_wp2_with fail
                  refine hK.out _ _ ?_ (fun hNew => ?_)
                  · first | exact hHeld | exact ⟨cell_go hHeld.1 hb, cell_go hHeld.2.1 hb, Lib.hid ((Hid.out hHeld.2.2).trans (hb.mono (Hid.out hHeld.2.2).size))⟩
                  clear hK K
                  replace hHeld := hNew
                  clear hNew
                  ((try simp only [Act.put]); (try simp only [List.setIfInBounds_toArray]); (try simp only [List.set_cons_succ]); (try simp only [List.set_cons_zero]))
                  refine wpAnyH_ready (rs := [16]) (by kernel_rfl) (by simp) ?_
                  refine AllReadyH.cons (o := { dst := some 181, op := Op.call { callee := Callee.value (Operand.func 24), args := #[Operand.tmp 176, Operand.tmp 180], argTypes := #[55, 55] }, type := 4, pos := "law.go:210", after := #[{ on := 11, ground := Ground.data }, { on := 15, ground := Ground.data }, { on := 11, ground := Ground.chain }, { on := 8, ground := Ground.guard }], guard := some (8, false) }) rfl (fun K hK => ?_) AllReadyH.nil
                  go_simp
                  refine (squares_at (r := true) R12.out (QV.out.below (Hid.out hHeld.2.2)) (decide_eq_true rfl)).mono ?_
                  rintro x w13 ⟨rfl, n13, hw⟩
                  have hb := drew_b hw
                  clear hw
                  try go_wp2_with fail
                  refine hK.out _ _ ?_ (fun hNew => ?_)
                  · first | exact hHeld | exact ⟨cell_go hHeld.1 hb, cell_go hHeld.2.1 hb, Lib.hid ((Hid.out hHeld.2.2).trans (hb.mono (Hid.out hHeld.2.2).size))⟩
                  clear hK K
                  replace hHeld := hNew
                  clear hNew
                  ((try simp only [Act.put]); (try simp only [List.setIfInBounds_toArray]); (try simp only [List.set_cons_succ]); (try simp only [List.set_cons_zero]))
                  refine wpAnyH_take (i := 17) (oi := { dst := some 182, op := Op.unOp UnOp.not 4 (Operand.tmp 181), type := 4, pos := "law.go:210", after := #[{ on := 16, ground := Ground.data }, { on := 8, ground := Ground.guard }], guard := some (8, false) }) (v := ?_) rfl (by kernel_rfl) (by kernel_rfl) (by kernel_rfl) (fun _ _ _ h => h) (Or.inl ⟨by rfl, ?_⟩) (by assumption) ?_
                  rotate_left
                  · (intro w hSw; (try dsimp only at hSw); go_simp; try with_reducible rfl)
                  ((try simp only [Act.put]); (try simp only [List.setIfInBounds_toArray]); (try simp only [List.set_cons_succ]); (try simp only [List.set_cons_zero]))
                  refine wpAnyH_take (i := 18) (oi := { dst := some 183, op := Op.pick (Operand.tmp 173) (Operand.const (Value.bool true)) (Operand.tmp 182), type := 4, pos := "law.go:210", after := #[{ on := 8, ground := Ground.data }, { on := 17, ground := Ground.data }], guard := none }) (v := ?_) rfl (by kernel_rfl) (by kernel_rfl) (by kernel_rfl) (fun _ _ _ h => h) (Or.inl ⟨by rfl, ?_⟩) (by assumption) ?_
                  rotate_left
                  · (intro w hSw; (try dsimp only at hSw); go_simp; try with_reducible rfl)
                  ((try simp only [Act.put]); (try simp only [List.setIfInBounds_toArray]); (try simp only [List.set_cons_succ]); (try simp only [List.set_cons_zero]))
                  refine wpAnyH_done (by kernel_rfl) ?_ _
                  refine NoPanic.normal ?_
                  have OF := Lib.hid ((O8.out.below (stb_eng (stb_den (stb_cx (stb_tl stb_emp)))) (Hid.out hHeld.2.2)).mono (fun _ _ => eng_drop (den_drop2 (cx_gone (stb_tl stb_emp)))))
                  go_wp2_with fail
                  go_roundw
                  case rel => exact ⟨k + 1, e2, T2, by omega, by go_num, N2.out.1, N2.out.2, C9.out, HT9.out, OF.out⟩
                  case measure => simp only [intOf]; omega
          · have do1 : (xo == 0) = false := by simpa using ho
            clear ho
            by_cases ho : xo = 1
            · have do2 : (xo == 1) = true := by simpa using ho
              clear ho
              as_aux_lemma =>
                obtain ⟨r, hr⟩ : ∃ r, canE e xf bb = r := ⟨_, rfl⟩
                have CR := Lib.hid hr
                clear hr
                obtain ⟨e2, he2⟩ : ∃ e2, takeE e xf xt bb = e2 := ⟨_, rfl⟩
                have E2 := Lib.hid he2
                clear he2
                go_upto_region 34 with fail
                generalize wr.alloc (.cells #[.int .i64 xo, .int .i64 xf, .int .i64 (j : Int), .int .u64 (xt : Int), .slice xsa xsl xsc] 51) = w3 at *
                generalize wr.heap.size = px at *
                clear hcd; have SB := Lib.hid (show ∀ (w' : World) (e1 d1 : En), On W (Eng p e1 (Den q d1 (Cx px [.int .i64 xo, .int .i64 xf, .int .i64 (j : Int), .int .u64 (xt : Int), .slice xsa xsl xsc] (Tl (.slice (some ⟨g, 0, none⟩) T.length lc) T Emp)))) w' → SlAt bV 256 w' ba bc bb from fun w' e1 d1 h => by (obtain ⟨A9, -, h9⟩ := h.tl4; exact KB.out _ _ h9))
                have O3d := Lib.hid (O3.out.below (stb_eng (stb_den (stb_cx (stb_tl stb_emp)))) (drew_below w3))
                have t1 : w3.drew.cell? ⟨px, 1, none⟩ = some (.int .i64 xf) := v1
                have t3 : w3.drew.cell? ⟨px, 3, none⟩ = some (.int .u64 (xt : Int)) := v3
                clear v0 v1 v2 v3 v4 O3
                refine wp_region_noPanic ?_
                refine wp_region_held_drew (S := (fun w' => w'.cell? ⟨px, 1, none⟩ = some (.int .i64 xf) ∧ w'.cell? ⟨px, 3, none⟩ = some (.int .u64 (xt : Int)))) (by kernel_rfl) ?_ (fun hHeld => ?_)
                · exact ⟨t1, t3⟩
                refine wpAnyH_take (i := 0) (oi := { dst := some 150, op := Op.move (Operand.tmp 7), type := 23, pos := "law.go:202", after := #[], guard := none }) (v := ?_) rfl (by kernel_rfl) (by kernel_rfl) (by kernel_rfl) (fun _ _ _ h => h) (Or.inl ⟨by rfl, ?_⟩) (by assumption) ?_
                rotate_left
                · (intro w hSw; (try dsimp only at hSw); go_simp; try with_reducible rfl)
                ((try simp only [Act.put]); (try simp only [List.setIfInBounds_toArray]); (try simp only [List.set_cons_succ]); (try simp only [List.set_cons_zero]))
                refine wpAnyH_take (i := 1) (oi := { dst := some 151, op := Op.fieldAddr 51 (Operand.tmp 12) 1, type := 0, pos := "law.go:202", after := #[], guard := none }) (v := ?_) rfl (by kernel_rfl) (by kernel_rfl) (by kernel_rfl) (fun _ _ _ h => h) (Or.inl ⟨by rfl, ?_⟩) (by assumption) ?_
                rotate_left
                · (intro w hSw; (try dsimp only at hSw); go_simp; try with_reducible rfl)
                ((try simp only [Act.put]); (try simp only [List.setIfInBounds_toArray]); (try simp only [List.set_cons_succ]); (try simp only [List.set_cons_zero]))
                refine wpAnyH_take (i := 2) (oi := { dst := some 152, op := Op.load 3 (Operand.tmp 151), type := 3, pos := "law.go:202", after := #[{ on := 1, ground := Ground.data }], guard := none }) (v := ?_) rfl (by kernel_rfl) (by kernel_rfl) (by kernel_rfl) (fun _ _ _ h => h) (Or.inl ⟨by rfl, ?_⟩) (by assumption) ?_
                rotate_left
                · (intro w hSw; (try dsimp only at hSw); go_simp; try with_reducible rfl)
                ((try simp only [Act.put]); (try simp only [List.setIfInBounds_toArray]); (try simp only [List.set_cons_succ]); (try simp only [List.set_cons_zero]))
                refine wpAnyH_take (i := 3) (oi := { dst := some 153, op := Op.fieldAddr 51 (Operand.tmp 12) 3, type := 0, pos := "law.go:202", after := #[], guard := none }) (v := ?_) rfl (by kernel_rfl) (by kernel_rfl) (by kernel_rfl) (fun _ _ _ h => h) (Or.inl ⟨by rfl, ?_⟩) (by assumption) ?_
                rotate_left
                · (intro w hSw; (try dsimp only at hSw); go_simp; try with_reducible rfl)
                ((try simp only [Act.put]); (try simp only [List.setIfInBounds_toArray]); (try simp only [List.set_cons_succ]); (try simp only [List.set_cons_zero]))
                refine wpAnyH_take (i := 4) (oi := { dst := some 154, op := Op.load 29 (Operand.tmp 153), type := 29, pos := "law.go:202", after := #[{ on := 3, ground := Ground.data }], guard := none }) (v := ?_) rfl (by kernel_rfl) (by kernel_rfl) (by kernel_rfl) (fun _ _ _ h => h) (Or.inl ⟨by rfl, ?_⟩) (by assumption) ?_
                rotate_left
                · (intro w hSw; (try dsimp only at hSw); go_simp; try with_reducible rfl)
                ((try simp only [Act.put]); (try simp only [List.setIfInBounds_toArray]); (try simp only [List.set_cons_succ]); (try simp only [List.set_cons_zero]))
                refine wpAnyH_take (i := 5) (oi := { dst := some 155, op := Op.move (Operand.tmp 13), type := 32, pos := "law.go:202", after := #[], guard := none }) (v := ?_) rfl (by kernel_rfl) (by kernel_rfl) (by kernel_rfl) (fun _ _ _ h => h) (Or.inl ⟨by rfl, ?_⟩) (by assumption) ?_
                rotate_left
                · (intro w hSw; (try dsimp only at hSw); go_simp; try with_reducible rfl)
                ((try simp only [Act.put]); (try simp only [List.setIfInBounds_toArray]); (try simp only [List.set_cons_succ]); (try simp only [List.set_cons_zero]))
                refine wpAnyH_take (i := 7) (oi := { dst := some 157, op := Op.move (Operand.tmp 9), type := 48, pos := "law.go:202", after := #[], guard := none }) (v := ?_) rfl (by kernel_rfl) (by kernel_rfl) (by kernel_rfl) (fun _ _ _ h => h) (Or.inl ⟨by rfl, ?_⟩) (by assumption) ?_
                rotate_left
                · (intro w hSw; (try dsimp only at hSw); go_simp; try with_reducible rfl)
                ((try simp only [Act.put]); (try simp only [List.setIfInBounds_toArray]); (try simp only [List.set_cons_succ]); (try simp only [List.set_cons_zero]))
                refine wpAnyH_take (i := 8) (oi := { dst := some 158, op := Op.fieldAddr 51 (Operand.tmp 12) 1, type := 0, pos := "law.go:202", after := #[], guard := none }) (v := ?_) rfl (by kernel_rfl) (by kernel_rfl) (by kernel_rfl) (fun _ _ _ h => h) (Or.inl ⟨by rfl, ?_⟩) (by assumption) ?_
                rotate_left
                · (intro w hSw; (try dsimp only at hSw); go_simp; try with_reducible rfl)
                ((try simp only [Act.put]); (try simp only [List.setIfInBounds_toArray]); (try simp only [List.set_cons_succ]); (try simp only [List.set_cons_zero]))
                refine wpAnyH_take (i := 9) (oi := { dst := some 159, op := Op.load 3 (Operand.tmp 158), type := 3, pos := "law.go:202", after := #[{ on := 8, ground := Ground.data }], guard := none }) (v := ?_) rfl (by kernel_rfl) (by kernel_rfl) (by kernel_rfl) (fun _ _ _ h => h) (Or.inl ⟨by rfl, ?_⟩) (by assumption) ?_
                rotate_left
                · (intro w hSw; (try dsimp only at hSw); go_simp; try with_reducible rfl)
                ((try simp only [Act.put]); (try simp only [List.setIfInBounds_toArray]); (try simp only [List.set_cons_succ]); (try simp only [List.set_cons_zero]))
                refine wpAnyH_take (i := 10) (oi := { dst := some 160, op := Op.fieldAddr 51 (Operand.tmp 12) 3, type := 0, pos := "law.go:202", after := #[], guard := none }) (v := ?_) rfl (by kernel_rfl) (by kernel_rfl) (by kernel_rfl) (fun _ _ _ h => h) (Or.inl ⟨by rfl, ?_⟩) (by assumption) ?_
                rotate_left
                · (intro w hSw; (try dsimp only at hSw); go_simp; try with_reducible rfl)
                ((try simp only [Act.put]); (try simp only [List.setIfInBounds_toArray]); (try simp only [List.set_cons_succ]); (try simp only [List.set_cons_zero]))
                refine wpAnyH_take (i := 11) (oi := { dst := some 161, op := Op.load 29 (Operand.tmp 160), type := 29, pos := "law.go:202", after := #[{ on := 10, ground := Ground.data }], guard := none }) (v := ?_) rfl (by kernel_rfl) (by kernel_rfl) (by kernel_rfl) (fun _ _ _ h => h) (Or.inl ⟨by rfl, ?_⟩) (by assumption) ?_
                rotate_left
                · (intro w hSw; (try dsimp only at hSw); go_simp; try with_reducible rfl)
                ((try simp only [Act.put]); (try simp only [List.setIfInBounds_toArray]); (try simp only [List.set_cons_succ]); (try simp only [List.set_cons_zero]))
                refine wpAnyH_take (i := 12) (oi := { dst := some 162, op := Op.move (Operand.tmp 13), type := 32, pos := "law.go:202", after := #[], guard := none }) (v := ?_) rfl (by kernel_rfl) (by kernel_rfl) (by kernel_rfl) (fun _ _ _ h => h) (Or.inl ⟨by rfl, ?_⟩) (by assumption) ?_
                rotate_left
                · (intro w hSw; (try dsimp only at hSw); go_simp; try with_reducible rfl)
                ((try simp only [Act.put]); (try simp only [List.setIfInBounds_toArray]); (try simp only [List.set_cons_succ]); (try simp only [List.set_cons_zero]))
                refine wpAnyH_ready (rs := [6]) (by kernel_rfl) (by simp) ?_
                refine AllReadyH.cons (o := { dst := some 156, op := Op.call { callee := Callee.value (Operand.func 12), args := #[Operand.tmp 150, Operand.tmp 152, Operand.const (Value.int IntKind.u64 1), Operand.tmp 154, Operand.tmp 155], argTypes := #[23, 3, 29, 30, 32] }, type := 4, pos := "law.go:202", after := #[{ on := 0, ground := Ground.data }, { on := 2, ground := Ground.data }, { on := 4, ground := Ground.data }, { on := 5, ground := Ground.data }], guard := none }) rfl (fun K hK => ?_) AllReadyH.nil
                go_simp
                refine (on_take (f := xf) (num := 1) (t := xt) (stb_den (stb_cx (stb_tl stb_emp))) O3d.out TL.out (SB.out _ _ _ O3d.out) BL.out BM.out FO.out CR.out E2.out).mono ?_
                rintro x w4 ⟨rfl, h4⟩
                have O4 := Lib.hid (h4.mono (fun _ _ => den_swap (stb_cx (stb_tl stb_emp))))
                have S4 := Lib.hid (SB.out _ _ _ h4)
                have XC4 := Lib.hid h4.cx
                have u1 := XC4.out.c 1 (by simp)
                have u3 := XC4.out.c 3 (by simp)
                simp at u1 u3
                clear h4
                try go_wp2_with fail
                refine hK.out _ _ ?_ (fun hNew => ?_)
                · first | exact hHeld | exact ⟨u1, u3⟩
                clear hK K
                replace hHeld := hNew
                clear hNew
                ((try simp only [Act.put]); (try simp only [List.setIfInBounds_toArray]); (try simp only [List.set_cons_succ]); (try simp only [List.set_cons_zero]))
                refine wpAnyH_ready (rs := [13]) (by kernel_rfl) (by simp) ?_
                refine AllReadyH.cons (o := { dst := some 163, op := Op.call { callee := Callee.value (Operand.func 22), args := #[Operand.tmp 157, Operand.tmp 159, Operand.tmp 161, Operand.tmp 162], argTypes := #[48, 3, 29, 32] }, type := 4, pos := "law.go:202", after := #[{ on := 7, ground := Ground.data }, { on := 9, ground := Ground.data }, { on := 11, ground := Ground.data }, { on := 12, ground := Ground.data }, { on := 6, ground := Ground.chain }], guard := none }) rfl (fun K hK => ?_) AllReadyH.nil
                go_simp
                refine (on_dtake (f := xf) (t := xt) (stb_eng (stb_cx (stb_tl stb_emp))) O4.out TL.out S4.out BL.out CR.out E2.out).mono ?_
                rintro x w8 ⟨rfl, h8⟩
                have O8 := Lib.hid (h8.mono (fun _ _ => den_back (stb_cx (stb_tl stb_emp))))
                clear h8 O4 S4 XC4
                have XC4 := Lib.hid O8.out.cx
                have u1 := XC4.out.c 1 (by simp)
                have u3 := XC4.out.c 3 (by simp)
                simp at u1 u3
                try go_wp2_with fail
                refine hK.out _ _ ?_ (fun hNew => ?_)
                · first | exact hHeld | exact ⟨u1, u3⟩
                clear hK K
                replace hHeld := hNew
                clear hNew
                ((try simp only [Act.put]); (try simp only [List.setIfInBounds_toArray]); (try simp only [List.set_cons_succ]); (try simp only [List.set_cons_zero]))
                refine wpAnyH_take (i := 14) (oi := { dst := some 164, op := Op.binOp BinOp.neq 4 (Operand.tmp 156) (Operand.tmp 163) 4, type := 4, pos := "law.go:202", after := #[{ on := 6, ground := Ground.data }, { on := 13, ground := Ground.data }], guard := none }) (v := ?_) rfl (by kernel_rfl) (by kernel_rfl) (by kernel_rfl) (fun _ _ _ h => h) (Or.inl ⟨by rfl, ?_⟩) (by assumption) ?_
                rotate_left
                · (intro w hSw; (try dsimp only at hSw); go_simp; try with_reducible rfl)
                ((try simp only [Act.put]); (try simp only [List.setIfInBounds_toArray]); (try simp only [List.set_cons_succ]); (try simp only [List.set_cons_zero]))
                refine wpAnyH_done (by kernel_rfl) ?_ _
                refine NoPanic.normal ?_
                clear u1 u3 XC4 hHeld
                have N2 := Lib.hid (show e2.n = e.n ∧ e2.me = e.me by rw [← E2.out]; exact take_same e xf xt bb)
                obtain ⟨sa, sc, ga, gc, q2, q3, qs, qg⟩ := (O8.out.mono (fun _ _ => den_swap (stb_cx (stb_tl stb_emp)))).den
                have QV := Lib.hid qs
                have GV := Lib.hid qg
                have OK2 := Lib.hid O8.out.ok
                have GL := Lib.hid OK2.out.G
                clear qs qg
                go_upto_region 36 with fail
                refine wp_region_noPanic ?_
                refine wp_region_held_drew (S := (fun w' => w'.cell? ⟨q, 2, none⟩ = some (.slice sa e2.n sc) ∧ w'.cell? ⟨q, 3, none⟩ = some (.slice ga e2.n gc) ∧ Hid (Below w8.heap.size w8 w'))) (by kernel_rfl) ?_ (fun hHeld => ?_)
                · exact ⟨q2, q3, Lib.hid (drew_below w8)⟩
                refine wpAnyH_take (i := 0) (oi := { dst := some 165, op := Op.move (Operand.tmp 7), type := 23, pos := "law.go:210", after := #[], guard := none }) (v := ?_) rfl (by kernel_rfl) (by kernel_rfl) (by kernel_rfl) (fun _ _ _ h => h) (Or.inl ⟨by rfl, ?_⟩) (by assumption) ?_
                rotate_left
                · (intro w hSw; (try dsimp only at hSw); go_simp; try with_reducible rfl)
                ((try simp only [Act.put]); (try simp only [List.setIfInBounds_toArray]); (try simp only [List.set_cons_succ]); (try simp only [List.set_cons_zero]))
                refine wpAnyH_take (i := 2) (oi := { dst := some 167, op := Op.move (Operand.tmp 9), type := 48, pos := "law.go:210", after := #[], guard := none }) (v := ?_) rfl (by kernel_rfl) (by kernel_rfl) (by kernel_rfl) (fun _ _ _ h => h) (Or.inl ⟨by rfl, ?_⟩) (by assumption) ?_
                rotate_left
                · (intro w hSw; (try dsimp only at hSw); go_simp; try with_reducible rfl)
                ((try simp only [Act.put]); (try simp only [List.setIfInBounds_toArray]); (try simp only [List.set_cons_succ]); (try simp only [List.set_cons_zero]))
                refine wpAnyH_take (i := 3) (oi := { dst := some 168, op := Op.nilCheck (Operand.tmp 167), type := 0, pos := "law.go:210", after := #[{ on := 2, ground := Ground.data }], guard := none }) (v := ?_) rfl (by kernel_rfl) (by kernel_rfl) (by kernel_rfl) (fun _ _ _ h => h) (Or.inl ⟨by rfl, ?_⟩) (by assumption) ?_
                rotate_left
                · (intro w hSw; (try dsimp only at hSw); go_simp; try with_reducible rfl)
                ((try simp only [Act.put]); (try simp only [List.setIfInBounds_toArray]); (try simp only [List.set_cons_succ]); (try simp only [List.set_cons_zero]))
                refine wpAnyH_take (i := 4) (oi := { dst := some 169, op := Op.fieldAddr 57 (Operand.tmp 168) 3, type := 0, pos := "law.go:210", after := #[{ on := 3, ground := Ground.data }], guard := none }) (v := ?_) rfl (by kernel_rfl) (by kernel_rfl) (by kernel_rfl) (fun _ _ _ h => h) (Or.inl ⟨by rfl, ?_⟩) (by assumption) ?_
                rotate_left
                · (intro w hSw; (try dsimp only at hSw); go_simp; try with_reducible rfl)
                ((try simp only [Act.put]); (try simp only [List.setIfInBounds_toArray]); (try simp only [List.set_cons_succ]); (try simp only [List.set_cons_zero]))
                refine wpAnyH_take (i := 5) (oi := { dst := some 170, op := Op.load 41 (Operand.tmp 169), type := 41, pos := "law.go:210", after := #[{ on := 4, ground := Ground.data }], guard := none }) (v := ?_) rfl (by kernel_rfl) (by kernel_rfl) (by kernel_rfl) (fun _ _ _ h => h) (Or.inl ⟨by rfl, ?_⟩) (by assumption) ?_
                rotate_left
                · (intro w hSw; (try dsimp only at hSw); go_simp; try with_reducible rfl)
                ((try simp only [Act.put]); (try simp only [List.setIfInBounds_toArray]); (try simp only [List.set_cons_succ]); (try simp only [List.set_cons_zero]))
                refine wpAnyH_ready (rs := [1]) (by kernel_rfl) (by simp) ?_
                refine AllReadyH.cons (o := { dst := some 166, op := Op.call { callee := Callee.value (Operand.func 16), args := #[Operand.tmp 165], argTypes := #[23] }, type := 42, pos := "law.go:210", after := #[{ on := 0, ground := Ground.data }], guard := none }) rfl (fun K hK => ?_) AllReadyH.nil
                go_simp
                refine (on_got (g := e2.G) (stb_den (stb_cx (stb_tl stb_emp))) (O8.out.below (stb_eng (stb_den (stb_cx (stb_tl stb_emp)))) (Hid.out hHeld.2.2)) rfl).mono ?_
                rintro x w10 ⟨a10, c10, rfl, h10, hb⟩
                have G10 := Lib.hid h10.sl
                clear h10
                try go_wp2_with fail
                refine hK.out _ _ ?_ (fun hNew => ?_)
                · first | exact hHeld | exact ⟨cell_go hHeld.1 hb, cell_go hHeld.2.1 hb, Lib.hid ((Hid.out hHeld.2.2).trans (hb.mono (Hid.out hHeld.2.2).size))⟩
                clear hK K
                replace hHeld := hNew
                clear hNew
                ((try simp only [Act.put]); (try simp only [List.setIfInBounds_toArray]); (try simp only [List.set_cons_succ]); (try simp only [List.set_cons_zero]))
                refine wpAnyH_ready (rs := [6]) (by kernel_rfl) (by simp) ?_
                refine AllReadyH.cons (o := { dst := some 171, op := Op.call { callee := Callee.value (Operand.func 15), args := #[Operand.tmp 166, Operand.tmp 170], argTypes := #[41, 41] }, type := 4, pos := "law.go:210", after := #[{ on := 1, ground := Ground.data }, { on := 5, ground := Ground.data }, { on := 1, ground := Ground.chain }], guard := none }) rfl (fun K hK => ?_) AllReadyH.nil
                go_simp
                refine (longs_any (r := true) G10.out (GV.out.below (Hid.out hHeld.2.2)) GL.out GL.out (decide_eq_true rfl)).mono ?_
                rintro x w5 ⟨rfl, n5, hw⟩
                have hb := drew_b hw
                clear hw
                try go_wp2_with fail
                refine hK.out _ _ ?_ (fun hNew => ?_)
                · first | exact hHeld | exact ⟨cell_go hHeld.1 hb, cell_go hHeld.2.1 hb, Lib.hid ((Hid.out hHeld.2.2).trans (hb.mono (Hid.out hHeld.2.2).size))⟩
                clear hK K
                replace hHeld := hNew
                clear hNew
                ((try simp only [Act.put]); (try simp only [List.setIfInBounds_toArray]); (try simp only [List.set_cons_succ]); (try simp only [List.set_cons_zero]))
                refine wpAnyH_take (i := 7) (oi := { dst := some 172, op := Op.unOp UnOp.not 4 (Operand.tmp 171), type := 4, pos := "law.go:210", after := #[{ on := 6, ground := Ground.data }], guard := none }) (v := ?_) rfl (by kernel_rfl) (by kernel_rfl) (by kernel_rfl) (fun _ _ _ h => h) (Or.inl ⟨by rfl, ?_⟩) (by assumption) ?_
                rotate_left
                · (intro w hSw; (try dsimp only at hSw); go_simp; try with_reducible rfl)
                ((try simp only [Act.put]); (try simp only [List.setIfInBounds_toArray]); (try simp only [List.set_cons_succ]); (try simp only [List.set_cons_zero]))
                refine wpAnyH_take (i := 8) (oi := { dst := some 173, op := Op.move (Operand.tmp 172), type := 4, pos := "law.go:210", after := #[{ on := 7, ground := Ground.data }, { on := 6, ground := Ground.chain }], guard := none }) (v := ?_) rfl (by kernel_rfl) (by kernel_rfl) (by kernel_rfl) (fun _ _ _ h => h) (Or.inl ⟨by rfl, ?_⟩) (by assumption) ?_
                rotate_left
                · (intro w hSw; (try dsimp only at hSw); go_simp; try with_reducible rfl)
                ((try simp only [Act.put]); (try simp only [List.setIfInBounds_toArray]); (try simp only [List.set_cons_succ]); (try simp only [List.set_cons_zero]))
                refine wpAnyH_take (i := 9) (oi := { dst := some 174, op := Op.move (Operand.tmp 7), type := 23, pos := "law.go:210", after := #[{ on := 8, ground := Ground.guard }], guard := some (8, false) }) (v := ?_) rfl (by kernel_rfl) (by kernel_rfl) (by kernel_rfl) (fun _ _ _ h => h) (Or.inl ⟨by rfl, ?_⟩) (by assumption) ?_
                rotate_left
                · (intro w hSw; (try dsimp only at hSw); go_simp; try with_reducible rfl)
                ((try simp only [Act.put]); (try simp only [List.setIfInBounds_toArray]); (try simp only [List.set_cons_succ]); (try simp only [List.set_cons_zero]))
                refine wpAnyH_take (i := 12) (oi := { dst := some 177, op := Op.move (Operand.tmp 9), type := 48, pos := "law.go:210", after := #[{ on := 8, ground := Ground.guard }], guard := some (8, false) }) (v := ?_) rfl (by kernel_rfl) (by kernel_rfl) (by kernel_rfl) (fun _ _ _ h => h) (Or.inl ⟨by rfl, ?_⟩) (by assumption) ?_
                rotate_left
                · (intro w hSw; (try dsimp only at hSw); go_simp; try with_reducible rfl)
                ((try simp only [Act.put]); (try simp only [List.setIfInBounds_toArray]); (try simp only [List.set_cons_succ]); (try simp only [List.set_cons_zero]))
                refine wpAnyH_take (i := 13) (oi := { dst := some 178, op := Op.nilCheck (Operand.tmp 177), type := 0, pos := "law.go:210", after := #[{ on := 12, ground := Ground.data }, { on := 8, ground := Ground.guard }], guard := some (8, false) }) (v := ?_) rfl (by kernel_rfl) (by kernel_rfl) (by kernel_rfl) (fun _ _ _ h => h) (Or.inl ⟨by rfl, ?_⟩) (by assumption) ?_
                rotate_left
                · (intro w hSw; (try dsimp only at hSw); go_simp; try with_reducible rfl)
                ((try simp only [Act.put]); (try simp only [List.setIfInBounds_toArray]); (try simp only [List.set_cons_succ]); (try simp only [List.set_cons_zero]))
                refine wpAnyH_take (i := 14) (oi := { dst := some 179, op := Op.fieldAddr 57 (Operand.tmp 178) 2, type := 0, pos := "law.go:210", after := #[{ on := 13, ground := Ground.data }, { on := 8, ground := Ground.guard }], guard := some (8, false) }) (v := ?_) rfl (by kernel_rfl) (by kernel_rfl) (by kernel_rfl) (fun _ _ _ h => h) (Or.inl ⟨by rfl, ?_⟩) (by assumption) ?_
                rotate_left
                · (intro w hSw; (try dsimp only at hSw); go_simp; try with_reducible rfl)
                ((try simp only [Act.put]); (try simp only [List.setIfInBounds_toArray]); (try simp only [List.set_cons_succ]); (try simp only [List.set_cons_zero]))
                refine wpAnyH_take (i := 15) (oi := { dst := some 180, op := Op.load 55 (Operand.tmp 179), type := 55, pos := "law.go:210", after := #[{ on := 14, ground := Ground.data }, { on := 8, ground := Ground.guard }], guard := some (8, false) }) (v := ?_) rfl (by kernel_rfl) (by kernel_rfl) (by kernel_rfl) (fun _ _ _ h => h) (Or.inl ⟨by rfl, ?_⟩) (by assumption) ?_
                rotate_left
                · (intro w hSw; (try dsimp only at hSw); go_simp; try with_reducible rfl)
                ((try simp only [Act.put]); (try simp only [List.setIfInBounds_toArray]); (try simp only [List.set_cons_succ]); (try simp only [List.set_cons_zero]))
                refine wpAnyH_ready (rs := [10]) (by kernel_rfl) (by simp) ?_
                refine AllReadyH.cons (o := { dst := some 175, op := Op.call { callee := Callee.value (Operand.func 18), args := #[Operand.tmp 174], argTypes := #[23] }, type := 37, pos := "law.go:210", after := #[{ on := 9, ground := Ground.data }, { on := 8, ground := Ground.chain }, { on := 8, ground := Ground.guard }], guard := some (8, false) }) rfl (fun K hK => ?_) AllReadyH.nil
                go_simp
                refine (on_sent (m := e2.S) (stb_den (stb_cx (stb_tl stb_emp))) (O8.out.below (stb_eng (stb_den (stb_cx (stb_tl stb_emp)))) (Hid.out hHeld.2.2)) rfl).mono ?_
                rintro x w11 ⟨a11, c11, rfl, h11, hb⟩
                have Q11 := Lib.hid h11.sq
                clear h11
                try go_wp2_with fail
                refine hK.out _ _ ?_ (fun hNew => ?_)
                · first | exact hHeld | exact ⟨cell_go hHeld.1 hb, cell_go hHeld.2.1 hb, Lib.hid ((Hid.out hHeld.2.2).trans (hb.mono (Hid.out hHeld.2.2).size))⟩
                clear hK K
                replace hHeld := hNew
                clear hNew
                ((try simp only [Act.put]); (try simp only [List.setIfInBounds_toArray]); (try simp only [List.set_cons_succ]); (try simp only [List.set_cons_zero]))
                refine wpAnyH_ready (rs := [11]) (by kernel_rfl) (by simp) ?_
                refine AllReadyH.cons (o := { dst := some 176, op := Op.call { callee := Callee.value (Operand.func 25), args := #[Operand.tmp 175], argTypes := #[37] }, type := 55, pos := "law.go:210", after := #[{ on := 10, ground := Ground.data }, { on := 10, ground := Ground.chain }, { on := 8, ground := Ground.guard }], guard := some (8, false) }) rfl (fun K hK => ?_) AllReadyH.nil
                go_simp
                refine (rows_at (e2.n : Int) Q11.out (by have := OK2.out.n2; omega)).mono ?_
                rintro x w12 ⟨a12, c12, rfl, h12⟩
                have hb := h12.2
                have R12 := Lib.hid h12.1
                clear h12
                try go_wp2_with fail
                refine hK.out _ _ ?_ (fun hNew => ?_)
                · first | exact hHeld | exact ⟨cell_go hHeld.1 hb, cell_go hHeld.2.1 hb, Lib.hid ((Hid.out hHeld.2.2).trans (hb.mono (Hid.out hHeld.2.2).size))⟩
                clear hK K
                replace hHeld := hNew
                clear hNew
                ((try simp only [Act.put]); (try simp only [List.setIfInBounds_toArray]); (try simp only [List.set_cons_succ]); (try simp only [List.set_cons_zero]))
                refine wpAnyH_ready (rs := [16]) (by kernel_rfl) (by simp) ?_
                refine AllReadyH.cons (o := { dst := some 181, op := Op.call { callee := Callee.value (Operand.func 24), args := #[Operand.tmp 176, Operand.tmp 180], argTypes := #[55, 55] }, type := 4, pos := "law.go:210", after := #[{ on := 11, ground := Ground.data }, { on := 15, ground := Ground.data }, { on := 11, ground := Ground.chain }, { on := 8, ground := Ground.guard }], guard := some (8, false) }) rfl (fun K hK => ?_) AllReadyH.nil
                go_simp
                refine (squares_at (r := true) R12.out (QV.out.below (Hid.out hHeld.2.2)) (decide_eq_true rfl)).mono ?_
                rintro x w13 ⟨rfl, n13, hw⟩
                have hb := drew_b hw
                clear hw
                try go_wp2_with fail
                refine hK.out _ _ ?_ (fun hNew => ?_)
                · first | exact hHeld | exact ⟨cell_go hHeld.1 hb, cell_go hHeld.2.1 hb, Lib.hid ((Hid.out hHeld.2.2).trans (hb.mono (Hid.out hHeld.2.2).size))⟩
                clear hK K
                replace hHeld := hNew
                clear hNew
                ((try simp only [Act.put]); (try simp only [List.setIfInBounds_toArray]); (try simp only [List.set_cons_succ]); (try simp only [List.set_cons_zero]))
                refine wpAnyH_take (i := 17) (oi := { dst := some 182, op := Op.unOp UnOp.not 4 (Operand.tmp 181), type := 4, pos := "law.go:210", after := #[{ on := 16, ground := Ground.data }, { on := 8, ground := Ground.guard }], guard := some (8, false) }) (v := ?_) rfl (by kernel_rfl) (by kernel_rfl) (by kernel_rfl) (fun _ _ _ h => h) (Or.inl ⟨by rfl, ?_⟩) (by assumption) ?_
                rotate_left
                · (intro w hSw; (try dsimp only at hSw); go_simp; try with_reducible rfl)
                ((try simp only [Act.put]); (try simp only [List.setIfInBounds_toArray]); (try simp only [List.set_cons_succ]); (try simp only [List.set_cons_zero]))
                refine wpAnyH_take (i := 18) (oi := { dst := some 183, op := Op.pick (Operand.tmp 173) (Operand.const (Value.bool true)) (Operand.tmp 182), type := 4, pos := "law.go:210", after := #[{ on := 8, ground := Ground.data }, { on := 17, ground := Ground.data }], guard := none }) (v := ?_) rfl (by kernel_rfl) (by kernel_rfl) (by kernel_rfl) (fun _ _ _ h => h) (Or.inl ⟨by rfl, ?_⟩) (by assumption) ?_
                rotate_left
                · (intro w hSw; (try dsimp only at hSw); go_simp; try with_reducible rfl)
                ((try simp only [Act.put]); (try simp only [List.setIfInBounds_toArray]); (try simp only [List.set_cons_succ]); (try simp only [List.set_cons_zero]))
                refine wpAnyH_done (by kernel_rfl) ?_ _
                refine NoPanic.normal ?_
                have OF := Lib.hid ((O8.out.below (stb_eng (stb_den (stb_cx (stb_tl stb_emp)))) (Hid.out hHeld.2.2)).mono (fun _ _ => eng_drop (den_drop2 (cx_gone (stb_tl stb_emp)))))
                go_wp2_with fail
                go_roundw
                case rel => exact ⟨k + 1, e2, T, by omega, by go_num, N2.out.1, N2.out.2, by omega, HTL.out, OF.out⟩
                case measure => simp only [intOf]; omega
            · have do2 : (xo == 1) = false := by simpa using ho
              clear ho
              as_aux_lemma =>
                obtain ⟨r, hr⟩ : ∃ r, canE e xf bb = r := ⟨_, rfl⟩
                have CR := Lib.hid hr
                clear hr
                go_upto_region 20 with fail
                generalize wr.alloc (.cells #[.int .i64 xo, .int .i64 xf, .int .i64 (j : Int), .int .u64 (xt : Int), .slice xsa xsl xsc] 51) = w3 at *
                generalize wr.heap.size = px at *
                clear hcd; have SB := Lib.hid (show ∀ (w' : World) (e1 d1 : En), On W (Eng p e1 (Den q d1 (Cx px [.int .i64 xo, .int .i64 xf, .int .i64 (j : Int), .int .u64 (xt : Int), .slice xsa xsl xsc] (Tl (.slice (some ⟨g, 0, none⟩) T.length lc) T Emp)))) w' → SlAt bV 256 w' ba bc bb from fun w' e1 d1 h => by (obtain ⟨A9, -, h9⟩ := h.tl4; exact KB.out _ _ h9))
                have O3d := Lib.hid (O3.out.below (stb_eng (stb_den (stb_cx (stb_tl stb_emp)))) (drew_below w3))
                have t1 : w3.drew.cell? ⟨px, 1, none⟩ = some (.int .i64 xf) := v1
                have t3 : w3.drew.cell? ⟨px, 3, none⟩ = some (.int .u64 (xt : Int)) := v3
                clear v0 v1 v2 v3 v4 O3
                refine wp_region_noPanic ?_
                refine wp_region_held_drew (S := (fun w' => w'.cell? ⟨px, 1, none⟩ = some (.int .i64 xf) ∧ w'.cell? ⟨px, 3, none⟩ = some (.int .u64 (xt : Int)))) (by kernel_rfl) ?_ (fun hHeld => ?_)
                · exact ⟨t1, t3⟩
                refine wpAnyH_take (i := 0) (oi := { dst := some 100, op := Op.move (Operand.tmp 7), type := 23, pos := "law.go:206", after := #[], guard := none }) (v := ?_) rfl (by kernel_rfl) (by kernel_rfl) (by kernel_rfl) (fun _ _ _ h => h) (Or.inl ⟨by rfl, ?_⟩) (by assumption) ?_
                rotate_left
                · (intro w hSw; (try dsimp only at hSw); go_simp; try with_reducible rfl)
                ((try simp only [Act.put]); (try simp only [List.setIfInBounds_toArray]); (try simp only [List.set_cons_succ]); (try simp only [List.set_cons_zero]))
                refine wpAnyH_take (i := 1) (oi := { dst := some 101, op := Op.fieldAddr 51 (Operand.tmp 12) 1, type := 0, pos := "law.go:206", after := #[], guard := none }) (v := ?_) rfl (by kernel_rfl) (by kernel_rfl) (by kernel_rfl) (fun _ _ _ h => h) (Or.inl ⟨by rfl, ?_⟩) (by assumption) ?_
                rotate_left
                · (intro w hSw; (try dsimp only at hSw); go_simp; try with_reducible rfl)
                ((try simp only [Act.put]); (try simp only [List.setIfInBounds_toArray]); (try simp only [List.set_cons_succ]); (try simp only [List.set_cons_zero]))
                refine wpAnyH_take (i := 2) (oi := { dst := some 102, op := Op.load 3 (Operand.tmp 101), type := 3, pos := "law.go:206", after := #[{ on := 1, ground := Ground.data }], guard := none }) (v := ?_) rfl (by kernel_rfl) (by kernel_rfl) (by kernel_rfl) (fun _ _ _ h => h) (Or.inl ⟨by rfl, ?_⟩) (by assumption) ?_
                rotate_left
                · (intro w hSw; (try dsimp only at hSw); go_simp; try with_reducible rfl)
                ((try simp only [Act.put]); (try simp only [List.setIfInBounds_toArray]); (try simp only [List.set_cons_succ]); (try simp only [List.set_cons_zero]))
                refine wpAnyH_take (i := 3) (oi := { dst := some 103, op := Op.move (Operand.tmp 13), type := 32, pos := "law.go:206", after := #[], guard := none }) (v := ?_) rfl (by kernel_rfl) (by kernel_rfl) (by kernel_rfl) (fun _ _ _ h => h) (Or.inl ⟨by rfl, ?_⟩) (by assumption) ?_
                rotate_left
                · (intro w hSw; (try dsimp only at hSw); go_simp; try with_reducible rfl)
                ((try simp only [Act.put]); (try simp only [List.setIfInBounds_toArray]); (try simp only [List.set_cons_succ]); (try simp only [List.set_cons_zero]))
                refine wpAnyH_take (i := 5) (oi := { dst := some 105, op := Op.move (Operand.tmp 9), type := 48, pos := "law.go:206", after := #[], guard := none }) (v := ?_) rfl (by kernel_rfl) (by kernel_rfl) (by kernel_rfl) (fun _ _ _ h => h) (Or.inl ⟨by rfl, ?_⟩) (by assumption) ?_
                rotate_left
                · (intro w hSw; (try dsimp only at hSw); go_simp; try with_reducible rfl)
                ((try simp only [Act.put]); (try simp only [List.setIfInBounds_toArray]); (try simp only [List.set_cons_succ]); (try simp only [List.set_cons_zero]))
                refine wpAnyH_take (i := 6) (oi := { dst := some 106, op := Op.fieldAddr 51 (Operand.tmp 12) 1, type := 0, pos := "law.go:206", after := #[], guard := none }) (v := ?_) rfl (by kernel_rfl) (by kernel_rfl) (by kernel_rfl) (fun _ _ _ h => h) (Or.inl ⟨by rfl, ?_⟩) (by assumption) ?_
                rotate_left
                · (intro w hSw; (try dsimp only at hSw); go_simp; try with_reducible rfl)
                ((try simp only [Act.put]); (try simp only [List.setIfInBounds_toArray]); (try simp only [List.set_cons_succ]); (try simp only [List.set_cons_zero]))
                refine wpAnyH_take (i := 7) (oi := { dst := some 107, op := Op.load 3 (Operand.tmp 106), type := 3, pos := "law.go:206", after := #[{ on := 6, ground := Ground.data }], guard := none }) (v := ?_) rfl (by kernel_rfl) (by kernel_rfl) (by kernel_rfl) (fun _ _ _ h => h) (Or.inl ⟨by rfl, ?_⟩) (by assumption) ?_
                rotate_left
                · (intro w hSw; (try dsimp only at hSw); go_simp; try with_reducible rfl)
                ((try simp only [Act.put]); (try simp only [List.setIfInBounds_toArray]); (try simp only [List.set_cons_succ]); (try simp only [List.set_cons_zero]))
                refine wpAnyH_take (i := 8) (oi := { dst := some 108, op := Op.move (Operand.tmp 13), type := 32, pos := "law.go:206", after := #[], guard := none }) (v := ?_) rfl (by kernel_rfl) (by kernel_rfl) (by kernel_rfl) (fun _ _ _ h => h) (Or.inl ⟨by rfl, ?_⟩) (by assumption) ?_
                rotate_left
                · (intro w hSw; (try dsimp only at hSw); go_simp; try with_reducible rfl)
                ((try simp only [Act.put]); (try simp only [List.setIfInBounds_toArray]); (try simp only [List.set_cons_succ]); (try simp only [List.set_cons_zero]))
                refine wpAnyH_ready (rs := [4]) (by kernel_rfl) (by simp) ?_
                refine AllReadyH.cons (o := { dst := some 104, op := Op.call { callee := Callee.value (Operand.func 13), args := #[Operand.tmp 100, Operand.tmp 102, Operand.const (Value.int IntKind.u64 1), Operand.tmp 103], argTypes := #[23, 3, 29, 32] }, type := 4, pos := "law.go:206", after := #[{ on := 0, ground := Ground.data }, { on := 2, ground := Ground.data }, { on := 3, ground := Ground.data }], guard := none }) rfl (fun K hK => ?_) AllReadyH.nil
                go_simp
                refine (on_can (f := xf) (num := 1) (stb_den (stb_cx (stb_tl stb_emp))) O3d.out (SB.out _ _ _ O3d.out) BL.out BM.out FO.out CR.out).mono ?_
                rintro x w4 ⟨rfl, h4, -⟩
                have O4 := Lib.hid (h4.mono (fun _ _ => den_swap (stb_cx (stb_tl stb_emp))))
                have S4 := Lib.hid (SB.out _ _ _ h4)
                have XC4 := Lib.hid h4.cx
                have u1 := XC4.out.c 1 (by simp)
                have u3 := XC4.out.c 3 (by simp)
                simp at u1 u3
                clear h4
                try go_wp2_with fail
                refine hK.out _ _ ?_ (fun hNew => ?_)
                · first | exact hHeld | exact ⟨u1, u3⟩
                clear hK K
                replace hHeld := hNew
                clear hNew
                ((try simp only [Act.put]); (try simp only [List.setIfInBounds_toArray]); (try simp only [List.set_cons_succ]); (try simp only [List.set_cons_zero]))
                refine wpAnyH_ready (rs := [9]) (by kernel_rfl) (by simp) ?_
                refine AllReadyH.cons (o := { dst := some 109, op := Op.call { callee := Callee.value (Operand.func 23), args := #[Operand.tmp 105, Operand.tmp 107, Operand.tmp 108], argTypes := #[48, 3, 32] }, type := 4, pos := "law.go:206", after := #[{ on := 5, ground := Ground.data }, { on := 7, ground := Ground.data }, { on := 8, ground := Ground.data }, { on := 4, ground := Ground.chain }], guard := none }) rfl (fun K hK => ?_) AllReadyH.nil
                go_simp
                refine (on_dcan (f := xf) (stb_eng (stb_cx (stb_tl stb_emp))) O4.out S4.out BL.out CR.out).mono ?_
                rintro x w8 ⟨rfl, h8, -⟩
                have O8 := Lib.hid (h8.mono (fun _ _ => den_back (stb_cx (stb_tl stb_emp))))
                clear h8 O4 S4 XC4
                have XC4 := Lib.hid O8.out.cx
                have u1 := XC4.out.c 1 (by simp)
                have u3 := XC4.out.c 3 (by simp)
                simp at u1 u3
                try go_wp2_with fail
                refine hK.out _ _ ?_ (fun hNew => ?_)
                · first | exact hHeld | exact ⟨u1, u3⟩
                clear hK K
                replace hHeld := hNew
                clear hNew
                ((try simp only [Act.put]); (try simp only [List.setIfInBounds_toArray]); (try simp only [List.set_cons_succ]); (try simp only [List.set_cons_zero]))
                refine wpAnyH_take (i := 10) (oi := { dst := some 110, op := Op.binOp BinOp.neq 4 (Operand.tmp 104) (Operand.tmp 109) 4, type := 4, pos := "law.go:206", after := #[{ on := 4, ground := Ground.data }, { on := 9, ground := Ground.data }], guard := none }) (v := ?_) rfl (by kernel_rfl) (by kernel_rfl) (by kernel_rfl) (fun _ _ _ h => h) (Or.inl ⟨by rfl, ?_⟩) (by assumption) ?_
                rotate_left
                · (intro w hSw; (try dsimp only at hSw); go_simp; try with_reducible rfl)
                ((try simp only [Act.put]); (try simp only [List.setIfInBounds_toArray]); (try simp only [List.set_cons_succ]); (try simp only [List.set_cons_zero]))
                refine wpAnyH_done (by kernel_rfl) ?_ _
                refine NoPanic.normal ?_
                clear u1 u3 XC4 hHeld
                obtain ⟨e2, he2⟩ : ∃ e2, e2 = e := ⟨_, rfl⟩
                rw [← he2] at O8
                have N2 := Lib.hid (show e2.n = e.n ∧ e2.me = e.me by rw [he2]; exact ⟨rfl, rfl⟩)
                clear he2
                obtain ⟨sa, sc, ga, gc, q2, q3, qs, qg⟩ := (O8.out.mono (fun _ _ => den_swap (stb_cx (stb_tl stb_emp)))).den
                have QV := Lib.hid qs
                have GV := Lib.hid qg
                have OK2 := Lib.hid O8.out.ok
                have GL := Lib.hid OK2.out.G
                clear qs qg
                go_upto_region 36 with fail
                refine wp_region_noPanic ?_
                refine wp_region_held_drew (S := (fun w' => w'.cell? ⟨q, 2, none⟩ = some (.slice sa e2.n sc) ∧ w'.cell? ⟨q, 3, none⟩ = some (.slice ga e2.n gc) ∧ Hid (Below w8.heap.size w8 w'))) (by kernel_rfl) ?_ (fun hHeld => ?_)
                · exact ⟨q2, q3, Lib.hid (drew_below w8)⟩
                refine wpAnyH_take (i := 0) (oi := { dst := some 165, op := Op.move (Operand.tmp 7), type := 23, pos := "law.go:210", after := #[], guard := none }) (v := ?_) rfl (by kernel_rfl) (by kernel_rfl) (by kernel_rfl) (fun _ _ _ h => h) (Or.inl ⟨by rfl, ?_⟩) (by assumption) ?_
                rotate_left
                · (intro w hSw; (try dsimp only at hSw); go_simp; try with_reducible rfl)
                ((try simp only [Act.put]); (try simp only [List.setIfInBounds_toArray]); (try simp only [List.set_cons_succ]); (try simp only [List.set_cons_zero]))
                refine wpAnyH_take (i := 2) (oi := { dst := some 167, op := Op.move (Operand.tmp 9), type := 48, pos := "law.go:210", after := #[], guard := none }) (v := ?_) rfl (by kernel_rfl) (by kernel_rfl) (by kernel_rfl) (fun _ _ _ h => h) (Or.inl ⟨by rfl, ?_⟩) (by assumption) ?_
                rotate_left
                · (intro w hSw; (try dsimp only at hSw); go_simp; try with_reducible rfl)
                ((try simp only [Act.put]); (try simp only [List.setIfInBounds_toArray]); (try simp only [List.set_cons_succ]); (try simp only [List.set_cons_zero]))
                refine wpAnyH_take (i := 3) (oi := { dst := some 168, op := Op.nilCheck (Operand.tmp 167), type := 0, pos := "law.go:210", after := #[{ on := 2, ground := Ground.data }], guard := none }) (v := ?_) rfl (by kernel_rfl) (by kernel_rfl) (by kernel_rfl) (fun _ _ _ h => h) (Or.inl ⟨by rfl, ?_⟩) (by assumption) ?_
                rotate_left
                · (intro w hSw; (try dsimp only at hSw); go_simp; try with_reducible rfl)
                ((try simp only [Act.put]); (try simp only [List.setIfInBounds_toArray]); (try simp only [List.set_cons_succ]); (try simp only [List.set_cons_zero]))
                refine wpAnyH_take (i := 4) (oi := { dst := some 169, op := Op.fieldAddr 57 (Operand.tmp 168) 3, type := 0, pos := "law.go:210", after := #[{ on := 3, ground := Ground.data }], guard := none }) (v := ?_) rfl (by kernel_rfl) (by kernel_rfl) (by kernel_rfl) (fun _ _ _ h => h) (Or.inl ⟨by rfl, ?_⟩) (by assumption) ?_
                rotate_left
                · (intro w hSw; (try dsimp only at hSw); go_simp; try with_reducible rfl)
                ((try simp only [Act.put]); (try simp only [List.setIfInBounds_toArray]); (try simp only [List.set_cons_succ]); (try simp only [List.set_cons_zero]))
                refine wpAnyH_take (i := 5) (oi := { dst := some 170, op := Op.load 41 (Operand.tmp 169), type := 41, pos := "law.go:210", after := #[{ on := 4, ground := Ground.data }], guard := none }) (v := ?_) rfl (by kernel_rfl) (by kernel_rfl) (by kernel_rfl) (fun _ _ _ h => h) (Or.inl ⟨by rfl, ?_⟩) (by assumption) ?_
                rotate_left
                · (intro w hSw; (try dsimp only at hSw); go_simp; try with_reducible rfl)
                ((try simp only [Act.put]); (try simp only [List.setIfInBounds_toArray]); (try simp only [List.set_cons_succ]); (try simp only [List.set_cons_zero]))
                refine wpAnyH_ready (rs := [1]) (by kernel_rfl) (by simp) ?_
                refine AllReadyH.cons (o := { dst := some 166, op := Op.call { callee := Callee.value (Operand.func 16), args := #[Operand.tmp 165], argTypes := #[23] }, type := 42, pos := "law.go:210", after := #[{ on := 0, ground := Ground.data }], guard := none }) rfl (fun K hK => ?_) AllReadyH.nil
                go_simp
                refine (on_got (g := e2.G) (stb_den (stb_cx (stb_tl stb_emp))) (O8.out.below (stb_eng (stb_den (stb_cx (stb_tl stb_emp)))) (Hid.out hHeld.2.2)) rfl).mono ?_
                rintro x w10 ⟨a10, c10, rfl, h10, hb⟩
                have G10 := Lib.hid h10.sl
                clear h10
                try go_wp2_with fail
                refine hK.out _ _ ?_ (fun hNew => ?_)
                · first | exact hHeld | exact ⟨cell_go hHeld.1 hb, cell_go hHeld.2.1 hb, Lib.hid ((Hid.out hHeld.2.2).trans (hb.mono (Hid.out hHeld.2.2).size))⟩
                clear hK K
                replace hHeld := hNew
                clear hNew
                ((try simp only [Act.put]); (try simp only [List.setIfInBounds_toArray]); (try simp only [List.set_cons_succ]); (try simp only [List.set_cons_zero]))
                refine wpAnyH_ready (rs := [6]) (by kernel_rfl) (by simp) ?_
                refine AllReadyH.cons (o := { dst := some 171, op := Op.call { callee := Callee.value (Operand.func 15), args := #[Operand.tmp 166, Operand.tmp 170], argTypes := #[41, 41] }, type := 4, pos := "law.go:210", after := #[{ on := 1, ground := Ground.data }, { on := 5, ground := Ground.data }, { on := 1, ground := Ground.chain }], guard := none }) rfl (fun K hK => ?_) AllReadyH.nil
                go_simp
                refine (longs_any (r := true) G10.out (GV.out.below (Hid.out hHeld.2.2)) GL.out GL.out (decide_eq_true rfl)).mono ?_
                rintro x w5 ⟨rfl, n5, hw⟩
                have hb := drew_b hw
                clear hw
                try go_wp2_with fail
                refine hK.out _ _ ?_ (fun hNew => ?_)
                · first | exact hHeld | exact ⟨cell_go hHeld.1 hb, cell_go hHeld.2.1 hb, Lib.hid ((Hid.out hHeld.2.2).trans (hb.mono (Hid.out hHeld.2.2).size))⟩
                clear hK K
                replace hHeld := hNew
                clear hNew
                ((try simp only [Act.put]); (try simp only [List.setIfInBounds_toArray]); (try simp only [List.set_cons_succ]); (try simp only [List.set_cons_zero]))
                refine wpAnyH_take (i := 7) (oi := { dst := some 172, op := Op.unOp UnOp.not 4 (Operand.tmp 171), type := 4, pos := "law.go:210", after := #[{ on := 6, ground := Ground.data }], guard := none }) (v := ?_) rfl (by kernel_rfl) (by kernel_rfl) (by kernel_rfl) (fun _ _ _ h => h) (Or.inl ⟨by rfl, ?_⟩) (by assumption) ?_
                rotate_left
                · (intro w hSw; (try dsimp only at hSw); go_simp; try with_reducible rfl)
                ((try simp only [Act.put]); (try simp only [List.setIfInBounds_toArray]); (try simp only [List.set_cons_succ]); (try simp only [List.set_cons_zero]))
                refine wpAnyH_take (i := 8) (oi := { dst := some 173, op := Op.move (Operand.tmp 172), type := 4, pos := "law.go:210", after := #[{ on := 7, ground := Ground.data }, { on := 6, ground := Ground.chain }], guard := none }) (v := ?_) rfl (by kernel_rfl) (by kernel_rfl) (by kernel_rfl) (fun _ _ _ h => h) (Or.inl ⟨by rfl, ?_⟩) (by assumption) ?_
                rotate_left
                · (intro w hSw; (try dsimp only at hSw); go_simp; try with_reducible rfl)
                ((try simp only [Act.put]); (try simp only [List.setIfInBounds_toArray]); (try simp only [List.set_cons_succ]); (try simp only [List.set_cons_zero]))
                refine wpAnyH_take (i := 9) (oi := { dst := some 174, op := Op.move (Operand.tmp 7), type := 23, pos := "law.go:210", after := #[{ on := 8, ground := Ground.guard }], guard := some (8, false) }) (v := ?_) rfl (by kernel_rfl) (by kernel_rfl) (by kernel_rfl) (fun _ _ _ h => h) (Or.inl ⟨by rfl, ?_⟩) (by assumption) ?_
                rotate_left
                · (intro w hSw; (try dsimp only at hSw); go_simp; try with_reducible rfl)
                ((try simp only [Act.put]); (try simp only [List.setIfInBounds_toArray]); (try simp only [List.set_cons_succ]); (try simp only [List.set_cons_zero]))
                refine wpAnyH_take (i := 12) (oi := { dst := some 177, op := Op.move (Operand.tmp 9), type := 48, pos := "law.go:210", after := #[{ on := 8, ground := Ground.guard }], guard := some (8, false) }) (v := ?_) rfl (by kernel_rfl) (by kernel_rfl) (by kernel_rfl) (fun _ _ _ h => h) (Or.inl ⟨by rfl, ?_⟩) (by assumption) ?_
                rotate_left
                · (intro w hSw; (try dsimp only at hSw); go_simp; try with_reducible rfl)
                ((try simp only [Act.put]); (try simp only [List.setIfInBounds_toArray]); (try simp only [List.set_cons_succ]); (try simp only [List.set_cons_zero]))
                refine wpAnyH_take (i := 13) (oi := { dst := some 178, op := Op.nilCheck (Operand.tmp 177), type := 0, pos := "law.go:210", after := #[{ on := 12, ground := Ground.data }, { on := 8, ground := Ground.guard }], guard := some (8, false) }) (v := ?_) rfl (by kernel_rfl) (by kernel_rfl) (by kernel_rfl) (fun _ _ _ h => h) (Or.inl ⟨by rfl, ?_⟩) (by assumption) ?_
                rotate_left
                · (intro w hSw; (try dsimp only at hSw); go_simp; try with_reducible rfl)
                ((try simp only [Act.put]); (try simp only [List.setIfInBounds_toArray]); (try simp only [List.set_cons_succ]); (try simp only [List.set_cons_zero]))
                refine wpAnyH_take (i := 14) (oi := { dst := some 179, op := Op.fieldAddr 57 (Operand.tmp 178) 2, type := 0, pos := "law.go:210", after := #[{ on := 13, ground := Ground.data }, { on := 8, ground := Ground.guard }], guard := some (8, false) }) (v := ?_) rfl (by kernel_rfl) (by kernel_rfl) (by kernel_rfl) (fun _ _ _ h => h) (Or.inl ⟨by rfl, ?_⟩) (by assumption) ?_
                rotate_left
                · (intro w hSw; (try dsimp only at hSw); go_simp; try with_reducible rfl)
                ((try simp only [Act.put]); (try simp only [List.setIfInBounds_toArray]); (try simp only [List.set_cons_succ]); (try simp only [List.set_cons_zero]))
                refine wpAnyH_take (i := 15) (oi := { dst := some 180, op := Op.load 55 (Operand.tmp 179), type := 55, pos := "law.go:210", after := #[{ on := 14, ground := Ground.data }, { on := 8, ground := Ground.guard }], guard := some (8, false) }) (v := ?_) rfl (by kernel_rfl) (by kernel_rfl) (by kernel_rfl) (fun _ _ _ h => h) (Or.inl ⟨by rfl, ?_⟩) (by assumption) ?_
                rotate_left
                · (intro w hSw; (try dsimp only at hSw); go_simp; try with_reducible rfl)
                ((try simp only [Act.put]); (try simp only [List.setIfInBounds_toArray]); (try simp only [List.set_cons_succ]); (try simp only [List.set_cons_zero]))
                refine wpAnyH_ready (rs := [10]) (by kernel_rfl) (by simp) ?_
                refine AllReadyH.cons (o := { dst := some 175, op := Op.call { callee := Callee.value (Operand.func 18), args := #[Operand.tmp 174], argTypes := #[23] }, type := 37, pos := "law.go:210", after := #[{ on := 9, ground := Ground.data }, { on := 8, ground := Ground.chain }, { on := 8, ground := Ground.guard }], guard := some (8, false) }) rfl (fun K hK => ?_) AllReadyH.nil
                go_simp
                refine (on_sent (m := e2.S) (stb_den (stb_cx (stb_tl stb_emp))) (O8.out.below (stb_eng (stb_den (stb_cx (stb_tl stb_emp)))) (Hid.out hHeld.2.2)) rfl).mono ?_
                rintro x w11 ⟨a11, c11, rfl, h11, hb⟩
                have Q11 := Lib.hid h11.sq
                clear h11
                try go_wp2_with fail
                refine hK.out _ _ ?_ (fun hNew => ?_)
                · first | exact hHeld | exact ⟨cell_go hHeld.1 hb, cell_go hHeld.2.1 hb, Lib.hid ((Hid.out hHeld.2.2).trans (hb.mono (Hid.out hHeld.2.2).size))⟩
                clear hK K
                replace hHeld := hNew
                clear hNew
                ((try simp only [Act.put]); (try simp only [List.setIfInBounds_toArray]); (try simp only [List.set_cons_succ]); (try simp only [List.set_cons_zero]))
                refine wpAnyH_ready (rs := [11]) (by kernel_rfl) (by simp) ?_
                refine AllReadyH.cons (o := { dst := some 176, op := Op.call { callee := Callee.value (Operand.func 25), args := #[Operand.tmp 175], argTypes := #[37] }, type := 55, pos := "law.go:210", after := #[{ on := 10, ground := Ground.data }, { on := 10, ground := Ground.chain }, { on := 8, ground := Ground.guard }], guard := some (8, false) }) rfl (fun K hK => ?_) AllReadyH.nil
                go_simp
                refine (rows_at (e2.n : Int) Q11.out (by have := OK2.out.n2; omega)).mono ?_
                rintro x w12 ⟨a12, c12, rfl, h12⟩
                have hb := h12.2
                have R12 := Lib.hid h12.1
                clear h12
                try go_wp2_with fail
                refine hK.out _ _ ?_ (fun hNew => ?_)
                · first | exact hHeld | exact ⟨cell_go hHeld.1 hb, cell_go hHeld.2.1 hb, Lib.hid ((Hid.out hHeld.2.2).trans (hb.mono (Hid.out hHeld.2.2).size))⟩
                clear hK K
                replace hHeld := hNew
                clear hNew
                ((try simp only [Act.put]); (try simp only [List.setIfInBounds_toArray]); (try simp only [List.set_cons_succ]); (try simp only [List.set_cons_zero]))
                refine wpAnyH_ready (rs := [16]) (by kernel_rfl) (by simp) ?_
                refine AllReadyH.cons (o := { dst := some 181, op := Op.call { callee := Callee.value (Operand.func 24), args := #[Operand.tmp 176, Operand.tmp 180], argTypes := #[55, 55] }, type := 4, pos := "law.go:210", after := #[{ on := 11, ground := Ground.data }, { on := 15, ground := Ground.data }, { on := 11, ground := Ground.chain }, { on := 8, ground := Ground.guard }], guard := some (8, false) }) rfl (fun K hK => ?_) AllReadyH.nil
                go_simp
                refine (squares_at (r := true) R12.out (QV.out.below (Hid.out hHeld.2.2)) (decide_eq_true rfl)).mono ?_
                rintro x w13 ⟨rfl, n13, hw⟩
                have hb := drew_b hw
                clear hw
                try go_wp2_with fail
                refine hK.out _ _ ?_ (fun hNew => ?_)
                · first | exact hHeld | exact ⟨cell_go hHeld.1 hb, cell_go hHeld.2.1 hb, Lib.hid ((Hid.out hHeld.2.2).trans (hb.mono (Hid.out hHeld.2.2).size))⟩
                clear hK K
                replace hHeld := hNew
                clear hNew
                ((try simp only [Act.put]); (try simp only [List.setIfInBounds_toArray]); (try simp only [List.set_cons_succ]); (try simp only [List.set_cons_zero]))
                refine wpAnyH_take (i := 17) (oi := { dst := some 182, op := Op.unOp UnOp.not 4 (Operand.tmp 181), type := 4, pos := "law.go:210", after := #[{ on := 16, ground := Ground.data }, { on := 8, ground := Ground.guard }], guard := some (8, false) }) (v := ?_) rfl (by kernel_rfl) (by kernel_rfl) (by kernel_rfl) (fun _ _ _ h => h) (Or.inl ⟨by rfl, ?_⟩) (by assumption) ?_
                rotate_left
                · (intro w hSw; (try dsimp only at hSw); go_simp; try with_reducible rfl)
                ((try simp only [Act.put]); (try simp only [List.setIfInBounds_toArray]); (try simp only [List.set_cons_succ]); (try simp only [List.set_cons_zero]))
                refine wpAnyH_take (i := 18) (oi := { dst := some 183, op := Op.pick (Operand.tmp 173) (Operand.const (Value.bool true)) (Operand.tmp 182), type := 4, pos := "law.go:210", after := #[{ on := 8, ground := Ground.data }, { on := 17, ground := Ground.data }], guard := none }) (v := ?_) rfl (by kernel_rfl) (by kernel_rfl) (by kernel_rfl) (fun _ _ _ h => h) (Or.inl ⟨by rfl, ?_⟩) (by assumption) ?_
                rotate_left
                · (intro w hSw; (try dsimp only at hSw); go_simp; try with_reducible rfl)
                ((try simp only [Act.put]); (try simp only [List.setIfInBounds_toArray]); (try simp only [List.set_cons_succ]); (try simp only [List.set_cons_zero]))
                refine wpAnyH_done (by kernel_rfl) ?_ _
                refine NoPanic.normal ?_
                have OF := Lib.hid ((O8.out.below (stb_eng (stb_den (stb_cx (stb_tl stb_emp)))) (Hid.out hHeld.2.2)).mono (fun _ _ => eng_drop (den_drop2 (cx_gone (stb_tl stb_emp)))))
                go_wp2_with fail
                go_roundw
                case rel => exact ⟨k + 1, e2, T, by omega, by go_num, N2.out.1, N2.out.2, by omega, HTL.out, OF.out⟩
                case measure => simp only [intOf]; omega
        · have d11 : decide (xp < (T.length : Int)) = false := decide_eq_false hp2
          clear hp hp2
          have SB0 := XS0
          have BL := XL
          have BM := X6
          by_cases ho : xo = 0
          · have do1 : (xo == 0) = true := by simpa using ho
            clear ho
            as_aux_lemma =>
              obtain ⟨cn, hcn⟩ : ∃ c, (listN (toE e.n e.me xt)).length = c := ⟨_, rfl⟩
              have CN := Lib.hid hcn
              have C64 := Lib.hid (show cn ≤ 64 from by rw [← hcn]; exact toN_len _ 64)
              clear hcn
              obtain ⟨Ls, hLs⟩ : ∃ L, stampL e.S = L := ⟨_, rfl⟩
              have LS := Lib.hid hLs
              have LSL := Lib.hid (show Ls.length ≤ 2560 from by rw [← hLs]; exact stampE_len O3.out.ok)
              clear hLs
              obtain ⟨e2, he2⟩ : ∃ e2, sendE e xt = e2 := ⟨_, rfl⟩
              have E2 := Lib.hid he2
              clear he2
              have N2 := Lib.hid (show e2.n = e.n ∧ e2.me = e.me by rw [← E2.out]; exact ⟨rfl, rfl⟩)
              go_wp2_with fail
              generalize wr.alloc (.cells #[.int .i64 xo, .int .i64 xf, .int .i64 xp, .int .u64 (xt : Int), .slice xsa xsl xsc] 51) = w3 at *
              generalize wr.heap.size = px at *
              have CS := Lib.hid (on_send_in (R' := fun a cap => Den q e (Cx px [.int .i64 xo, .int .i64 xf, .int .i64 xp, .int .u64 (xt : Int), .slice xsa xsl xsc] (Tl (.slice la T.length lc) T (Bq a cap cn (List.replicate cn Ls) Emp)))) (stb_den (stb_cx (stb_tl stb_emp))) O3.out TL.out LS.out CN.out E2.out (fun w' N Fr a cap hN hB => ins_den hN (ins_cx hN (ins_tl hN (ins_bq stb_emp hB)))))
              refine CS.out.mono ?_
              rintro x w4 ⟨a4, c4, rfl, h4⟩
              have O4 := Lib.hid (h4.mono (fun _ _ => den_swap (stb_cx (stb_tl (stb_bq stb_emp)))))
              have XC4 := Lib.hid h4.cx
              have u3 : w4.cell? ⟨px, 3, none⟩ = some (.int .u64 (xt : Int)) := XC4.out.c 3 (by simp)
              clear h4 v0 v1 v2 v3 v4 O3 CS XC4
              go_wp2_with fail
              refine (on_dsend (t := xt) (stb_eng (stb_cx (stb_tl (stb_bq stb_emp)))) O4.out TL.out LS.out CN.out E2.out).mono ?_
              rintro x w5 ⟨a5, c5, rfl, h5⟩
              have O5 := Lib.hid (h5.mono (fun _ _ h => den_back (stb_byx (stb_cx (stb_tl (stb_bq stb_emp)))) (den_drop (byx_swap (stb_cx (stb_tl (stb_bq stb_emp)))) h)))
              clear h5 O4 u3
              go_wp2_with fail
              go_loopw [10, 17] (fun s i wr => ∃ (t : Nat) (T2 : List Rd), t ≤ cn ∧ i = .int .i64 (t : Nat) ∧ T2.length = T.length + t ∧ (∀ r ∈ T2, r.l.length ≤ 2560) ∧ On W (Eng p e2 (Den q e2 (Byx a5 c5 Ls (Cx px [.int .i64 xo, .int .i64 xf, .int .i64 xp, .int .u64 (xt : Int), .slice xsa xsl xsc] (Tl s T2 (Bq a4 c4 cn (List.replicate cn Ls) Emp)))))) wr) (fun _ i _ => cn - (intOf i).toNat)
              case atStart => exact ⟨0, T, Nat.zero_le _, rfl, rfl, HTL.out, O5.out⟩
              case round =>
                obtain ⟨t, T2, htc, rfl, hT2, hTL2, hO⟩ := hrel
                have O6 := Lib.hid hO
                have HTL2 := Lib.hid hTL2
                clear hO O5 hTL2
                by_cases htl : t < cn
                · skip
                  obtain ⟨A9, hA9, hT9, hS5⟩ := O6.out.tl5
                  obtain ⟨la2, lc2, rfl⟩ := own_form hT9.1
                  have LO2 := Lib.hid (show ∀ j, (Value.slice la2 T2.length lc2).ownBlock = some j → W.heap.size ≤ j from fun j e => (hA9 j (hT9.2.1 j e)).1)
                  obtain ⟨b, off, ra, rc, rfl, hc0, hs, -⟩ := hT9.2.2.2.1.row (i := t) htl
                  have hg := Lib.hid (show (List.replicate cn Ls).getD t [] = Ls by simp [htl])
                  rw [hg.out] at hc0 hs
                  have hc : wr.drew.cell? ⟨b, off + t, none⟩ = some (.slice ra Ls.length rc) := hc0
                  have CV1 := Lib.hid (conv_any (hs.below (drew_below wr)) rfl)
                  have CV2 := Lib.hid (conv_any (hS5.below (drew_below wr)) rfl)
                  have t0 : (0 : Int) ≤ (t : Int) := by omega
                  have t1 : (t : Int) < (cn : Int) := by omega
                  have c64 := C64.out
                  have h40 := HL40.out
                  have HT2 := Lib.hid hT2
                  clear hT2
                  clear hA9 hT9 hS5 hs hc0
                  go_upto_region 30 with fail
                  refine wp_region_noPanic ?_
                  refine wp_region_held_drew (S := (fun w' => w'.cell? ⟨b, off + t, none⟩ = some (.slice ra Ls.length rc))) (by kernel_rfl) ?_ (fun hHeld => ?_)
                  · exact hc
                  refine wpAnyH_take (i := 0) (oi := { dst := some 133, op := Op.move (Operand.tmp 14), type := 27, pos := "law.go:196", after := #[], guard := none }) (v := ?_) rfl (by kernel_rfl) (by kernel_rfl) (by kernel_rfl) (fun _ _ _ h => h) (Or.inl ⟨by rfl, ?_⟩) (by assumption) ?_
                  rotate_left
                  · (intro w hSw; (try dsimp only at hSw); go_simp; try with_reducible rfl)
                  ((try simp only [Act.put]); (try simp only [List.setIfInBounds_toArray]); (try simp only [List.set_cons_succ]); (try simp only [List.set_cons_zero]))
                  refine wpAnyH_take (i := 1) (oi := { dst := some 134, op := Op.move (Operand.tmp 17), type := 3, pos := "law.go:196", after := #[], guard := none }) (v := ?_) rfl (by kernel_rfl) (by kernel_rfl) (by kernel_rfl) (fun _ _ _ h => h) (Or.inl ⟨by rfl, ?_⟩) (by assumption) ?_
                  rotate_left
                  · (intro w hSw; (try dsimp only at hSw); go_simp; try with_reducible rfl)
                  ((try simp only [Act.put]); (try simp only [List.setIfInBounds_toArray]); (try simp only [List.set_cons_succ]); (try simp only [List.set_cons_zero]))
                  refine wpAnyH_take (i := 2) (oi := { dst := some 135, op := Op.indexAddr 27 (Operand.tmp 133) (Operand.tmp 134), type := 0, pos := "law.go:196", after := #[{ on := 0, ground := Ground.data }, { on := 1, ground := Ground.data }], guard := none }) (v := ?_) rfl (by kernel_rfl) (by kernel_rfl) (by kernel_rfl) (fun _ _ _ h => h) (Or.inl ⟨by rfl, ?_⟩) (by assumption) ?_
                  rotate_left
                  · (intro w hSw; (try dsimp only at hSw); go_simp; try with_reducible rfl)
                  ((try simp only [Act.put]); (try simp only [List.setIfInBounds_toArray]); (try simp only [List.set_cons_succ]); (try simp only [List.set_cons_zero]))
                  refine wpAnyH_take (i := 3) (oi := { dst := some 136, op := Op.load 32 (Operand.tmp 135), type := 32, pos := "law.go:196", after := #[{ on := 2, ground := Ground.data }], guard := none }) (v := ?_) rfl (by kernel_rfl) (by kernel_rfl) (by kernel_rfl) (fun _ _ _ h => h) (Or.inl ⟨by rfl, ?_⟩) (by assumption) ?_
                  rotate_left
                  · (intro w hSw; (try dsimp only at hSw); go_simp; try with_reducible rfl)
                  ((try simp only [Act.put]); (try simp only [List.setIfInBounds_toArray]); (try simp only [List.set_cons_succ]); (try simp only [List.set_cons_zero]))
                  refine wpAnyH_take (i := 5) (oi := { dst := some 138, op := Op.move (Operand.tmp 15), type := 32, pos := "law.go:196", after := #[], guard := none }) (v := ?_) rfl (by kernel_rfl) (by kernel_rfl) (by kernel_rfl) (fun _ _ _ h => h) (Or.inl ⟨by rfl, ?_⟩) (by assumption) ?_
                  rotate_left
                  · (intro w hSw; (try dsimp only at hSw); go_simp; try with_reducible rfl)
                  ((try simp only [Act.put]); (try simp only [List.setIfInBounds_toArray]); (try simp only [List.set_cons_succ]); (try simp only [List.set_cons_zero]))
                  refine wpAnyH_ready (rs := [4, 6]) (by kernel_rfl) (by simp) ?_
                  refine AllReadyH.cons (o := { dst := some 137, op := Op.convert 32 9 (Operand.tmp 136), type := 9, pos := "law.go:196", after := #[{ on := 3, ground := Ground.data }], guard := none }) rfl (fun K hK => ?_) (AllReadyH.cons (o := { dst := some 139, op := Op.convert 32 9 (Operand.tmp 138), type := 9, pos := "law.go:196", after := #[{ on := 5, ground := Ground.data }], guard := none }) rfl (fun K hK => ?_) AllReadyH.nil)
                  · skip
                    have cv := CV1.out
                    go_simp
                    clear cv
                    try go_wp2_with fail
                    refine hK.out _ _ ?_ (fun hNew => ?_)
                    · exact hHeld
                    clear hK K
                    replace hHeld := hNew
                    clear hNew
                    ((try simp only [Act.put]); (try simp only [List.setIfInBounds_toArray]); (try simp only [List.set_cons_succ]); (try simp only [List.set_cons_zero]))
                    refine wpAnyH_ready (rs := [6]) (by kernel_rfl) (by simp) ?_
                    refine AllReadyH.cons (o := { dst := some 139, op := Op.convert 32 9 (Operand.tmp 138), type := 9, pos := "law.go:196", after := #[{ on := 5, ground := Ground.data }], guard := none }) rfl (fun K hK => ?_) AllReadyH.nil
                    have cv := CV2.out
                    go_simp
                    clear cv
                    try go_wp2_with fail
                    refine hK.out _ _ ?_ (fun hNew => ?_)
                    · exact hHeld
                    clear hK K
                    replace hHeld := hNew
                    clear hNew
                    ((try simp only [Act.put]); (try simp only [List.setIfInBounds_toArray]); (try simp only [List.set_cons_succ]); (try simp only [List.set_cons_zero]))
                    refine wpAnyH_take (i := 7) (oi := { dst := some 140, op := Op.binOp BinOp.neq 9 (Operand.tmp 137) (Operand.tmp 139) 9, type := 4, pos := "law.go:196", after := #[{ on := 4, ground := Ground.data }, { on := 6, ground := Ground.data }], guard := none }) (v := ?_) rfl (by kernel_rfl) (by kernel_rfl) (by kernel_rfl) (fun _ _ _ h => h) (Or.inl ⟨by rfl, ?_⟩) (by assumption) ?_
                    rotate_left
                    · (intro w hSw; (try dsimp only at hSw); go_simp; try with_reducible rfl)
                    ((try simp only [Act.put]); (try simp only [List.setIfInBounds_toArray]); (try simp only [List.set_cons_succ]); (try simp only [List.set_cons_zero]))
                    refine wpAnyH_done (by kernel_rfl) ?_ _
                    refine NoPanic.normal ?_
                    clear hHeld CV1 CV2
                    have O7 := Lib.hid (O6.out.below (stb_eng (stb_den (stb_byx (stb_cx (stb_tl (stb_bq stb_emp)))))) (drew_below wr))
                    clear O6
                    generalize wr.drew = w9 at *
                    have hb9 : Below w9.heap.size w9 (w9.alloc (.cells #[.slice ra Ls.length rc] 32)) := box_b w9 (.cells #[.slice ra Ls.length rc] 32)
                    have O9 := Lib.hid (O7.out.below (stb_eng (stb_den (stb_byx (stb_cx (stb_tl (stb_bq stb_emp)))))) hb9)
                    have hc5 := Lib.hid (cell_go hc hb9)
                    clear hb9
                    have NX := Lib.hid (fun (v6 : Value) (w6 : World) (hown : w6.ownsRow 0 32 1 v6 (T2.length + 1) (T2.map rdV ++ [.slice ra Ls.length rc])) (hgr : (w9.alloc (.cells #[.slice ra Ls.length rc] 32)).grownBy w6 (Value.slice la2 T2.length lc2).ownBlock) (hat : ∀ j, v6.ownBlock = some j → (Value.slice la2 T2.length lc2).ownBlock = some j ∨ (w9.alloc (.cells #[.slice ra Ls.length rc] 32)).heap.size ≤ j) =>
                      show On W (Eng p e2 (Den q e2 (Byx a5 c5 Ls (Cx px [.int .i64 xo, .int .i64 xf, .int .i64 xp, .int .u64 (xt : Int), .slice xsa xsl xsc] (Tl v6 (T2 ++ [⟨ra, rc, Ls⟩]) (Bq (some ⟨b, off, none⟩) c4 cn (List.replicate cn Ls) Emp)))))) w6 from by
                        have kk : Keep (fun j => (Value.slice la2 T2.length lc2).ownBlock = some j) (w9.alloc (.cells #[.slice ra Ls.length rc] 32)) w6 := (Keep.refl _ _).grown hgr (fun j h => Or.inl h)
                        have hu := upd_tl (L := T2) (cap := c4) (n := cn) (m := List.replicate cn Ls) (R := Emp) stb_emp (i := t) htl rfl (by rw [hg.out]; exact hc5.out) hgr (by rw [hg.out]; exact hown) hat
                        rw [hg.out] at hu
                        exact O9.out.upd kk (upd_eng kk (upd_den kk (upd_byx kk (upd_cx kk hu)))) (fun j e => Or.inl (LO2.out j e)))
                    have OW := Lib.hid (show (w9.alloc (.cells #[.slice ra Ls.length rc] 32)).ownsRow 0 32 1 (.slice la2 T2.length lc2) T2.length (T2.map rdV) from by
                      obtain ⟨A9, -, hT9, -⟩ := O9.out.tl5
                      exact hT9.1)
                    clear O7 O9 hc5
                    go_wp2_with (at_builtin
                                 refine wpList_append_at rfl (.tmp 141) (.tmp 146) 27 rfl 0 32 ti (.slice none 0 0) 1 24 Try.underlying27 hi0 hz0 hz1 hz2 rfl (by decide) (.slice la2 T2.length lc2) T2.length (T2.map rdV) rfl OW.out _ _ _ [.slice ra Ls.length rc] rfl ?h2 ?h3 ?h4 ?h5 ?h6 ?h7 ?h8 ?_
                                 case h2 => rfl
                                 case h3 => intro e; cases e
                                 case h4 => exact lit_cell _ _ _
                                 case h5 => intro u' hu; (rw [List.mem_singleton.1 hu]; rfl)
                                 case h6 => have := HT2.out; unfold maxLen; omega
                                 case h7 => have := HT2.out; omega
                                 case h8 => exact Nat.zero_le _
                                 intro v6 w6 hown6 hgr6 hat6
                                 have O10 := Lib.hid (NX.out v6 w6 hown6 hgr6 hat6)
                                 clear hown6 hgr6 hat6)
                    go_roundw
                    case rel => exact ⟨t + 1, _, by omega, by go_num, by have := HT2.out; simp; omega, fun r hr => (List.mem_append.1 hr).elim (HTL2.out r) (fun h => by rw [List.mem_singleton.1 h]; exact LSL.out), O10.out⟩
                    case measure => simp only [intOf]; omega
                  · skip
                    have cv := CV2.out
                    go_simp
                    clear cv
                    try go_wp2_with fail
                    refine hK.out _ _ ?_ (fun hNew => ?_)
                    · exact hHeld
                    clear hK K
                    replace hHeld := hNew
                    clear hNew
                    ((try simp only [Act.put]); (try simp only [List.setIfInBounds_toArray]); (try simp only [List.set_cons_succ]); (try simp only [List.set_cons_zero]))
                    refine wpAnyH_ready (rs := [4]) (by kernel_rfl) (by simp) ?_
                    refine AllReadyH.cons (o := { dst := some 137, op := Op.convert 32 9 (Operand.tmp 136), type := 9, pos := "law.go:196", after := #[{ on := 3, ground := Ground.data }], guard := none }) rfl (fun K hK => ?_) AllReadyH.nil
                    have cv := CV1.out
                    go_simp
                    clear cv
                    try go_wp2_with fail
                    refine hK.out _ _ ?_ (fun hNew => ?_)
                    · exact hHeld
                    clear hK K
                    replace hHeld := hNew
                    clear hNew
                    ((try simp only [Act.put]); (try simp only [List.setIfInBounds_toArray]); (try simp only [List.set_cons_succ]); (try simp only [List.set_cons_zero]))
                    refine wpAnyH_take (i := 7) (oi := { dst := some 140, op := Op.binOp BinOp.neq 9 (Operand.tmp 137) (Operand.tmp 139) 9, type := 4, pos := "law.go:196", after := #[{ on := 4, ground := Ground.data }, { on := 6, ground := Ground.data }], guard := none }) (v := ?_) rfl (by kernel_rfl) (by kernel_rfl) (by kernel_rfl) (fun _ _ _ h => h) (Or.inl ⟨by rfl, ?_⟩) (by assumption) ?_
                    rotate_left
                    · (intro w hSw; (try dsimp only at hSw); go_simp; try with_reducible rfl)
                    ((try simp only [Act.put]); (try simp only [List.setIfInBounds_toArray]); (try simp only [List.set_cons_succ]); (try simp only [List.set_cons_zero]))
                    refine wpAnyH_done (by kernel_rfl) ?_ _
                    refine NoPanic.normal ?_
                    clear hHeld CV1 CV2
                    have O7 := Lib.hid (O6.out.below (stb_eng (stb_den (stb_byx (stb_cx (stb_tl (stb_bq stb_emp)))))) (drew_below wr))
                    clear O6
                    generalize wr.drew = w9 at *
                    have hb9 : Below w9.heap.size w9 (w9.alloc (.cells #[.slice ra Ls.length rc] 32)) := box_b w9 (.cells #[.slice ra Ls.length rc] 32)
                    have O9 := Lib.hid (O7.out.below (stb_eng (stb_den (stb_byx (stb_cx (stb_tl (stb_bq stb_emp)))))) hb9)
                    have hc5 := Lib.hid (cell_go hc hb9)
                    clear hb9
                    have NX := Lib.hid (fun (v6 : Value) (w6 : World) (hown : w6.ownsRow 0 32 1 v6 (T2.length + 1) (T2.map rdV ++ [.slice ra Ls.length rc])) (hgr : (w9.alloc (.cells #[.slice ra Ls.length rc] 32)).grownBy w6 (Value.slice la2 T2.length lc2).ownBlock) (hat : ∀ j, v6.ownBlock = some j → (Value.slice la2 T2.length lc2).ownBlock = some j ∨ (w9.alloc (.cells #[.slice ra Ls.length rc] 32)).heap.size ≤ j) =>
                      show On W (Eng p e2 (Den q e2 (Byx a5 c5 Ls (Cx px [.int .i64 xo, .int .i64 xf, .int .i64 xp, .int .u64 (xt : Int), .slice xsa xsl xsc] (Tl v6 (T2 ++ [⟨ra, rc, Ls⟩]) (Bq (some ⟨b, off, none⟩) c4 cn (List.replicate cn Ls) Emp)))))) w6 from by
                        have kk : Keep (fun j => (Value.slice la2 T2.length lc2).ownBlock = some j) (w9.alloc (.cells #[.slice ra Ls.length rc] 32)) w6 := (Keep.refl _ _).grown hgr (fun j h => Or.inl h)
                        have hu := upd_tl (L := T2) (cap := c4) (n := cn) (m := List.replicate cn Ls) (R := Emp) stb_emp (i := t) htl rfl (by rw [hg.out]; exact hc5.out) hgr (by rw [hg.out]; exact hown) hat
                        rw [hg.out] at hu
                        exact O9.out.upd kk (upd_eng kk (upd_den kk (upd_byx kk (upd_cx kk hu)))) (fun j e => Or.inl (LO2.out j e)))
                    have OW := Lib.hid (show (w9.alloc (.cells #[.slice ra Ls.length rc] 32)).ownsRow 0 32 1 (.slice la2 T2.length lc2) T2.length (T2.map rdV) from by
                      obtain ⟨A9, -, hT9, -⟩ := O9.out.tl5
                      exact hT9.1)
                    clear O7 O9 hc5
                    go_wp2_with (at_builtin
                                 refine wpList_append_at rfl (.tmp 141) (.tmp 146) 27 rfl 0 32 ti (.slice none 0 0) 1 24 Try.underlying27 hi0 hz0 hz1 hz2 rfl (by decide) (.slice la2 T2.length lc2) T2.length (T2.map rdV) rfl OW.out _ _ _ [.slice ra Ls.length rc] rfl ?h2 ?h3 ?h4 ?h5 ?h6 ?h7 ?h8 ?_
                                 case h2 => rfl
                                 case h3 => intro e; cases e
                                 case h4 => exact lit_cell _ _ _
                                 case h5 => intro u' hu; (rw [List.mem_singleton.1 hu]; rfl)
                                 case h6 => have := HT2.out; unfold maxLen; omega
                                 case h7 => have := HT2.out; omega
                                 case h8 => exact Nat.zero_le _
                                 intro v6 w6 hown6 hgr6 hat6
                                 have O10 := Lib.hid (NX.out v6 w6 hown6 hgr6 hat6)
                                 clear hown6 hgr6 hat6)
                    go_roundw
                    case rel => exact ⟨t + 1, _, by omega, by go_num, by have := HT2.out; simp; omega, fun r hr => (List.mem_append.1 hr).elim (HTL2.out r) (fun h => by rw [List.mem_singleton.1 h]; exact LSL.out), O10.out⟩
                    case measure => simp only [intOf]; omega
                · obtain rfl : t = cn := by omega
                  have dkk : decide ((t : Int) < (t : Int)) = false := decide_eq_false (by omega)
                  have O8 := Lib.hid (O6.out.mono (fun _ _ => eng_drop (den_drop2 (fun A w h => cx_drop (tl_drop bq_drop) A w (byx_gone (stb_cx (stb_tl (stb_bq stb_emp))) A w h)))))
                  have C9 := Lib.hid (show T2.length ≤ 64 * (k + 1) from by have := C64.out; omega)
                  have HT9 := HTL2
                  clear O6
                  obtain ⟨sa, sc, ga, gc, q2, q3, qs, qg⟩ := (O8.out.mono (fun _ _ => den_swap (stb_cx (stb_tl stb_emp)))).den
                  have QV := Lib.hid qs
                  have GV := Lib.hid qg
                  have OK2 := Lib.hid O8.out.ok
                  have GL := Lib.hid OK2.out.G
                  clear qs qg
                  go_upto_region 36 with fail
                  refine wp_region_noPanic ?_
                  refine wp_region_held_drew (S := (fun w' => w'.cell? ⟨q, 2, none⟩ = some (.slice sa e2.n sc) ∧ w'.cell? ⟨q, 3, none⟩ = some (.slice ga e2.n gc) ∧ Hid (Below wr.heap.size wr w'))) (by kernel_rfl) ?_ (fun hHeld => ?_)
                  · exact ⟨q2, q3, Lib.hid (drew_below wr)⟩
                  refine wpAnyH_take (i := 0) (oi := { dst := some 165, op := Op.move (Operand.tmp 7), type := 23, pos := "law.go:210", after := #[], guard := none }) (v := ?_) rfl (by kernel_rfl) (by kernel_rfl) (by kernel_rfl) (fun _ _ _ h => h) (Or.inl ⟨by rfl, ?_⟩) (by assumption) ?_
                  rotate_left
                  · (intro w hSw; (try dsimp only at hSw); go_simp; try with_reducible rfl)
                  ((try simp only [Act.put]); (try simp only [List.setIfInBounds_toArray]); (try simp only [List.set_cons_succ]); (try simp only [List.set_cons_zero]))
                  refine wpAnyH_take (i := 2) (oi := { dst := some 167, op := Op.move (Operand.tmp 9), type := 48, pos := "law.go:210", after := #[], guard := none }) (v := ?_) rfl (by kernel_rfl) (by kernel_rfl) (by kernel_rfl) (fun _ _ _ h => h) (Or.inl ⟨by rfl, ?_⟩) (by assumption) ?_
                  rotate_left
                  · (intro w hSw; (try dsimp only at hSw); go_simp; try with_reducible rfl)
                  ((try simp only [Act.put]); (try simp only [List.setIfInBounds_toArray]); (try simp only [List.set_cons_succ]); (try simp only [List.set_cons_zero]))
                  refine wpAnyH_take (i := 3) (oi := { dst := some 168, op := Op.nilCheck (Operand.tmp 167), type := 0, pos := "law.go:210", after := #[{ on := 2, ground := Ground.data }], guard := none }) (v := ?_) rfl (by kernel_rfl) (by kernel_rfl) (by kernel_rfl) (fun _ _ _ h => h) (Or.inl ⟨by rfl, ?_⟩) (by assumption) ?_
                  rotate_left
                  · (intro w hSw; (try dsimp only at hSw); go_simp; try with_reducible rfl)
                  ((try simp only [Act.put]); (try simp only [List.setIfInBounds_toArray]); (try simp only [List.set_cons_succ]); (try simp only [List.set_cons_zero]))
                  refine wpAnyH_take (i := 4) (oi := { dst := some 169, op := Op.fieldAddr 57 (Operand.tmp 168) 3, type := 0, pos := "law.go:210", after := #[{ on := 3, ground := Ground.data }], guard := none }) (v := ?_) rfl (by kernel_rfl) (by kernel_rfl) (by kernel_rfl) (fun _ _ _ h => h) (Or.inl ⟨by rfl, ?_⟩) (by assumption) ?_
                  rotate_left
                  · (intro w hSw; (try dsimp only at hSw); go_simp; try with_reducible rfl)
                  ((try simp only [Act.put]); (try simp only [List.setIfInBounds_toArray]); (try simp only [List.set_cons_succ]); (try simp only [List.set_cons_zero]))
                  refine wpAnyH_take (i := 5) (oi := { dst := some 170, op := Op.load 41 (Operand.tmp 169), type := 41, pos := "law.go:210", after := #[{ on := 4, ground := Ground.data }], guard := none }) (v := ?_) rfl (by kernel_rfl) (by kernel_rfl) (by kernel_rfl) (fun _ _ _ h => h) (Or.inl ⟨by rfl, ?_⟩) (by assumption) ?_
                  rotate_left
                  · (intro w hSw; (try dsimp only at hSw); go_simp; try with_reducible rfl)
                  ((try simp only [Act.put]); (try simp only [List.setIfInBounds_toArray]); (try simp only [List.set_cons_succ]); (try simp only [List.set_cons_zero]))
                  refine wpAnyH_ready (rs := [1]) (by kernel_rfl) (by simp) ?_
                  refine AllReadyH.cons (o := { dst := some 166, op := Op.call { callee := Callee.value (Operand.func 16), args := #[Operand.tmp 165], argTypes := #[23] }, type := 42, pos := "law.go:210", after := #[{ on := 0, ground := Ground.data }], guard := none }) rfl (fun K hK => ?_) AllReadyH.nil
                  go_simp
                  refine (on_got (g := e2.G) (stb_den (stb_cx (stb_tl stb_emp))) (O8.out.below (stb_eng (stb_den (stb_cx (stb_tl stb_emp)))) (Hid.out hHeld.2.2)) rfl).mono ?_
                  rintro x w10 ⟨a10, c10, rfl, h10, hb⟩
                  have G10 := Lib.hid h10.sl
                  clear h10
                  try go_wp2_with fail
                  refine hK.out _ _ ?_ (fun hNew => ?_)
                  · first | exact hHeld | exact ⟨cell_go hHeld.1 hb, cell_go hHeld.2.1 hb, Lib.hid ((Hid.out hHeld.2.2).trans (hb.mono (Hid.out hHeld.2.2).size))⟩
                  clear hK K
                  replace hHeld := hNew
                  clear hNew
                  ((try simp only [Act.put]); (try simp only [List.setIfInBounds_toArray]); (try simp only [List.set_cons_succ]); (try simp only [List.set_cons_zero]))
                  refine wpAnyH_ready (rs := [6]) (by kernel_rfl) (by simp) ?_
                  refine AllReadyH.cons (o := { dst := some 171, op := Op.call { callee := Callee.value (Operand.func 15), args := #[Operand.tmp 166, Operand.tmp 170], argTypes := #[41, 41] }, type := 4, pos := "law.go:210", after := #[{ on := 1, ground := Ground.data }, { on := 5, ground := Ground.data }, { on := 1, ground := Ground.chain }], guard := none }) rfl (fun K hK => ?_) AllReadyH.nil
                  go_simp
                  refine (longs_any (r := true) G10.out (GV.out.below (Hid.out hHeld.2.2)) GL.out GL.out (decide_eq_true rfl)).mono ?_
                  rintro x w5 ⟨rfl, n5, hw⟩
                  have hb := drew_b hw
                  clear hw
                  try go_wp2_with fail
                  refine hK.out _ _ ?_ (fun hNew => ?_)
                  · first | exact hHeld | exact ⟨cell_go hHeld.1 hb, cell_go hHeld.2.1 hb, Lib.hid ((Hid.out hHeld.2.2).trans (hb.mono (Hid.out hHeld.2.2).size))⟩
                  clear hK K
                  replace hHeld := hNew
                  clear hNew
                  ((try simp only [Act.put]); (try simp only [List.setIfInBounds_toArray]); (try simp only [List.set_cons_succ]); (try simp only [List.set_cons_zero]))
                  refine wpAnyH_take (i := 7) (oi := { dst := some 172, op := Op.unOp UnOp.not 4 (Operand.tmp 171), type := 4, pos := "law.go:210", after := #[{ on := 6, ground := Ground.data }], guard := none }) (v := ?_) rfl (by kernel_rfl) (by kernel_rfl) (by kernel_rfl) (fun _ _ _ h => h) (Or.inl ⟨by rfl, ?_⟩) (by assumption) ?_
                  rotate_left
                  · (intro w hSw; (try dsimp only at hSw); go_simp; try with_reducible rfl)
                  ((try simp only [Act.put]); (try simp only [List.setIfInBounds_toArray]); (try simp only [List.set_cons_succ]); (try simp only [List.set_cons_zero]))
                  refine wpAnyH_take (i := 8) (oi := { dst := some 173, op := Op.move (Operand.tmp 172), type := 4, pos := "law.go:210", after := #[{ on := 7, ground := Ground.data }, { on := 6, ground := Ground.chain }], guard := none }) (v := ?_) rfl (by kernel_rfl) (by kernel_rfl) (by kernel_rfl) (fun _ _ _ h => h) (Or.inl ⟨by rfl, ?_⟩) (by assumption) ?_
                  rotate_left
                  · (intro w hSw; (try dsimp only at hSw); go_simp; try with_reducible rfl)
                  ((try simp only [Act.put]); (try simp only [List.setIfInBounds_toArray]); (try simp only [List.set_cons_succ]); (try simp only [List.set_cons_zero]))
                  refine wpAnyH_take (i := 9) (oi := { dst := some 174, op := Op.move (Operand.tmp 7), type := 23, pos := "law.go:210", after := #[{ on := 8, ground := Ground.guard }], guard := some (8, false) }) (v := ?_) rfl (by kernel_rfl) (by kernel_rfl) (by kernel_rfl) (fun _ _ _ h => h) (Or.inl ⟨by rfl, ?_⟩) (by assumption) ?_
                  rotate_left
                  · (intro w hSw; (try dsimp only at hSw); go_simp; try with_reducible rfl)
                  ((try simp only [Act.put]); (try simp only [List.setIfInBounds_toArray]); (try simp only [List.set_cons_succ]); (try simp only [List.set_cons_zero]))
                  refine wpAnyH_take (i := 12) (oi := { dst := some 177, op := Op.move (Operand.tmp 9), type := 48, pos := "law.go:210", after := #[{ on := 8, ground := Ground.guard }], guard := some (8, false) }) (v := ?_) rfl (by kernel_rfl) (by kernel_rfl) (by kernel_rfl) (fun _ _ _ h => h) (Or.inl ⟨by rfl, ?_⟩) (by assumption) ?_
                  rotate_left
                  · (intro w hSw; (try dsimp only at hSw); go_simp; try with_reducible rfl)
                  ((try simp only [Act.put]); (try simp only [List.setIfInBounds_toArray]); (try simp only [List.set_cons_succ]); (try simp only [List.set_cons_zero]))
                  refine wpAnyH_take (i := 13) (oi := { dst := some 178, op := Op.nilCheck (Operand.tmp 177), type := 0, pos := "law.go:210", after := #[{ on := 12, ground := Ground.data }, { on := 8, ground := Ground.guard }], guard := some (8, false) }) (v := ?_) rfl (by kernel_rfl) (by kernel_rfl) (by kernel_rfl) (fun _ _ _ h => h) (Or.inl ⟨by rfl, ?_⟩) (by assumption) ?_
                  rotate_left
                  · (intro w hSw; (try dsimp only at hSw); go_simp; try with_reducible rfl)
                  ((try simp only [Act.put]); (try simp only [List.setIfInBounds_toArray]); (try simp only [List.set_cons_succ]); (try simp only [List.set_cons_zero]))
                  refine wpAnyH_take (i := 14) (oi := { dst := some 179, op := Op.fieldAddr 57 (Operand.tmp 178) 2, type := 0, pos := "law.go:210", after := #[{ on := 13, ground := Ground.data }, { on := 8, ground := Ground.guard }], guard := some (8, false) }) (v := ?_) rfl (by kernel_rfl) (by kernel_rfl) (by kernel_rfl) (fun _ _ _ h => h) (Or.inl ⟨by rfl, ?_⟩) (by assumption) ?_
                  rotate_left
                  · (intro w hSw; (try dsimp only at hSw); go_simp; try with_reducible rfl)
                  ((try simp only [Act.put]); (try simp only [List.setIfInBounds_toArray]); (try simp only [List.set_cons_succ]); (try simp only [List.set_cons_zero]))
                  refine wpAnyH_take (i := 15) (oi := { dst := some 180, op := Op.load 55 (Operand.tmp 179), type := 55, pos := "law.go:210", after := #[{ on := 14, ground := Ground.data }, { on := 8, ground := Ground.guard }], guard := some (8, false) }) (v := ?_) rfl (by kernel_rfl) (by kernel_rfl) (by kernel_rfl) (fun _ _ _ h => h) (Or.inl ⟨by rfl, ?_⟩) (by assumption) ?_
                  rotate_left
                  · (intro w hSw; (try dsimp only at hSw); go_simp; try with_reducible rfl)
                  ((try simp only [Act.put]); (try simp only [List.setIfInBounds_toArray]); (try simp only [List.set_cons_succ]); (try simp only [List.set_cons_zero]))
                  refine wpAnyH_ready (rs := [10]) (by kernel_rfl) (by simp) ?_
                  refine AllReadyH.cons (o := { dst := some 175, op := Op.call { callee := Callee.value (Operand.func 18), args := #[Operand.tmp 174], argTypes := #[23] }, type := 37, pos := "law.go:210", after := #[{ on := 9, ground := Ground.data }, { on := 8, ground := Ground.chain }, { on := 8, ground := Ground.guard }], guard := some (8, false) }) rfl (fun K hK => ?_) AllReadyH.nil
                  go_simp
                  refine (on_sent (m := e2.S) (stb_den (stb_cx (stb_tl stb_emp))) (O8.out.below (stb_eng (stb_den (stb_cx (stb_tl stb_emp)))) (Hid.out hHeld.2.2)) rfl).mono ?_
                  rintro x w11 ⟨a11, c11, rfl, h11, hb⟩
                  have Q11 := Lib.hid h11.sq
                  clear h11
                  try go_wp2_with fail
                  refine hK.out _ _ ?_ (fun hNew => ?_)
                  · first | exact hHeld | exact ⟨cell_go hHeld.1 hb, cell_go hHeld.2.1 hb, Lib.hid ((Hid.out hHeld.2.2).trans (hb.mono (Hid.out hHeld.2.2).size))⟩
                  clear hK K
                  replace hHeld := hNew
                  clear hNew
                  ((try simp only [Act.put]); (try simp only [List.setIfInBounds_toArray]); (try simp only [List.set_cons_succ]); (try simp only [List.set_cons_zero]))
                  refine wpAnyH_ready (rs := [11]) (by kernel_rfl) (by simp) ?_
                  refine AllReadyH.cons (o := { dst := some 176, op := Op.call { callee := Callee.value (Operand.func 25), args := #[Operand.tmp 175], argTypes := #[37] }, type := 55, pos := "law.go:210", after := #[{ on := 10, ground := Ground.data }, { on := 10, ground := Ground.chain }, { on := 8, ground := Ground.guard }], guard := some (8, false) }) rfl (fun K hK => ?_) AllReadyH.nil
                  go_simp
                  refine (rows_at (e2.n : Int) Q11.out (by have := OK2.out.n2; omega)).mono ?_
                  rintro x w12 ⟨a12, c12, rfl, h12⟩
                  have hb := h12.2
                  have R12 := Lib.hid h12.1
                  clear h12
                  try go_wp2_with fail
                  refine hK.out _ _ ?_ (fun hNew => ?_)
                  · first | exact hHeld | exact ⟨cell_go hHeld.1 hb, cell_go hHeld.2.1 hb, Lib.hid ((Hid.out hHeld.2.2).trans (hb.mono (Hid.out hHeld.2.2).size))⟩
                  clear hK K
                  replace hHeld := hNew
                  clear hNew
                  ((try simp only [Act.put]); (try simp only [List.setIfInBounds_toArray]); (try simp only [List.set_cons_succ]); (try simp only [List.set_cons_zero]))
                  refine wpAnyH_ready (rs := [16]) (by kernel_rfl) (by simp) ?_
                  refine AllReadyH.cons (o := { dst := some 181, op := Op.call { callee := Callee.value (Operand.func 24), args := #[Operand.tmp 176, Operand.tmp 180], argTypes := #[55, 55] }, type := 4, pos := "law.go:210", after := #[{ on := 11, ground := Ground.data }, { on := 15, ground := Ground.data }, { on := 11, ground := Ground.chain }, { on := 8, ground := Ground.guard }], guard := some (8, false) }) rfl (fun K hK => ?_) AllReadyH.nil
                  go_simp
                  refine (squares_at (r := true) R12.out (QV.out.below (Hid.out hHeld.2.2)) (decide_eq_true rfl)).mono ?_
                  rintro x w13 ⟨rfl, n13, hw⟩
                  have hb := drew_b hw
                  clear hw
                  try go_wp2_with fail
                  refine hK.out _ _ ?_ (fun hNew => ?_)
                  · first | exact hHeld | exact ⟨cell_go hHeld.1 hb, cell_go hHeld.2.1 hb, Lib.hid ((Hid.out hHeld.2.2).trans (hb.mono (Hid.out hHeld.2.2).size))⟩
                  clear hK K
                  replace hHeld := hNew
                  clear hNew
                  ((try simp only [Act.put]); (try simp only [List.setIfInBounds_toArray]); (try simp only [List.set_cons_succ]); (try simp only [List.set_cons_zero]))
                  refine wpAnyH_take (i := 17) (oi := { dst := some 182, op := Op.unOp UnOp.not 4 (Operand.tmp 181), type := 4, pos := "law.go:210", after := #[{ on := 16, ground := Ground.data }, { on := 8, ground := Ground.guard }], guard := some (8, false) }) (v := ?_) rfl (by kernel_rfl) (by kernel_rfl) (by kernel_rfl) (fun _ _ _ h => h) (Or.inl ⟨by rfl, ?_⟩) (by assumption) ?_
                  rotate_left
                  · (intro w hSw; (try dsimp only at hSw); go_simp; try with_reducible rfl)
                  ((try simp only [Act.put]); (try simp only [List.setIfInBounds_toArray]); (try simp only [List.set_cons_succ]); (try simp only [List.set_cons_zero]))
                  refine wpAnyH_take (i := 18) (oi := { dst := some 183, op := Op.pick (Operand.tmp 173) (Operand.const (Value.bool true)) (Operand.tmp 182), type := 4, pos := "law.go:210", after := #[{ on := 8, ground := Ground.data }, { on := 17, ground := Ground.data }], guard := none }) (v := ?_) rfl (by kernel_rfl) (by kernel_rfl) (by kernel_rfl) (fun _ _ _ h => h) (Or.inl ⟨by rfl, ?_⟩) (by assumption) ?_
                  rotate_left
                  · (intro w hSw; (try dsimp only at hSw); go_simp; try with_reducible rfl)
                  ((try simp only [Act.put]); (try simp only [List.setIfInBounds_toArray]); (try simp only [List.set_cons_succ]); (try simp only [List.set_cons_zero]))
                  refine wpAnyH_done (by kernel_rfl) ?_ _
                  refine NoPanic.normal ?_
                  have OF := Lib.hid ((O8.out.below (stb_eng (stb_den (stb_cx (stb_tl stb_emp)))) (Hid.out hHeld.2.2)).mono (fun _ _ => eng_drop (den_drop2 (cx_gone (stb_tl stb_emp)))))
                  go_wp2_with fail
                  go_roundw
                  case rel => exact ⟨k + 1, e2, T2, by omega, by go_num, N2.out.1, N2.out.2, C9.out, HT9.out, OF.out⟩
                  case measure => simp only [intOf]; omega
          · have do1 : (xo == 0) = false := by simpa using ho
            clear ho
            by_cases ho : xo = 1
            · have do2 : (xo == 1) = true := by simpa using ho
              clear ho
              as_aux_lemma =>
                obtain ⟨r, hr⟩ : ∃ r, canE e xf xsb = r := ⟨_, rfl⟩
                have CR := Lib.hid hr
                clear hr
                obtain ⟨e2, he2⟩ : ∃ e2, takeE e xf xt xsb = e2 := ⟨_, rfl⟩
                have E2 := Lib.hid he2
                clear he2
                go_upto_region 34 with fail
                generalize wr.alloc (.cells #[.int .i64 xo, .int .i64 xf, .int .i64 xp, .int .u64 (xt : Int), .slice xsa xsl xsc] 51) = w3 at *
                generalize wr.heap.size = px at *
                have SB := Lib.hid (show ∀ (w' : World) (e1 d1 : En), On W (Eng p e1 (Den q d1 (Cx px [.int .i64 xo, .int .i64 xf, .int .i64 xp, .int .u64 (xt : Int), .slice xsa xsl xsc] (Tl (.slice la T.length lc) T Emp)))) w' → SlAt bV 256 w' xsa xsc xsb from fun w' e1 d1 h => SB0.out.below h.1)
                have O3d := Lib.hid (O3.out.below (stb_eng (stb_den (stb_cx (stb_tl stb_emp)))) (drew_below w3))
                have t1 : w3.drew.cell? ⟨px, 1, none⟩ = some (.int .i64 xf) := v1
                have t3 : w3.drew.cell? ⟨px, 3, none⟩ = some (.int .u64 (xt : Int)) := v3
                clear v0 v1 v2 v3 v4 O3
                refine wp_region_noPanic ?_
                refine wp_region_held_drew (S := (fun w' => w'.cell? ⟨px, 1, none⟩ = some (.int .i64 xf) ∧ w'.cell? ⟨px, 3, none⟩ = some (.int .u64 (xt : Int)))) (by kernel_rfl) ?_ (fun hHeld => ?_)
                · exact ⟨t1, t3⟩
                refine wpAnyH_take (i := 0) (oi := { dst := some 150, op := Op.move (Operand.tmp 7), type := 23, pos := "law.go:202", after := #[], guard := none }) (v := ?_) rfl (by kernel_rfl) (by kernel_rfl) (by kernel_rfl) (fun _ _ _ h => h) (Or.inl ⟨by rfl, ?_⟩) (by assumption) ?_
                rotate_left
                · (intro w hSw; (try dsimp only at hSw); go_simp; try with_reducible rfl)
                ((try simp only [Act.put]); (try simp only [List.setIfInBounds_toArray]); (try simp only [List.set_cons_succ]); (try simp only [List.set_cons_zero]))
                refine wpAnyH_take (i := 1) (oi := { dst := some 151, op := Op.fieldAddr 51 (Operand.tmp 12) 1, type := 0, pos := "law.go:202", after := #[], guard := none }) (v := ?_) rfl (by kernel_rfl) (by kernel_rfl) (by kernel_rfl) (fun _ _ _ h => h) (Or.inl ⟨by rfl, ?_⟩) (by assumption) ?_
                rotate_left
                · (intro w hSw; (try dsimp only at hSw); go_simp; try with_reducible rfl)
                ((try simp only [Act.put]); (try simp only [List.setIfInBounds_toArray]); (try simp only [List.set_cons_succ]); (try simp only [List.set_cons_zero]))
                refine wpAnyH_take (i := 2) (oi := { dst := some 152, op := Op.load 3 (Operand.tmp 151), type := 3, pos := "law.go:202", after := #[{ on := 1, ground := Ground.data }], guard := none }) (v := ?_) rfl (by kernel_rfl) (by kernel_rfl) (by kernel_rfl) (fun _ _ _ h => h) (Or.inl ⟨by rfl, ?_⟩) (by assumption) ?_
                rotate_left
                · (intro w hSw; (try dsimp only at hSw); go_simp; try with_reducible rfl)
                ((try simp only [Act.put]); (try simp only [List.setIfInBounds_toArray]); (try simp only [List.set_cons_succ]); (try simp only [List.set_cons_zero]))
                refine wpAnyH_take (i := 3) (oi := { dst := some 153, op := Op.fieldAddr 51 (Operand.tmp 12) 3, type := 0, pos := "law.go:202", after := #[], guard := none }) (v := ?_) rfl (by kernel_rfl) (by kernel_rfl) (by kernel_rfl) (fun _ _ _ h => h) (Or.inl ⟨by rfl, ?_⟩) (by assumption) ?_
                rotate_left
                · (intro w hSw; (try dsimp only at hSw); go_simp; try with_reducible rfl)
                ((try simp only [Act.put]); (try simp only [List.setIfInBounds_toArray]); (try simp only [List.set_cons_succ]); (try simp only [List.set_cons_zero]))
                refine wpAnyH_take (i := 4) (oi := { dst := some 154, op := Op.load 29 (Operand.tmp 153), type := 29, pos := "law.go:202", after := #[{ on := 3, ground := Ground.data }], guard := none }) (v := ?_) rfl (by kernel_rfl) (by kernel_rfl) (by kernel_rfl) (fun _ _ _ h => h) (Or.inl ⟨by rfl, ?_⟩) (by assumption) ?_
                rotate_left
                · (intro w hSw; (try dsimp only at hSw); go_simp; try with_reducible rfl)
                ((try simp only [Act.put]); (try simp only [List.setIfInBounds_toArray]); (try simp only [List.set_cons_succ]); (try simp only [List.set_cons_zero]))
                refine wpAnyH_take (i := 5) (oi := { dst := some 155, op := Op.move (Operand.tmp 13), type := 32, pos := "law.go:202", after := #[], guard := none }) (v := ?_) rfl (by kernel_rfl) (by kernel_rfl) (by kernel_rfl) (fun _ _ _ h => h) (Or.inl ⟨by rfl, ?_⟩) (by assumption) ?_
                rotate_left
                · (intro w hSw; (try dsimp only at hSw); go_simp; try with_reducible rfl)
                ((try simp only [Act.put]); (try simp only [List.setIfInBounds_toArray]); (try simp only [List.set_cons_succ]); (try simp only [List.set_cons_zero]))
                refine wpAnyH_take (i := 7) (oi := { dst := some 157, op := Op.move (Operand.tmp 9), type := 48, pos := "law.go:202", after := #[], guard := none }) (v := ?_) rfl (by kernel_rfl) (by kernel_rfl) (by kernel_rfl) (fun _ _ _ h => h) (Or.inl ⟨by rfl, ?_⟩) (by assumption) ?_
                rotate_left
                · (intro w hSw; (try dsimp only at hSw); go_simp; try with_reducible rfl)
                ((try simp only [Act.put]); (try simp only [List.setIfInBounds_toArray]); (try simp only [List.set_cons_succ]); (try simp only [List.set_cons_zero]))
                refine wpAnyH_take (i := 8) (oi := { dst := some 158, op := Op.fieldAddr 51 (Operand.tmp 12) 1, type := 0, pos := "law.go:202", after := #[], guard := none }) (v := ?_) rfl (by kernel_rfl) (by kernel_rfl) (by kernel_rfl) (fun _ _ _ h => h) (Or.inl ⟨by rfl, ?_⟩) (by assumption) ?_
                rotate_left
                · (intro w hSw; (try dsimp only at hSw); go_simp; try with_reducible rfl)
                ((try simp only [Act.put]); (try simp only [List.setIfInBounds_toArray]); (try simp only [List.set_cons_succ]); (try simp only [List.set_cons_zero]))
                refine wpAnyH_take (i := 9) (oi := { dst := some 159, op := Op.load 3 (Operand.tmp 158), type := 3, pos := "law.go:202", after := #[{ on := 8, ground := Ground.data }], guard := none }) (v := ?_) rfl (by kernel_rfl) (by kernel_rfl) (by kernel_rfl) (fun _ _ _ h => h) (Or.inl ⟨by rfl, ?_⟩) (by assumption) ?_
                rotate_left
                · (intro w hSw; (try dsimp only at hSw); go_simp; try with_reducible rfl)
                ((try simp only [Act.put]); (try simp only [List.setIfInBounds_toArray]); (try simp only [List.set_cons_succ]); (try simp only [List.set_cons_zero]))
                refine wpAnyH_take (i := 10) (oi := { dst := some 160, op := Op.fieldAddr 51 (Operand.tmp 12) 3, type := 0, pos := "law.go:202", after := #[], guard := none }) (v := ?_) rfl (by kernel_rfl) (by kernel_rfl) (by kernel_rfl) (fun _ _ _ h => h) (Or.inl ⟨by rfl, ?_⟩) (by assumption) ?_
                rotate_left
                · (intro w hSw; (try dsimp only at hSw); go_simp; try with_reducible rfl)
                ((try simp only [Act.put]); (try simp only [List.setIfInBounds_toArray]); (try simp only [List.set_cons_succ]); (try simp only [List.set_cons_zero]))
                refine wpAnyH_take (i := 11) (oi := { dst := some 161, op := Op.load 29 (Operand.tmp 160), type := 29, pos := "law.go:202", after := #[{ on := 10, ground := Ground.data }], guard := none }) (v := ?_) rfl (by kernel_rfl) (by kernel_rfl) (by kernel_rfl) (fun _ _ _ h => h) (Or.inl ⟨by rfl, ?_⟩) (by assumption) ?_
                rotate_left
                · (intro w hSw; (try dsimp only at hSw); go_simp; try with_reducible rfl)
                ((try simp only [Act.put]); (try simp only [List.setIfInBounds_toArray]); (try simp only [List.set_cons_succ]); (try simp only [List.set_cons_zero]))
                refine wpAnyH_take (i := 12) (oi := { dst := some 162, op := Op.move (Operand.tmp 13), type := 32, pos := "law.go:202", after := #[], guard := none }) (v := ?_) rfl (by kernel_rfl) (by kernel_rfl) (by kernel_rfl) (fun _ _ _ h => h) (Or.inl ⟨by rfl, ?_⟩) (by assumption) ?_
                rotate_left
                · (intro w hSw; (try dsimp only at hSw); go_simp; try with_reducible rfl)
                ((try simp only [Act.put]); (try simp only [List.setIfInBounds_toArray]); (try simp only [List.set_cons_succ]); (try simp only [List.set_cons_zero]))
                refine wpAnyH_ready (rs := [6]) (by kernel_rfl) (by simp) ?_
                refine AllReadyH.cons (o := { dst := some 156, op := Op.call { callee := Callee.value (Operand.func 12), args := #[Operand.tmp 150, Operand.tmp 152, Operand.const (Value.int IntKind.u64 1), Operand.tmp 154, Operand.tmp 155], argTypes := #[23, 3, 29, 30, 32] }, type := 4, pos := "law.go:202", after := #[{ on := 0, ground := Ground.data }, { on := 2, ground := Ground.data }, { on := 4, ground := Ground.data }, { on := 5, ground := Ground.data }], guard := none }) rfl (fun K hK => ?_) AllReadyH.nil
                go_simp
                refine (on_take (f := xf) (num := 1) (t := xt) (stb_den (stb_cx (stb_tl stb_emp))) O3d.out TL.out (SB.out _ _ _ O3d.out) BL.out BM.out FO.out CR.out E2.out).mono ?_
                rintro x w4 ⟨rfl, h4⟩
                have O4 := Lib.hid (h4.mono (fun _ _ => den_swap (stb_cx (stb_tl stb_emp))))
                have S4 := Lib.hid (SB.out _ _ _ h4)
                have XC4 := Lib.hid h4.cx
                have u1 := XC4.out.c 1 (by simp)
                have u3 := XC4.out.c 3 (by simp)
                simp at u1 u3
                clear h4
                try go_wp2_with fail
                refine hK.out _ _ ?_ (fun hNew => ?_)
                · first | exact hHeld | exact ⟨u1, u3⟩
                clear hK K
                replace hHeld := hNew
                clear hNew
                ((try simp only [Act.put]); (try simp only [List.setIfInBounds_toArray]); (try simp only [List.set_cons_succ]); (try simp only [List.set_cons_zero]))
                refine wpAnyH_ready (rs := [13]) (by kernel_rfl) (by simp) ?_
                refine AllReadyH.cons (o := { dst := some 163, op := Op.call { callee := Callee.value (Operand.func 22), args := #[Operand.tmp 157, Operand.tmp 159, Operand.tmp 161, Operand.tmp 162], argTypes := #[48, 3, 29, 32] }, type := 4, pos := "law.go:202", after := #[{ on := 7, ground := Ground.data }, { on := 9, ground := Ground.data }, { on := 11, ground := Ground.data }, { on := 12, ground := Ground.data }, { on := 6, ground := Ground.chain }], guard := none }) rfl (fun K hK => ?_) AllReadyH.nil
                go_simp
                refine (on_dtake (f := xf) (t := xt) (stb_eng (stb_cx (stb_tl stb_emp))) O4.out TL.out S4.out BL.out CR.out E2.out).mono ?_
                rintro x w8 ⟨rfl, h8⟩
                have O8 := Lib.hid (h8.mono (fun _ _ => den_back (stb_cx (stb_tl stb_emp))))
                clear h8 O4 S4 XC4
                have XC4 := Lib.hid O8.out.cx
                have u1 := XC4.out.c 1 (by simp)
                have u3 := XC4.out.c 3 (by simp)
                simp at u1 u3
                try go_wp2_with fail
                refine hK.out _ _ ?_ (fun hNew => ?_)
                · first | exact hHeld | exact ⟨u1, u3⟩
                clear hK K
                replace hHeld := hNew
                clear hNew
                ((try simp only [Act.put]); (try simp only [List.setIfInBounds_toArray]); (try simp only [List.set_cons_succ]); (try simp only [List.set_cons_zero]))
                refine wpAnyH_take (i := 14) (oi := { dst := some 164, op := Op.binOp BinOp.neq 4 (Operand.tmp 156) (Operand.tmp 163) 4, type := 4, pos := "law.go:202", after := #[{ on := 6, ground := Ground.data }, { on := 13, ground := Ground.data }], guard := none }) (v := ?_) rfl (by kernel_rfl) (by kernel_rfl) (by kernel_rfl) (fun _ _ _ h => h) (Or.inl ⟨by rfl, ?_⟩) (by assumption) ?_
                rotate_left
                · (intro w hSw; (try dsimp only at hSw); go_simp; try with_reducible rfl)
                ((try simp only [Act.put]); (try simp only [List.setIfInBounds_toArray]); (try simp only [List.set_cons_succ]); (try simp only [List.set_cons_zero]))
                refine wpAnyH_done (by kernel_rfl) ?_ _
                refine NoPanic.normal ?_
                clear u1 u3 XC4 hHeld
                have N2 := Lib.hid (show e2.n = e.n ∧ e2.me = e.me by rw [← E2.out]; exact take_same e xf xt xsb)
                obtain ⟨sa, sc, ga, gc, q2, q3, qs, qg⟩ := (O8.out.mono (fun _ _ => den_swap (stb_cx (stb_tl stb_emp)))).den
                have QV := Lib.hid qs
                have GV := Lib.hid qg
                have OK2 := Lib.hid O8.out.ok
                have GL := Lib.hid OK2.out.G
                clear qs qg
                go_upto_region 36 with fail
                refine wp_region_noPanic ?_
                refine wp_region_held_drew (S := (fun w' => w'.cell? ⟨q, 2, none⟩ = some (.slice sa e2.n sc) ∧ w'.cell? ⟨q, 3, none⟩ = some (.slice ga e2.n gc) ∧ Hid (Below w8.heap.size w8 w'))) (by kernel_rfl) ?_ (fun hHeld => ?_)
                · exact ⟨q2, q3, Lib.hid (drew_below w8)⟩
                refine wpAnyH_take (i := 0) (oi := { dst := some 165, op := Op.move (Operand.tmp 7), type := 23, pos := "law.go:210", after := #[], guard := none }) (v := ?_) rfl (by kernel_rfl) (by kernel_rfl) (by kernel_rfl) (fun _ _ _ h => h) (Or.inl ⟨by rfl, ?_⟩) (by assumption) ?_
                rotate_left
                · (intro w hSw; (try dsimp only at hSw); go_simp; try with_reducible rfl)
                ((try simp only [Act.put]); (try simp only [List.setIfInBounds_toArray]); (try simp only [List.set_cons_succ]); (try simp only [List.set_cons_zero]))
                refine wpAnyH_take (i := 2) (oi := { dst := some 167, op := Op.move (Operand.tmp 9), type := 48, pos := "law.go:210", after := #[], guard := none }) (v := ?_) rfl (by kernel_rfl) (by kernel_rfl) (by kernel_rfl) (fun _ _ _ h => h) (Or.inl ⟨by rfl, ?_⟩) (by assumption) ?_
                rotate_left
                · (intro w hSw; (try dsimp only at hSw); go_simp; try with_reducible rfl)
                ((try simp only [Act.put]); (try simp only [List.setIfInBounds_toArray]); (try simp only [List.set_cons_succ]); (try simp only [List.set_cons_zero]))
                refine wpAnyH_take (i := 3) (oi := { dst := some 168, op := Op.nilCheck (Operand.tmp 167), type := 0, pos := "law.go:210", after := #[{ on := 2, ground := Ground.data }], guard := none }) (v := ?_) rfl (by kernel_rfl) (by kernel_rfl) (by kernel_rfl) (fun _ _ _ h => h) (Or.inl ⟨by rfl, ?_⟩) (by assumption) ?_
                rotate_left
                · (intro w hSw; (try dsimp only at hSw); go_simp; try with_reducible rfl)
                ((try simp only [Act.put]); (try simp only [List.setIfInBounds_toArray]); (try simp only [List.set_cons_succ]); (try simp only [List.set_cons_zero]))
                refine wpAnyH_take (i := 4) (oi := { dst := some 169, op := Op.fieldAddr 57 (Operand.tmp 168) 3, type := 0, pos := "law.go:210", after := #[{ on := 3, ground := Ground.data }], guard := none }) (v := ?_) rfl (by kernel_rfl) (by kernel_rfl) (by kernel_rfl) (fun _ _ _ h => h) (Or.inl ⟨by rfl, ?_⟩) (by assumption) ?_
                rotate_left
                · (intro w hSw; (try dsimp only at hSw); go_simp; try with_reducible rfl)
                ((try simp only [Act.put]); (try simp only [List.setIfInBounds_toArray]); (try simp only [List.set_cons_succ]); (try simp only [List.set_cons_zero]))
                refine wpAnyH_take (i := 5) (oi := { dst := some 170, op := Op.load 41 (Operand.tmp 169), type := 41, pos := "law.go:210", after := #[{ on := 4, ground := Ground.data }], guard := none }) (v := ?_) rfl (by kernel_rfl) (by kernel_rfl) (by kernel_rfl) (fun _ _ _ h => h) (Or.inl ⟨by rfl, ?_⟩) (by assumption) ?_
                rotate_left
                · (intro w hSw; (try dsimp only at hSw); go_simp; try with_reducible rfl)
                ((try simp only [Act.put]); (try simp only [List.setIfInBounds_toArray]); (try simp only [List.set_cons_succ]); (try simp only [List.set_cons_zero]))
                refine wpAnyH_ready (rs := [1]) (by kernel_rfl) (by simp) ?_
                refine AllReadyH.cons (o := { dst := some 166, op := Op.call { callee := Callee.value (Operand.func 16), args := #[Operand.tmp 165], argTypes := #[23] }, type := 42, pos := "law.go:210", after := #[{ on := 0, ground := Ground.data }], guard := none }) rfl (fun K hK => ?_) AllReadyH.nil
                go_simp
                refine (on_got (g := e2.G) (stb_den (stb_cx (stb_tl stb_emp))) (O8.out.below (stb_eng (stb_den (stb_cx (stb_tl stb_emp)))) (Hid.out hHeld.2.2)) rfl).mono ?_
                rintro x w10 ⟨a10, c10, rfl, h10, hb⟩
                have G10 := Lib.hid h10.sl
                clear h10
                try go_wp2_with fail
                refine hK.out _ _ ?_ (fun hNew => ?_)
                · first | exact hHeld | exact ⟨cell_go hHeld.1 hb, cell_go hHeld.2.1 hb, Lib.hid ((Hid.out hHeld.2.2).trans (hb.mono (Hid.out hHeld.2.2).size))⟩
                clear hK K
                replace hHeld := hNew
                clear hNew
                ((try simp only [Act.put]); (try simp only [List.setIfInBounds_toArray]); (try simp only [List.set_cons_succ]); (try simp only [List.set_cons_zero]))
                refine wpAnyH_ready (rs := [6]) (by kernel_rfl) (by simp) ?_
                refine AllReadyH.cons (o := { dst := some 171, op := Op.call { callee := Callee.value (Operand.func 15), args := #[Operand.tmp 166, Operand.tmp 170], argTypes := #[41, 41] }, type := 4, pos := "law.go:210", after := #[{ on := 1, ground := Ground.data }, { on := 5, ground := Ground.data }, { on := 1, ground := Ground.chain }], guard := none }) rfl (fun K hK => ?_) AllReadyH.nil
                go_simp
                refine (longs_any (r := true) G10.out (GV.out.below (Hid.out hHeld.2.2)) GL.out GL.out (decide_eq_true rfl)).mono ?_
                rintro x w5 ⟨rfl, n5, hw⟩
                have hb := drew_b hw
                clear hw
                try go_wp2_with fail
                refine hK.out _ _ ?_ (fun hNew => ?_)
                · first | exact hHeld | exact ⟨cell_go hHeld.1 hb, cell_go hHeld.2.1 hb, Lib.hid ((Hid.out hHeld.2.2).trans (hb.mono (Hid.out hHeld.2.2).size))⟩
                clear hK K
                replace hHeld := hNew
                clear hNew
                ((try simp only [Act.put]); (try simp only [List.setIfInBounds_toArray]); (try simp only [List.set_cons_succ]); (try simp only [List.set_cons_zero]))
                refine wpAnyH_take (i := 7) (oi := { dst := some 172, op := Op.unOp UnOp.not 4 (Operand.tmp 171), type := 4, pos := "law.go:210", after := #[{ on := 6, ground := Ground.data }], guard := none }) (v := ?_) rfl (by kernel_rfl) (by kernel_rfl) (by kernel_rfl) (fun _ _ _ h => h) (Or.inl ⟨by rfl, ?_⟩) (by assumption) ?_
                rotate_left
                · (intro w hSw; (try dsimp only at hSw); go_simp; try with_reducible rfl)
                ((try simp only [Act.put]); (try simp only [List.setIfInBounds_toArray]); (try simp only [List.set_cons_succ]); (try simp only [List.set_cons_zero]))
                refine wpAnyH_take (i := 8) (oi := { dst := some 173, op := Op.move (Operand.tmp 172), type := 4, pos := "law.go:210", after := #[{ on := 7, ground := Ground.data }, { on := 6, ground := Ground.chain }], guard := none }) (v := ?_) rfl (by kernel_rfl) (by kernel_rfl) (by kernel_rfl) (fun _ _ _ h => h) (Or.inl ⟨by rfl, ?_⟩) (by assumption) ?_
                rotate_left
                · (intro w hSw; (try dsimp only at hSw); go_simp; try with_reducible rfl)
                ((try simp only [Act.put]); (try simp only [List.setIfInBounds_toArray]); (try simp only [List.set_cons_succ]); (try simp only [List.set_cons_zero]))
                refine wpAnyH_take (i := 9) (oi := { dst := some 174, op := Op.move (Operand.tmp 7), type := 23, pos := "law.go:210", after := #[{ on := 8, ground := Ground.guard }], guard := some (8, false) }) (v := ?_) rfl (by kernel_rfl) (by kernel_rfl) (by kernel_rfl) (fun _ _ _ h => h) (Or.inl ⟨by rfl, ?_⟩) (by assumption) ?_
                rotate_left
                · (intro w hSw; (try dsimp only at hSw); go_simp; try with_reducible rfl)
                ((try simp only [Act.put]); (try simp only [List.setIfInBounds_toArray]); (try simp only [List.set_cons_succ]); (try simp only [List.set_cons_zero]))
                refine wpAnyH_take (i := 12) (oi := { dst := some 177, op := Op.move (Operand.tmp 9), type := 48, pos := "law.go:210", after := #[{ on := 8, ground := Ground.guard }], guard := some (8, false) }) (v := ?_) rfl (by kernel_rfl) (by kernel_rfl) (by kernel_rfl) (fun _ _ _ h => h) (Or.inl ⟨by rfl, ?_⟩) (by assumption) ?_
                rotate_left
                · (intro w hSw; (try dsimp only at hSw); go_simp; try with_reducible rfl)
                ((try simp only [Act.put]); (try simp only [List.setIfInBounds_toArray]); (try simp only [List.set_cons_succ]); (try simp only [List.set_cons_zero]))
                refine wpAnyH_take (i := 13) (oi := { dst := some 178, op := Op.nilCheck (Operand.tmp 177), type := 0, pos := "law.go:210", after := #[{ on := 12, ground := Ground.data }, { on := 8, ground := Ground.guard }], guard := some (8, false) }) (v := ?_) rfl (by kernel_rfl) (by kernel_rfl) (by kernel_rfl) (fun _ _ _ h => h) (Or.inl ⟨by rfl, ?_⟩) (by assumption) ?_
                rotate_left
                · (intro w hSw; (try dsimp only at hSw); go_simp; try with_reducible rfl)
                ((try simp only [Act.put]); (try simp only [List.setIfInBounds_toArray]); (try simp only [List.set_cons_succ]); (try simp only [List.set_cons_zero]))
                refine wpAnyH_take (i := 14) (oi := { dst := some 179, op := Op.fieldAddr 57 (Operand.tmp 178) 2, type := 0, pos := "law.go:210", after := #[{ on := 13, ground := Ground.data }, { on := 8, ground := Ground.guard }], guard := some (8, false) }) (v := ?_) rfl (by kernel_rfl) (by kernel_rfl) (by kernel_rfl) (fun _ _ _ h => h) (Or.inl ⟨by rfl, ?_⟩) (by assumption) ?_
                rotate_left
                · (intro w hSw; (try dsimp only at hSw); go_simp; try with_reducible rfl)
                ((try simp only [Act.put]); (try simp only [List.setIfInBounds_toArray]); (try simp only [List.set_cons_succ]); (try simp only [List.set_cons_zero]))
                refine wpAnyH_take (i := 15) (oi := { dst := some 180, op := Op.load 55 (Operand.tmp 179), type := 55, pos := "law.go:210", after := #[{ on := 14, ground := Ground.data }, { on := 8, ground := Ground.guard }], guard := some (8, false) }) (v := ?_) rfl (by kernel_rfl) (by kernel_rfl) (by kernel_rfl) (fun _ _ _ h => h) (Or.inl ⟨by rfl, ?_⟩) (by assumption) ?_
                rotate_left
                · (intro w hSw; (try dsimp only at hSw); go_simp; try with_reducible rfl)
                ((try simp only [Act.put]); (try simp only [List.setIfInBounds_toArray]); (try simp only [List.set_cons_succ]); (try simp only [List.set_cons_zero]))
                refine wpAnyH_ready (rs := [10]) (by kernel_rfl) (by simp) ?_
                refine AllReadyH.cons (o := { dst := some 175, op := Op.call { callee := Callee.value (Operand.func 18), args := #[Operand.tmp 174], argTypes := #[23] }, type := 37, pos := "law.go:210", after := #[{ on := 9, ground := Ground.data }, { on := 8, ground := Ground.chain }, { on := 8, ground := Ground.guard }], guard := some (8, false) }) rfl (fun K hK => ?_) AllReadyH.nil
                go_simp
                refine (on_sent (m := e2.S) (stb_den (stb_cx (stb_tl stb_emp))) (O8.out.below (stb_eng (stb_den (stb_cx (stb_tl stb_emp)))) (Hid.out hHeld.2.2)) rfl).mono ?_
                rintro x w11 ⟨a11, c11, rfl, h11, hb⟩
                have Q11 := Lib.hid h11.sq
                clear h11
                try go_wp2_with fail
                refine hK.out _ _ ?_ (fun hNew => ?_)
                · first | exact hHeld | exact ⟨cell_go hHeld.1 hb, cell_go hHeld.2.1 hb, Lib.hid ((Hid.out hHeld.2.2).trans (hb.mono (Hid.out hHeld.2.2).size))⟩
                clear hK K
                replace hHeld := hNew
                clear hNew
                ((try simp only [Act.put]); (try simp only [List.setIfInBounds_toArray]); (try simp only [List.set_cons_succ]); (try simp only [List.set_cons_zero]))
                refine wpAnyH_ready (rs := [11]) (by kernel_rfl) (by simp) ?_
                refine AllReadyH.cons (o := { dst := some 176, op := Op.call { callee := Callee.value (Operand.func 25), args := #[Operand.tmp 175], argTypes := #[37] }, type := 55, pos := "law.go:210", after := #[{ on := 10, ground := Ground.data }, { on := 10, ground := Ground.chain }, { on := 8, ground := Ground.guard }], guard := some (8, false) }) rfl (fun K hK => ?_) AllReadyH.nil
                go_simp
                refine (rows_at (e2.n : Int) Q11.out (by have := OK2.out.n2; omega)).mono ?_
                rintro x w12 ⟨a12, c12, rfl, h12⟩
                have hb := h12.2
                have R12 := Lib.hid h12.1
                clear h12
                try go_wp2_with fail
                refine hK.out _ _ ?_ (fun hNew => ?_)
                · first | exact hHeld | exact ⟨cell_go hHeld.1 hb, cell_go hHeld.2.1 hb, Lib.hid ((Hid.out hHeld.2.2).trans (hb.mono (Hid.out hHeld.2.2).size))⟩
                clear hK K
                replace hHeld := hNew
                clear hNew
                ((try simp only [Act.put]); (try simp only [List.setIfInBounds_toArray]); (try simp only [List.set_cons_succ]); (try simp only [List.set_cons_zero]))
                refine wpAnyH_ready (rs := [16]) (by kernel_rfl) (by simp) ?_
                refine AllReadyH.cons (o := { dst := some 181, op := Op.call { callee := Callee.value (Operand.func 24), args := #[Operand.tmp 176, Operand.tmp 180], argTypes := #[55, 55] }, type := 4, pos := "law.go:210", after := #[{ on := 11, ground := Ground.data }, { on := 15, ground := Ground.data }, { on := 11, ground := Ground.chain }, { on := 8, ground := Ground.guard }], guard := some (8, false) }) rfl (fun K hK => ?_) AllReadyH.nil
                go_simp
                refine (squares_at (r := true) R12.out (QV.out.below (Hid.out hHeld.2.2)) (decide_eq_true rfl)).mono ?_
                rintro x w13 ⟨rfl, n13, hw⟩
                have hb := drew_b hw
                clear hw
                try go_wp2_with fail
                refine hK.out _ _ ?_ (fun hNew => ?_)
                · first | exact hHeld | exact ⟨cell_go hHeld.1 hb, cell_go hHeld.2.1 hb, Lib.hid ((Hid.out hHeld.2.2).trans (hb.mono (Hid.out hHeld.2.2).size))⟩
                clear hK K
                replace hHeld := hNew
                clear hNew
                ((try simp only [Act.put]); (try simp only [List.setIfInBounds_toArray]); (try simp only [List.set_cons_succ]); (try simp only [List.set_cons_zero]))
                refine wpAnyH_take (i := 17) (oi := { dst := some 182, op := Op.unOp UnOp.not 4 (Operand.tmp 181), type := 4, pos := "law.go:210", after := #[{ on := 16, ground := Ground.data }, { on := 8, ground := Ground.guard }], guard := some (8, false) }) (v := ?_) rfl (by kernel_rfl) (by kernel_rfl) (by kernel_rfl) (fun _ _ _ h => h) (Or.inl ⟨by rfl, ?_⟩) (by assumption) ?_
                rotate_left
                · (intro w hSw; (try dsimp only at hSw); go_simp; try with_reducible rfl)
                ((try simp only [Act.put]); (try simp only [List.setIfInBounds_toArray]); (try simp only [List.set_cons_succ]); (try simp only [List.set_cons_zero]))
                refine wpAnyH_take (i := 18) (oi := { dst := some 183, op := Op.pick (Operand.tmp 173) (Operand.const (Value.bool true)) (Operand.tmp 182), type := 4, pos := "law.go:210", after := #[{ on := 8, ground := Ground.data }, { on := 17, ground := Ground.data }], guard := none }) (v := ?_) rfl (by kernel_rfl) (by kernel_rfl) (by kernel_rfl) (fun _ _ _ h => h) (Or.inl ⟨by rfl, ?_⟩) (by assumption) ?_
                rotate_left
                · (intro w hSw; (try dsimp only at hSw); go_simp; try with_reducible rfl)
                ((try simp only [Act.put]); (try simp only [List.setIfInBounds_toArray]); (try simp only [List.set_cons_succ]); (try simp only [List.set_cons_zero]))
                refine wpAnyH_done (by kernel_rfl) ?_ _
                refine NoPanic.normal ?_
                have OF := Lib.hid ((O8.out.below (stb_eng (stb_den (stb_cx (stb_tl stb_emp)))) (Hid.out hHeld.2.2)).mono (fun _ _ => eng_drop (den_drop2 (cx_gone (stb_tl stb_emp)))))
                go_wp2_with fail
                go_roundw
                case rel => exact ⟨k + 1, e2, T, by omega, by go_num, N2.out.1, N2.out.2, by omega, HTL.out, OF.out⟩
                case measure => simp only [intOf]; omega
            · have do2 : (xo == 1) = false := by simpa using ho
              clear ho
              as_aux_lemma =>
                obtain ⟨r, hr⟩ : ∃ r, canE e xf xsb = r := ⟨_, rfl⟩
                have CR := Lib.hid hr
                clear hr
                go_upto_region 20 with fail
                generalize wr.alloc (.cells #[.int .i64 xo, .int .i64 xf, .int .i64 xp, .int .u64 (xt : Int), .slice xsa xsl xsc] 51) = w3 at *
                generalize wr.heap.size = px at *
                have SB := Lib.hid (show ∀ (w' : World) (e1 d1 : En), On W (Eng p e1 (Den q d1 (Cx px [.int .i64 xo, .int .i64 xf, .int .i64 xp, .int .u64 (xt : Int), .slice xsa xsl xsc] (Tl (.slice la T.length lc) T Emp)))) w' → SlAt bV 256 w' xsa xsc xsb from fun w' e1 d1 h => SB0.out.below h.1)
                have O3d := Lib.hid (O3.out.below (stb_eng (stb_den (stb_cx (stb_tl stb_emp)))) (drew_below w3))
                have t1 : w3.drew.cell? ⟨px, 1, none⟩ = some (.int .i64 xf) := v1
                have t3 : w3.drew.cell? ⟨px, 3, none⟩ = some (.int .u64 (xt : Int)) := v3
                clear v0 v1 v2 v3 v4 O3
                refine wp_region_noPanic ?_
                refine wp_region_held_drew (S := (fun w' => w'.cell? ⟨px, 1, none⟩ = some (.int .i64 xf) ∧ w'.cell? ⟨px, 3, none⟩ = some (.int .u64 (xt : Int)))) (by kernel_rfl) ?_ (fun hHeld => ?_)
                · exact ⟨t1, t3⟩
                refine wpAnyH_take (i := 0) (oi := { dst := some 100, op := Op.move (Operand.tmp 7), type := 23, pos := "law.go:206", after := #[], guard := none }) (v := ?_) rfl (by kernel_rfl) (by kernel_rfl) (by kernel_rfl) (fun _ _ _ h => h) (Or.inl ⟨by rfl, ?_⟩) (by assumption) ?_
                rotate_left
                · (intro w hSw; (try dsimp only at hSw); go_simp; try with_reducible rfl)
                ((try simp only [Act.put]); (try simp only [List.setIfInBounds_toArray]); (try simp only [List.set_cons_succ]); (try simp only [List.set_cons_zero]))
                refine wpAnyH_take (i := 1) (oi := { dst := some 101, op := Op.fieldAddr 51 (Operand.tmp 12) 1, type := 0, pos := "law.go:206", after := #[], guard := none }) (v := ?_) rfl (by kernel_rfl) (by kernel_rfl) (by kernel_rfl) (fun _ _ _ h => h) (Or.inl ⟨by rfl, ?_⟩) (by assumption) ?_
                rotate_left
                · (intro w hSw; (try dsimp only at hSw); go_simp; try with_reducible rfl)
                ((try simp only [Act.put]); (try simp only [List.setIfInBounds_toArray]); (try simp only [List.set_cons_succ]); (try simp only [List.set_cons_zero]))
                refine wpAnyH_take (i := 2) (oi := { dst := some 102, op := Op.load 3 (Operand.tmp 101), type := 3, pos := "law.go:206", after := #[{ on := 1, ground := Ground.data }], guard := none }) (v := ?_) rfl (by kernel_rfl) (by kernel_rfl) (by kernel_rfl) (fun _ _ _ h => h) (Or.inl ⟨by rfl, ?_⟩) (by assumption) ?_
                rotate_left
                · (intro w hSw; (try dsimp only at hSw); go_simp; try with_reducible rfl)
                ((try simp only [Act.put]); (try simp only [List.setIfInBounds_toArray]); (try simp only [List.set_cons_succ]); (try simp only [List.set_cons_zero]))
                refine wpAnyH_take (i := 3) (oi := { dst := some 103, op := Op.move (Operand.tmp 13), type := 32, pos := "law.go:206", after := #[], guard := none }) (v := ?_) rfl (by kernel_rfl) (by kernel_rfl) (by kernel_rfl) (fun _ _ _ h => h) (Or.inl ⟨by rfl, ?_⟩) (by assumption) ?_
                rotate_left
                · (intro w hSw; (try dsimp only at hSw); go_simp; try with_reducible rfl)
                ((try simp only [Act.put]); (try simp only [List.setIfInBounds_toArray]); (try simp only [List.set_cons_succ]); (try simp only [List.set_cons_zero]))
                refine wpAnyH_take (i := 5) (oi := { dst := some 105, op := Op.move (Operand.tmp 9), type := 48, pos := "law.go:206", after := #[], guard := none }) (v := ?_) rfl (by kernel_rfl) (by kernel_rfl) (by kernel_rfl) (fun _ _ _ h => h) (Or.inl ⟨by rfl, ?_⟩) (by assumption) ?_
                rotate_left
                · (intro w hSw; (try dsimp only at hSw); go_simp; try with_reducible rfl)
                ((try simp only [Act.put]); (try simp only [List.setIfInBounds_toArray]); (try simp only [List.set_cons_succ]); (try simp only [List.set_cons_zero]))
                refine wpAnyH_take (i := 6) (oi := { dst := some 106, op := Op.fieldAddr 51 (Operand.tmp 12) 1, type := 0, pos := "law.go:206", after := #[], guard := none }) (v := ?_) rfl (by kernel_rfl) (by kernel_rfl) (by kernel_rfl) (fun _ _ _ h => h) (Or.inl ⟨by rfl, ?_⟩) (by assumption) ?_
                rotate_left
                · (intro w hSw; (try dsimp only at hSw); go_simp; try with_reducible rfl)
                ((try simp only [Act.put]); (try simp only [List.setIfInBounds_toArray]); (try simp only [List.set_cons_succ]); (try simp only [List.set_cons_zero]))
                refine wpAnyH_take (i := 7) (oi := { dst := some 107, op := Op.load 3 (Operand.tmp 106), type := 3, pos := "law.go:206", after := #[{ on := 6, ground := Ground.data }], guard := none }) (v := ?_) rfl (by kernel_rfl) (by kernel_rfl) (by kernel_rfl) (fun _ _ _ h => h) (Or.inl ⟨by rfl, ?_⟩) (by assumption) ?_
                rotate_left
                · (intro w hSw; (try dsimp only at hSw); go_simp; try with_reducible rfl)
                ((try simp only [Act.put]); (try simp only [List.setIfInBounds_toArray]); (try simp only [List.set_cons_succ]); (try simp only [List.set_cons_zero]))
                refine wpAnyH_take (i := 8) (oi := { dst := some 108, op := Op.move (Operand.tmp 13), type := 32, pos := "law.go:206", after := #[], guard := none }) (v := ?_) rfl (by kernel_rfl) (by kernel_rfl) (by kernel_rfl) (fun _ _ _ h => h) (Or.inl ⟨by rfl, ?_⟩) (by assumption) ?_
                rotate_left
                · (intro w hSw; (try dsimp only at hSw); go_simp; try with_reducible rfl)
                ((try simp only [Act.put]); (try simp only [List.setIfInBounds_toArray]); (try simp only [List.set_cons_succ]); (try simp only [List.set_cons_zero]))
                refine wpAnyH_ready (rs := [4]) (by kernel_rfl) (by simp) ?_
                refine AllReadyH.cons (o := { dst := some 104, op := Op.call { callee := Callee.value (Operand.func 13), args := #[Operand.tmp 100, Operand.tmp 102, Operand.const (Value.int IntKind.u64 1), Operand.tmp 103], argTypes := #[23, 3, 29, 32] }, type := 4, pos := "law.go:206", after := #[{ on := 0, ground := Ground.data }, { on := 2, ground := Ground.data }, { on := 3, ground := Ground.data }], guard := none }) rfl (fun K hK => ?_) AllReadyH.nil
                go_simp
                refine (on_can (f := xf) (num := 1) (stb_den (stb_cx (stb_tl stb_emp))) O3d.out (SB.out _ _ _ O3d.out) BL.out BM.out FO.out CR.out).mono ?_
                rintro x w4 ⟨rfl, h4, -⟩
                have O4 := Lib.hid (h4.mono (fun _ _ => den_swap (stb_cx (stb_tl stb_emp))))
                have S4 := Lib.hid (SB.out _ _ _ h4)
                have XC4 := Lib.hid h4.cx
                have u1 := XC4.out.c 1 (by simp)
                have u3 := XC4.out.c 3 (by simp)
                simp at u1 u3
                clear h4
                try go_wp2_with fail
                refine hK.out _ _ ?_ (fun hNew => ?_)
                · first | exact hHeld | exact ⟨u1, u3⟩
                clear hK K
                replace hHeld := hNew
                clear hNew
                ((try simp only [Act.put]); (try simp only [List.setIfInBounds_toArray]); (try simp only [List.set_cons_succ]); (try simp only [List.set_cons_zero]))
                refine wpAnyH_ready (rs := [9]) (by kernel_rfl) (by simp) ?_
                refine AllReadyH.cons (o := { dst := some 109, op := Op.call { callee := Callee.value (Operand.func 23), args := #[Operand.tmp 105, Operand.tmp 107, Operand.tmp 108], argTypes := #[48, 3, 32] }, type := 4, pos := "law.go:206", after := #[{ on := 5, ground := Ground.data }, { on := 7, ground := Ground.data }, { on := 8, ground := Ground.data }, { on := 4, ground := Ground.chain }], guard := none }) rfl (fun K hK => ?_) AllReadyH.nil
                go_simp
                refine (on_dcan (f := xf) (stb_eng (stb_cx (stb_tl stb_emp))) O4.out S4.out BL.out CR.out).mono ?_
                rintro x w8 ⟨rfl, h8, -⟩
                have O8 := Lib.hid (h8.mono (fun _ _ => den_back (stb_cx (stb_tl stb_emp))))
                clear h8 O4 S4 XC4
                have XC4 := Lib.hid O8.out.cx
                have u1 := XC4.out.c 1 (by simp)
                have u3 := XC4.out.c 3 (by simp)
                simp at u1 u3
                try go_wp2_with fail
                refine hK.out _ _ ?_ (fun hNew => ?_)
                · first | exact hHeld | exact ⟨u1, u3⟩
                clear hK K
                replace hHeld := hNew
                clear hNew
                ((try simp only [Act.put]); (try simp only [List.setIfInBounds_toArray]); (try simp only [List.set_cons_succ]); (try simp only [List.set_cons_zero]))
                refine wpAnyH_take (i := 10) (oi := { dst := some 110, op := Op.binOp BinOp.neq 4 (Operand.tmp 104) (Operand.tmp 109) 4, type := 4, pos := "law.go:206", after := #[{ on := 4, ground := Ground.data }, { on := 9, ground := Ground.data }], guard := none }) (v := ?_) rfl (by kernel_rfl) (by kernel_rfl) (by kernel_rfl) (fun _ _ _ h => h) (Or.inl ⟨by rfl, ?_⟩) (by assumption) ?_
                rotate_left
                · (intro w hSw; (try dsimp only at hSw); go_simp; try with_reducible rfl)
                ((try simp only [Act.put]); (try simp only [List.setIfInBounds_toArray]); (try simp only [List.set_cons_succ]); (try simp only [List.set_cons_zero]))
                refine wpAnyH_done (by kernel_rfl) ?_ _
                refine NoPanic.normal ?_
                clear u1 u3 XC4 hHeld
                obtain ⟨e2, he2⟩ : ∃ e2, e2 = e := ⟨_, rfl⟩
                rw [← he2] at O8
                have N2 := Lib.hid (show e2.n = e.n ∧ e2.me = e.me by rw [he2]; exact ⟨rfl, rfl⟩)
                clear he2
                obtain ⟨sa, sc, ga, gc, q2, q3, qs, qg⟩ := (O8.out.mono (fun _ _ => den_swap (stb_cx (stb_tl stb_emp)))).den
                have QV := Lib.hid qs
                have GV := Lib.hid qg
                have OK2 := Lib.hid O8.out.ok
                have GL := Lib.hid OK2.out.G
                clear qs qg
                go_upto_region 36 with fail
                refine wp_region_noPanic ?_
                refine wp_region_held_drew (S := (fun w' => w'.cell? ⟨q, 2, none⟩ = some (.slice sa e2.n sc) ∧ w'.cell? ⟨q, 3, none⟩ = some (.slice ga e2.n gc) ∧ Hid (Below w8.heap.size w8 w'))) (by kernel_rfl) ?_ (fun hHeld => ?_)
                · exact ⟨q2, q3, Lib.hid (drew_below w8)⟩
                refine wpAnyH_take (i := 0) (oi := { dst := some 165, op := Op.move (Operand.tmp 7), type := 23, pos := "law.go:210", after := #[], guard := none }) (v := ?_) rfl (by kernel_rfl) (by kernel_rfl) (by kernel_rfl) (fun _ _ _ h => h) (Or.inl ⟨by rfl, ?_⟩) (by assumption) ?_
                rotate_left
                · (intro w hSw; (try dsimp only at hSw); go_simp; try with_reducible rfl)
                ((try simp only [Act.put]); (try simp only [List.setIfInBounds_toArray]); (try simp only [List.set_cons_succ]); (try simp only [List.set_cons_zero]))
                refine wpAnyH_take (i := 2) (oi := { dst := some 167, op := Op.move (Operand.tmp 9), type := 48, pos := "law.go:210", after := #[], guard := none }) (v := ?_) rfl (by kernel_rfl) (by kernel_rfl) (by kernel_rfl) (fun _ _ _ h => h) (Or.inl ⟨by rfl, ?_⟩) (by assumption) ?_
                rotate_left
                · (intro w hSw; (try dsimp only at hSw); go_simp; try with_reducible rfl)
                ((try simp only [Act.put]); (try simp only [List.setIfInBounds_toArray]); (try simp only [List.set_cons_succ]); (try simp only [List.set_cons_zero]))
                refine wpAnyH_take (i := 3) (oi := { dst := some 168, op := Op.nilCheck (Operand.tmp 167), type := 0, pos := "law.go:210", after := #[{ on := 2, ground := Ground.data }], guard := none }) (v := ?_) rfl (by kernel_rfl) (by kernel_rfl) (by kernel_rfl) (fun _ _ _ h => h) (Or.inl ⟨by rfl, ?_⟩) (by assumption) ?_
                rotate_left
                · (intro w hSw; (try dsimp only at hSw); go_simp; try with_reducible rfl)
                ((try simp only [Act.put]); (try simp only [List.setIfInBounds_toArray]); (try simp only [List.set_cons_succ]); (try simp only [List.set_cons_zero]))
                refine wpAnyH_take (i := 4) (oi := { dst := some 169, op := Op.fieldAddr 57 (Operand.tmp 168) 3, type := 0, pos := "law.go:210", after := #[{ on := 3, ground := Ground.data }], guard := none }) (v := ?_) rfl (by kernel_rfl) (by kernel_rfl) (by kernel_rfl) (fun _ _ _ h => h) (Or.inl ⟨by rfl, ?_⟩) (by assumption) ?_
                rotate_left
                · (intro w hSw; (try dsimp only at hSw); go_simp; try with_reducible rfl)
                ((try simp only [Act.put]); (try simp only [List.setIfInBounds_toArray]); (try simp only [List.set_cons_succ]); (try simp only [List.set_cons_zero]))
                refine wpAnyH_take (i := 5) (oi := { dst := some 170, op := Op.load 41 (Operand.tmp 169), type := 41, pos := "law.go:210", after := #[{ on := 4, ground := Ground.data }], guard := none }) (v := ?_) rfl (by kernel_rfl) (by kernel_rfl) (by kernel_rfl) (fun _ _ _ h => h) (Or.inl ⟨by rfl, ?_⟩) (by assumption) ?_
                rotate_left
                · (intro w hSw; (try dsimp only at hSw); go_simp; try with_reducible rfl)
                ((try simp only [Act.put]); (try simp only [List.setIfInBounds_toArray]); (try simp only [List.set_cons_succ]); (try simp only [List.set_cons_zero]))
                refine wpAnyH_ready (rs := [1]) (by kernel_rfl) (by simp) ?_
                refine AllReadyH.cons (o := { dst := some 166, op := Op.call { callee := Callee.value (Operand.func 16), args := #[Operand.tmp 165], argTypes := #[23] }, type := 42, pos := "law.go:210", after := #[{ on := 0, ground := Ground.data }], guard := none }) rfl (fun K hK => ?_) AllReadyH.nil
                go_simp
                refine (on_got (g := e2.G) (stb_den (stb_cx (stb_tl stb_emp))) (O8.out.below (stb_eng (stb_den (stb_cx (stb_tl stb_emp)))) (Hid.out hHeld.2.2)) rfl).mono ?_
                rintro x w10 ⟨a10, c10, rfl, h10, hb⟩
                have G10 := Lib.hid h10.sl
                clear h10
                try go_wp2_with fail
                refine hK.out _ _ ?_ (fun hNew => ?_)
                · first | exact hHeld | exact ⟨cell_go hHeld.1 hb, cell_go hHeld.2.1 hb, Lib.hid ((Hid.out hHeld.2.2).trans (hb.mono (Hid.out hHeld.2.2).size))⟩
                clear hK K
                replace hHeld := hNew
                clear hNew
                ((try simp only [Act.put]); (try simp only [List.setIfInBounds_toArray]); (try simp only [List.set_cons_succ]); (try simp only [List.set_cons_zero]))
                refine wpAnyH_ready (rs := [6]) (by kernel_rfl) (by simp) ?_
                refine AllReadyH.cons (o := { dst := some 171, op := Op.call { callee := Callee.value (Operand.func 15), args := #[Operand.tmp 166, Operand.tmp 170], argTypes := #[41, 41] }, type := 4, pos := "law.go:210", after := #[{ on := 1, ground := Ground.data }, { on := 5, ground := Ground.data }, { on := 1, ground := Ground.chain }], guard := none }) rfl (fun K hK => ?_) AllReadyH.nil
                go_simp
                refine (longs_any (r := true) G10.out (GV.out.below (Hid.out hHeld.2.2)) GL.out GL.out (decide_eq_true rfl)).mono ?_
                rintro x w5 ⟨rfl, n5, hw⟩
                have hb := drew_b hw
                clear hw
                try go_wp2_with fail
                refine hK.out _ _ ?_ (fun hNew => ?_)
                · first | exact hHeld | exact ⟨cell_go hHeld.1 hb, cell_go hHeld.2.1 hb, Lib.hid ((Hid.out hHeld.2.2).trans (hb.mono (Hid.out hHeld.2.2).size))⟩
                clear hK K
                replace hHeld := hNew
                clear hNew
                ((try simp only [Act.put]); (try simp only [List.setIfInBounds_toArray]); (try simp only [List.set_cons_succ]); (try simp only [List.set_cons_zero]))
                refine wpAnyH_take (i := 7) (oi := { dst := some 172, op := Op.unOp UnOp.not 4 (Operand.tmp 171), type := 4, pos := "law.go:210", after := #[{ on := 6, ground := Ground.data }], guard := none }) (v := ?_) rfl (by kernel_rfl) (by kernel_rfl) (by kernel_rfl) (fun _ _ _ h => h) (Or.inl ⟨by rfl, ?_⟩) (by assumption) ?_
                rotate_left
                · (intro w hSw; (try dsimp only at hSw); go_simp; try with_reducible rfl)
                ((try simp only [Act.put]); (try simp only [List.setIfInBounds_toArray]); (try simp only [List.set_cons_succ]); (try simp only [List.set_cons_zero]))
                refine wpAnyH_take (i := 8) (oi := { dst := some 173, op := Op.move (Operand.tmp 172), type := 4, pos := "law.go:210", after := #[{ on := 7, ground := Ground.data }, { on := 6, ground := Ground.chain }], guard := none }) (v := ?_) rfl (by kernel_rfl) (by kernel_rfl) (by kernel_rfl) (fun _ _ _ h => h) (Or.inl ⟨by rfl, ?_⟩) (by assumption) ?_
                rotate_left
                · (intro w hSw; (try dsimp only at hSw); go_simp; try with_reducible rfl)
                ((try simp only [Act.put]); (try simp only [List.setIfInBounds_toArray]); (try simp only [List.set_cons_succ]); (try simp only [List.set_cons_zero]))
                refine wpAnyH_take (i := 9) (oi := { dst := some 174, op := Op.move (Operand.tmp 7), type := 23, pos := "law.go:210", after := #[{ on := 8, ground := Ground.guard }], guard := some (8, false) }) (v := ?_) rfl (by kernel_rfl) (by kernel_rfl) (by kernel_rfl) (fun _ _ _ h => h) (Or.inl ⟨by rfl, ?_⟩) (by assumption) ?_
                rotate_left
                · (intro w hSw; (try dsimp only at hSw); go_simp; try with_reducible rfl)
                ((try simp only [Act.put]); (try simp only [List.setIfInBounds_toArray]); (try simp only [List.set_cons_succ]); (try simp only [List.set_cons_zero]))
                refine wpAnyH_take (i := 12) (oi := { dst := some 177, op := Op.move (Operand.tmp 9), type := 48, pos := "law.go:210", after := #[{ on := 8, ground := Ground.guard }], guard := some (8, false) }) (v := ?_) rfl (by kernel_rfl) (by kernel_rfl) (by kernel_rfl) (fun _ _ _ h => h) (Or.inl ⟨by rfl, ?_⟩) (by assumption) ?_
                rotate_left
                · (intro w hSw; (try dsimp only at hSw); go_simp; try with_reducible rfl)
                ((try simp only [Act.put]); (try simp only [List.setIfInBounds_toArray]); (try simp only [List.set_cons_succ]); (try simp only [List.set_cons_zero]))
                refine wpAnyH_take (i := 13) (oi := { dst := some 178, op := Op.nilCheck (Operand.tmp 177), type := 0, pos := "law.go:210", after := #[{ on := 12, ground := Ground.data }, { on := 8, ground := Ground.guard }], guard := some (8, false) }) (v := ?_) rfl (by kernel_rfl) (by kernel_rfl) (by kernel_rfl) (fun _ _ _ h => h) (Or.inl ⟨by rfl, ?_⟩) (by assumption) ?_
                rotate_left
                · (intro w hSw; (try dsimp only at hSw); go_simp; try with_reducible rfl)
                ((try simp only [Act.put]); (try simp only [List.setIfInBounds_toArray]); (try simp only [List.set_cons_succ]); (try simp only [List.set_cons_zero]))
                refine wpAnyH_take (i := 14) (oi := { dst := some 179, op := Op.fieldAddr 57 (Operand.tmp 178) 2, type := 0, pos := "law.go:210", after := #[{ on := 13, ground := Ground.data }, { on := 8, ground := Ground.guard }], guard := some (8, false) }) (v := ?_) rfl (by kernel_rfl) (by kernel_rfl) (by kernel_rfl) (fun _ _ _ h => h) (Or.inl ⟨by rfl, ?_⟩) (by assumption) ?_
                rotate_left
                · (intro w hSw; (try dsimp only at hSw); go_simp; try with_reducible rfl)
                ((try simp only [Act.put]); (try simp only [List.setIfInBounds_toArray]); (try simp only [List.set_cons_succ]); (try simp only [List.set_cons_zero]))
                refine wpAnyH_take (i := 15) (oi := { dst := some 180, op := Op.load 55 (Operand.tmp 179), type := 55, pos := "law.go:210", after := #[{ on := 14, ground := Ground.data }, { on := 8, ground := Ground.guard }], guard := some (8, false) }) (v := ?_) rfl (by kernel_rfl) (by kernel_rfl) (by kernel_rfl) (fun _ _ _ h => h) (Or.inl ⟨by rfl, ?_⟩) (by assumption) ?_
                rotate_left
                · (intro w hSw; (try dsimp only at hSw); go_simp; try with_reducible rfl)
                ((try simp only [Act.put]); (try simp only [List.setIfInBounds_toArray]); (try simp only [List.set_cons_succ]); (try simp only [List.set_cons_zero]))
                refine wpAnyH_ready (rs := [10]) (by kernel_rfl) (by simp) ?_
                refine AllReadyH.cons (o := { dst := some 175, op := Op.call { callee := Callee.value (Operand.func 18), args := #[Operand.tmp 174], argTypes := #[23] }, type := 37, pos := "law.go:210", after := #[{ on := 9, ground := Ground.data }, { on := 8, ground := Ground.chain }, { on := 8, ground := Ground.guard }], guard := some (8, false) }) rfl (fun K hK => ?_) AllReadyH.nil
                go_simp
                refine (on_sent (m := e2.S) (stb_den (stb_cx (stb_tl stb_emp))) (O8.out.below (stb_eng (stb_den (stb_cx (stb_tl stb_emp)))) (Hid.out hHeld.2.2)) rfl).mono ?_
                rintro x w11 ⟨a11, c11, rfl, h11, hb⟩
                have Q11 := Lib.hid h11.sq
                clear h11
                try go_wp2_with fail
                refine hK.out _ _ ?_ (fun hNew => ?_)
                · first | exact hHeld | exact ⟨cell_go hHeld.1 hb, cell_go hHeld.2.1 hb, Lib.hid ((Hid.out hHeld.2.2).trans (hb.mono (Hid.out hHeld.2.2).size))⟩
                clear hK K
                replace hHeld := hNew
                clear hNew
                ((try simp only [Act.put]); (try simp only [List.setIfInBounds_toArray]); (try simp only [List.set_cons_succ]); (try simp only [List.set_cons_zero]))
                refine wpAnyH_ready (rs := [11]) (by kernel_rfl) (by simp) ?_
                refine AllReadyH.cons (o := { dst := some 176, op := Op.call { callee := Callee.value (Operand.func 25), args := #[Operand.tmp 175], argTypes := #[37] }, type := 55, pos := "law.go:210", after := #[{ on := 10, ground := Ground.data }, { on := 10, ground := Ground.chain }, { on := 8, ground := Ground.guard }], guard := some (8, false) }) rfl (fun K hK => ?_) AllReadyH.nil
                go_simp
                refine (rows_at (e2.n : Int) Q11.out (by have := OK2.out.n2; omega)).mono ?_
                rintro x w12 ⟨a12, c12, rfl, h12⟩
                have hb := h12.2
                have R12 := Lib.hid h12.1
                clear h12
                try go_wp2_with fail
                refine hK.out _ _ ?_ (fun hNew => ?_)
                · first | exact hHeld | exact ⟨cell_go hHeld.1 hb, cell_go hHeld.2.1 hb, Lib.hid ((Hid.out hHeld.2.2).trans (hb.mono (Hid.out hHeld.2.2).size))⟩
                clear hK K
                replace hHeld := hNew
                clear hNew
                ((try simp only [Act.put]); (try simp only [List.setIfInBounds_toArray]); (try simp only [List.set_cons_succ]); (try simp only [List.set_cons_zero]))
                refine wpAnyH_ready (rs := [16]) (by kernel_rfl) (by simp) ?_
                refine AllReadyH.cons (o := { dst := some 181, op := Op.call { callee := Callee.value (Operand.func 24), args := #[Operand.tmp 176, Operand.tmp 180], argTypes := #[55, 55] }, type := 4, pos := "law.go:210", after := #[{ on := 11, ground := Ground.data }, { on := 15, ground := Ground.data }, { on := 11, ground := Ground.chain }, { on := 8, ground := Ground.guard }], guard := some (8, false) }) rfl (fun K hK => ?_) AllReadyH.nil
                go_simp
                refine (squares_at (r := true) R12.out (QV.out.below (Hid.out hHeld.2.2)) (decide_eq_true rfl)).mono ?_
                rintro x w13 ⟨rfl, n13, hw⟩
                have hb := drew_b hw
                clear hw
                try go_wp2_with fail
                refine hK.out _ _ ?_ (fun hNew => ?_)
                · first | exact hHeld | exact ⟨cell_go hHeld.1 hb, cell_go hHeld.2.1 hb, Lib.hid ((Hid.out hHeld.2.2).trans (hb.mono (Hid.out hHeld.2.2).size))⟩
                clear hK K
                replace hHeld := hNew
                clear hNew
                ((try simp only [Act.put]); (try simp only [List.setIfInBounds_toArray]); (try simp only [List.set_cons_succ]); (try simp only [List.set_cons_zero]))
                refine wpAnyH_take (i := 17) (oi := { dst := some 182, op := Op.unOp UnOp.not 4 (Operand.tmp 181), type := 4, pos := "law.go:210", after := #[{ on := 16, ground := Ground.data }, { on := 8, ground := Ground.guard }], guard := some (8, false) }) (v := ?_) rfl (by kernel_rfl) (by kernel_rfl) (by kernel_rfl) (fun _ _ _ h => h) (Or.inl ⟨by rfl, ?_⟩) (by assumption) ?_
                rotate_left
                · (intro w hSw; (try dsimp only at hSw); go_simp; try with_reducible rfl)
                ((try simp only [Act.put]); (try simp only [List.setIfInBounds_toArray]); (try simp only [List.set_cons_succ]); (try simp only [List.set_cons_zero]))
                refine wpAnyH_take (i := 18) (oi := { dst := some 183, op := Op.pick (Operand.tmp 173) (Operand.const (Value.bool true)) (Operand.tmp 182), type := 4, pos := "law.go:210", after := #[{ on := 8, ground := Ground.data }, { on := 17, ground := Ground.data }], guard := none }) (v := ?_) rfl (by kernel_rfl) (by kernel_rfl) (by kernel_rfl) (fun _ _ _ h => h) (Or.inl ⟨by rfl, ?_⟩) (by assumption) ?_
                rotate_left
                · (intro w hSw; (try dsimp only at hSw); go_simp; try with_reducible rfl)
                ((try simp only [Act.put]); (try simp only [List.setIfInBounds_toArray]); (try simp only [List.set_cons_succ]); (try simp only [List.set_cons_zero]))
                refine wpAnyH_done (by kernel_rfl) ?_ _
                refine NoPanic.normal ?_
                have OF := Lib.hid ((O8.out.below (stb_eng (stb_den (stb_cx (stb_tl stb_emp)))) (Hid.out hHeld.2.2)).mono (fun _ _ => eng_drop (den_drop2 (cx_gone (stb_tl stb_emp)))))
                go_wp2_with fail
                go_roundw
                case rel => exact ⟨k + 1, e2, T, by omega, by go_num, N2.out.1, N2.out.2, by omega, HTL.out, OF.out⟩
                case measure => simp only [intOf]; omega
      · have d10 : decide (xp ≥ 0) = false := decide_eq_false hp
        clear hp
        have SB0 := XS0
        have BL := XL
        have BM := X6
        by_cases ho : xo = 0
        · have do1 : (xo == 0) = true := by simpa using ho
          clear ho
          as_aux_lemma =>
            obtain ⟨cn, hcn⟩ : ∃ c, (listN (toE e.n e.me xt)).length = c := ⟨_, rfl⟩
            have CN := Lib.hid hcn
            have C64 := Lib.hid (show cn ≤ 64 from by rw [← hcn]; exact toN_len _ 64)
            clear hcn
            obtain ⟨Ls, hLs⟩ : ∃ L, stampL e.S = L := ⟨_, rfl⟩
            have LS := Lib.hid hLs
            have LSL := Lib.hid (show Ls.length ≤ 2560 from by rw [← hLs]; exact stampE_len O3.out.ok)
            clear hLs
            obtain ⟨e2, he2⟩ : ∃ e2, sendE e xt = e2 := ⟨_, rfl⟩
            have E2 := Lib.hid he2
            clear he2
            have N2 := Lib.hid (show e2.n = e.n ∧ e2.me = e.me by rw [← E2.out]; exact ⟨rfl, rfl⟩)
            go_wp2_with fail
            generalize wr.alloc (.cells #[.int .i64 xo, .int .i64 xf, .int .i64 xp, .int .u64 (xt : Int), .slice xsa xsl xsc] 51) = w3 at *
            generalize wr.heap.size = px at *
            have CS := Lib.hid (on_send_in (R' := fun a cap => Den q e (Cx px [.int .i64 xo, .int .i64 xf, .int .i64 xp, .int .u64 (xt : Int), .slice xsa xsl xsc] (Tl (.slice la T.length lc) T (Bq a cap cn (List.replicate cn Ls) Emp)))) (stb_den (stb_cx (stb_tl stb_emp))) O3.out TL.out LS.out CN.out E2.out (fun w' N Fr a cap hN hB => ins_den hN (ins_cx hN (ins_tl hN (ins_bq stb_emp hB)))))
            refine CS.out.mono ?_
            rintro x w4 ⟨a4, c4, rfl, h4⟩
            have O4 := Lib.hid (h4.mono (fun _ _ => den_swap (stb_cx (stb_tl (stb_bq stb_emp)))))
            have XC4 := Lib.hid h4.cx
            have u3 : w4.cell? ⟨px, 3, none⟩ = some (.int .u64 (xt : Int)) := XC4.out.c 3 (by simp)
            clear h4 v0 v1 v2 v3 v4 O3 CS XC4
            go_wp2_with fail
            refine (on_dsend (t := xt) (stb_eng (stb_cx (stb_tl (stb_bq stb_emp)))) O4.out TL.out LS.out CN.out E2.out).mono ?_
            rintro x w5 ⟨a5, c5, rfl, h5⟩
            have O5 := Lib.hid (h5.mono (fun _ _ h => den_back (stb_byx (stb_cx (stb_tl (stb_bq stb_emp)))) (den_drop (byx_swap (stb_cx (stb_tl (stb_bq stb_emp)))) h)))
            clear h5 O4 u3
            go_wp2_with fail
            go_loopw [10, 17] (fun s i wr => ∃ (t : Nat) (T2 : List Rd), t ≤ cn ∧ i = .int .i64 (t : Nat) ∧ T2.length = T.length + t ∧ (∀ r ∈ T2, r.l.length ≤ 2560) ∧ On W (Eng p e2 (Den q e2 (Byx a5 c5 Ls (Cx px [.int .i64 xo, .int .i64 xf, .int .i64 xp, .int .u64 (xt : Int), .slice xsa xsl xsc] (Tl s T2 (Bq a4 c4 cn (List.replicate cn Ls) Emp)))))) wr) (fun _ i _ => cn - (intOf i).toNat)
            case atStart => exact ⟨0, T, Nat.zero_le _, rfl, rfl, HTL.out, O5.out⟩
            case round =>
              obtain ⟨t, T2, htc, rfl, hT2, hTL2, hO⟩ := hrel
              have O6 := Lib.hid hO
              have HTL2 := Lib.hid hTL2
              clear hO O5 hTL2
              by_cases htl : t < cn
              · skip
                obtain ⟨A9, hA9, hT9, hS5⟩ := O6.out.tl5
                obtain ⟨la2, lc2, rfl⟩ := own_form hT9.1
                have LO2 := Lib.hid (show ∀ j, (Value.slice la2 T2.length lc2).ownBlock = some j → W.heap.size ≤ j from fun j e => (hA9 j (hT9.2.1 j e)).1)
                obtain ⟨b, off, ra, rc, rfl, hc0, hs, -⟩ := hT9.2.2.2.1.row (i := t) htl
                have hg := Lib.hid (show (List.replicate cn Ls).getD t [] = Ls by simp [htl])
                rw [hg.out] at hc0 hs
                have hc : wr.drew.cell? ⟨b, off + t, none⟩ = some (.slice ra Ls.length rc) := hc0
                have CV1 := Lib.hid (conv_any (hs.below (drew_below wr)) rfl)
                have CV2 := Lib.hid (conv_any (hS5.below (drew_below wr)) rfl)
                have t0 : (0 : Int) ≤ (t : Int) := by omega
                have t1 : (t : Int) < (cn : Int) := by omega
                have c64 := C64.out
                have h40 := HL40.out
                have HT2 := Lib.hid hT2
                clear hT2
                clear hA9 hT9 hS5 hs hc0
                go_upto_region 30 with fail
                refine wp_region_noPanic ?_
                refine wp_region_held_drew (S := (fun w' => w'.cell? ⟨b, off + t, none⟩ = some (.slice ra Ls.length rc))) (by kernel_rfl) ?_ (fun hHeld => ?_)
                · exact hc
                refine wpAnyH_take (i := 0) (oi := { dst := some 133, op := Op.move (Operand.tmp 14), type := 27, pos := "law.go:196", after := #[], guard := none }) (v := ?_) rfl (by kernel_rfl) (by kernel_rfl) (by kernel_rfl) (fun _ _ _ h => h) (Or.inl ⟨by rfl, ?_⟩) (by assumption) ?_
                rotate_left
                · (intro w hSw; (try dsimp only at hSw); go_simp; try with_reducible rfl)
                ((try simp only [Act.put]); (try simp only [List.setIfInBounds_toArray]); (try simp only [List.set_cons_succ]); (try simp only [List.set_cons_zero]))
                refine wpAnyH_take (i := 1) (oi := { dst := some 134, op := Op.move (Operand.tmp 17), type := 3, pos := "law.go:196", after := #[], guard := none }) (v := ?_) rfl (by kernel_rfl) (by kernel_rfl) (by kernel_rfl) (fun _ _ _ h => h) (Or.inl ⟨by rfl, ?_⟩) (by assumption) ?_
                rotate_left
                · (intro w hSw; (try dsimp only at hSw); go_simp; try with_reducible rfl)
                ((try simp only [Act.put]); (try simp only [List.setIfInBounds_toArray]); (try simp only [List.set_cons_succ]); (try simp only [List.set_cons_zero]))
                refine wpAnyH_take (i := 2) (oi := { dst := some 135, op := Op.indexAddr 27 (Operand.tmp 133) (Operand.tmp 134), type := 0, pos := "law.go:196", after := #[{ on := 0, ground := Ground.data }, { on := 1, ground := Ground.data }], guard := none }) (v := ?_) rfl (by kernel_rfl) (by kernel_rfl) (by kernel_rfl) (fun _ _ _ h => h) (Or.inl ⟨by rfl, ?_⟩) (by assumption) ?_
                rotate_left
                · (intro w hSw; (try dsimp only at hSw); go_simp; try with_reducible rfl)
                ((try simp only [Act.put]); (try simp only [List.setIfInBounds_toArray]); (try simp only [List.set_cons_succ]); (try simp only [List.set_cons_zero]))
                refine wpAnyH_take (i := 3) (oi := { dst := some 136, op := Op.load 32 (Operand.tmp 135), type := 32, pos := "law.go:196", after := #[{ on := 2, ground := Ground.data }], guard := none }) (v := ?_) rfl (by kernel_rfl) (by kernel_rfl) (by kernel_rfl) (fun _ _ _ h => h) (Or.inl ⟨by rfl, ?_⟩) (by assumption) ?_
                rotate_left
                · (intro w hSw; (try dsimp only at hSw); go_simp; try with_reducible rfl)
                ((try simp only [Act.put]); (try simp only [List.setIfInBounds_toArray]); (try simp only [List.set_cons_succ]); (try simp only [List.set_cons_zero]))
                refine wpAnyH_take (i := 5) (oi := { dst := some 138, op := Op.move (Operand.tmp 15), type := 32, pos := "law.go:196", after := #[], guard := none }) (v := ?_) rfl (by kernel_rfl) (by kernel_rfl) (by kernel_rfl) (fun _ _ _ h => h) (Or.inl ⟨by rfl, ?_⟩) (by assumption) ?_
                rotate_left
                · (intro w hSw; (try dsimp only at hSw); go_simp; try with_reducible rfl)
                ((try simp only [Act.put]); (try simp only [List.setIfInBounds_toArray]); (try simp only [List.set_cons_succ]); (try simp only [List.set_cons_zero]))
                refine wpAnyH_ready (rs := [4, 6]) (by kernel_rfl) (by simp) ?_
                refine AllReadyH.cons (o := { dst := some 137, op := Op.convert 32 9 (Operand.tmp 136), type := 9, pos := "law.go:196", after := #[{ on := 3, ground := Ground.data }], guard := none }) rfl (fun K hK => ?_) (AllReadyH.cons (o := { dst := some 139, op := Op.convert 32 9 (Operand.tmp 138), type := 9, pos := "law.go:196", after := #[{ on := 5, ground := Ground.data }], guard := none }) rfl (fun K hK => ?_) AllReadyH.nil)
                · skip
                  have cv := CV1.out
                  go_simp
                  clear cv
                  try go_wp2_with fail
                  refine hK.out _ _ ?_ (fun hNew => ?_)
                  · exact hHeld
                  clear hK K
                  replace hHeld := hNew
                  clear hNew
                  ((try simp only [Act.put]); (try simp only [List.setIfInBounds_toArray]); (try simp only [List.set_cons_succ]); (try simp only [List.set_cons_zero]))
                  refine wpAnyH_ready (rs := [6]) (by kernel_rfl) (by simp) ?_
                  refine AllReadyH.cons (o := { dst := some 139, op := Op.convert 32 9 (Operand.tmp 138), type := 9, pos := "law.go:196", after := #[{ on := 5, ground := Ground.data }], guard := none }) rfl (fun K hK => ?_) AllReadyH.nil
                  have cv := CV2.out
                  go_simp
                  clear cv
                  try go_wp2_with fail
                  refine hK.out _ _ ?_ (fun hNew => ?_)
                  · exact hHeld
                  clear hK K
                  replace hHeld := hNew
                  clear hNew
                  ((try simp only [Act.put]); (try simp only [List.setIfInBounds_toArray]); (try simp only [List.set_cons_succ]); (try simp only [List.set_cons_zero]))
                  refine wpAnyH_take (i := 7) (oi := { dst := some 140, op := Op.binOp BinOp.neq 9 (Operand.tmp 137) (Operand.tmp 139) 9, type := 4, pos := "law.go:196", after := #[{ on := 4, ground := Ground.data }, { on := 6, ground := Ground.data }], guard := none }) (v := ?_) rfl (by kernel_rfl) (by kernel_rfl) (by kernel_rfl) (fun _ _ _ h => h) (Or.inl ⟨by rfl, ?_⟩) (by assumption) ?_
                  rotate_left
                  · (intro w hSw; (try dsimp only at hSw); go_simp; try with_reducible rfl)
                  ((try simp only [Act.put]); (try simp only [List.setIfInBounds_toArray]); (try simp only [List.set_cons_succ]); (try simp only [List.set_cons_zero]))
                  refine wpAnyH_done (by kernel_rfl) ?_ _
                  refine NoPanic.normal ?_
                  clear hHeld CV1 CV2
                  have O7 := Lib.hid (O6.out.below (stb_eng (stb_den (stb_byx (stb_cx (stb_tl (stb_bq stb_emp)))))) (drew_below wr))
                  clear O6
                  generalize wr.drew = w9 at *
                  have hb9 : Below w9.heap.size w9 (w9.alloc (.cells #[.slice ra Ls.length rc] 32)) := box_b w9 (.cells #[.slice ra Ls.length rc] 32)
                  have O9 := Lib.hid (O7.out.below (stb_eng (stb_den (stb_byx (stb_cx (stb_tl (stb_bq stb_emp)))))) hb9)
                  have hc5 := Lib.hid (cell_go hc hb9)
                  clear hb9
                  have NX := Lib.hid (fun (v6 : Value) (w6 : World) (hown : w6.ownsRow 0 32 1 v6 (T2.length + 1) (T2.map rdV ++ [.slice ra Ls.length rc])) (hgr : (w9.alloc (.cells #[.slice ra Ls.length rc] 32)).grownBy w6 (Value.slice la2 T2.length lc2).ownBlock) (hat : ∀ j, v6.ownBlock = some j → (Value.slice la2 T2.length lc2).ownBlock = some j ∨ (w9.alloc (.cells #[.slice ra Ls.length rc] 32)).heap.size ≤ j) =>
                    show On W (Eng p e2 (Den q e2 (Byx a5 c5 Ls (Cx px [.int .i64 xo, .int .i64 xf, .int .i64 xp, .int .u64 (xt : Int), .slice xsa xsl xsc] (Tl v6 (T2 ++ [⟨ra, rc, Ls⟩]) (Bq (some ⟨b, off, none⟩) c4 cn (List.replicate cn Ls) Emp)))))) w6 from by
                      have kk : Keep (fun j => (Value.slice la2 T2.length lc2).ownBlock = some j) (w9.alloc (.cells #[.slice ra Ls.length rc] 32)) w6 := (Keep.refl _ _).grown hgr (fun j h => Or.inl h)
                      have hu := upd_tl (L := T2) (cap := c4) (n := cn) (m := List.replicate cn Ls) (R := Emp) stb_emp (i := t) htl rfl (by rw [hg.out]; exact hc5.out) hgr (by rw [hg.out]; exact hown) hat
                      rw [hg.out] at hu
                      exact O9.out.upd kk (upd_eng kk (upd_den kk (upd_byx kk (upd_cx kk hu)))) (fun j e => Or.inl (LO2.out j e)))
                  have OW := Lib.hid (show (w9.alloc (.cells #[.slice ra Ls.length rc] 32)).ownsRow 0 32 1 (.slice la2 T2.length lc2) T2.length (T2.map rdV) from by
                    obtain ⟨A9, -, hT9, -⟩ := O9.out.tl5
                    exact hT9.1)
                  clear O7 O9 hc5
                  go_wp2_with (at_builtin
                               refine wpList_append_at rfl (.tmp 141) (.tmp 146) 27 rfl 0 32 ti (.slice none 0 0) 1 24 Try.underlying27 hi0 hz0 hz1 hz2 rfl (by decide) (.slice la2 T2.length lc2) T2.length (T2.map rdV) rfl OW.out _ _ _ [.slice ra Ls.length rc] rfl ?h2 ?h3 ?h4 ?h5 ?h6 ?h7 ?h8 ?_
                               case h2 => rfl
                               case h3 => intro e; cases e
                               case h4 => exact lit_cell _ _ _
                               case h5 => intro u' hu; (rw [List.mem_singleton.1 hu]; rfl)
                               case h6 => have := HT2.out; unfold maxLen; omega
                               case h7 => have := HT2.out; omega
                               case h8 => exact Nat.zero_le _
                               intro v6 w6 hown6 hgr6 hat6
                               have O10 := Lib.hid (NX.out v6 w6 hown6 hgr6 hat6)
                               clear hown6 hgr6 hat6)
                  go_roundw
                  case rel => exact ⟨t + 1, _, by omega, by go_num, by have := HT2.out; simp; omega, fun r hr => (List.mem_append.1 hr).elim (HTL2.out r) (fun h => by rw [List.mem_singleton.1 h]; exact LSL.out), O10.out⟩
                  case measure => simp only [intOf]; omega
                · skip
                  have cv := CV2.out
                  go_simp
                  clear cv
                  try go_wp2_with fail
                  refine hK.out _ _ ?_ (fun hNew => ?_)
                  · exact hHeld
                  clear hK K
                  replace hHeld := hNew
                  clear hNew
                  ((try simp only [Act.put]); (try simp only [List.setIfInBounds_toArray]); (try simp only [List.set_cons_succ]); (try simp only [List.set_cons_zero]))
                  refine wpAnyH_ready (rs := [4]) (by kernel_rfl) (by simp) ?_
                  refine AllReadyH.cons (o := { dst := some 137, op := Op.convert 32 9 (Operand.tmp 136), type := 9, pos := "law.go:196", after := #[{ on := 3, ground := Ground.data }], guard := none }) rfl (fun K hK => ?_) AllReadyH.nil
                  have cv := CV1.out
                  go_simp
                  clear cv
                  try go_wp2_with fail
                  refine hK.out _ _ ?_ (fun hNew => ?_)
                  · exact hHeld
                  clear hK K
                  replace hHeld := hNew
                  clear hNew
                  ((try simp only [Act.put]); (try simp only [List.setIfInBounds_toArray]); (try simp only [List.set_cons_succ]); (try simp only [List.set_cons_zero]))
                  refine wpAnyH_take (i := 7) (oi := { dst := some 140, op := Op.binOp BinOp.neq 9 (Operand.tmp 137) (Operand.tmp 139) 9, type := 4, pos := "law.go:196", after := #[{ on := 4, ground := Ground.data }, { on := 6, ground := Ground.data }], guard := none }) (v := ?_) rfl (by kernel_rfl) (by kernel_rfl) (by kernel_rfl) (fun _ _ _ h => h) (Or.inl ⟨by rfl, ?_⟩) (by assumption) ?_
                  rotate_left
                  · (intro w hSw; (try dsimp only at hSw); go_simp; try with_reducible rfl)
                  ((try simp only [Act.put]); (try simp only [List.setIfInBounds_toArray]); (try simp only [List.set_cons_succ]); (try simp only [List.set_cons_zero]))
                  refine wpAnyH_done (by kernel_rfl) ?_ _
                  refine NoPanic.normal ?_
                  clear hHeld CV1 CV2
                  have O7 := Lib.hid (O6.out.below (stb_eng (stb_den (stb_byx (stb_cx (stb_tl (stb_bq stb_emp)))))) (drew_below wr))
                  clear O6
                  generalize wr.drew = w9 at *
                  have hb9 : Below w9.heap.size w9 (w9.alloc (.cells #[.slice ra Ls.length rc] 32)) := box_b w9 (.cells #[.slice ra Ls.length rc] 32)
                  have O9 := Lib.hid (O7.out.below (stb_eng (stb_den (stb_byx (stb_cx (stb_tl (stb_bq stb_emp)))))) hb9)
                  have hc5 := Lib.hid (cell_go hc hb9)
                  clear hb9
                  have NX := Lib.hid (fun (v6 : Value) (w6 : World) (hown : w6.ownsRow 0 32 1 v6 (T2.length + 1) (T2.map rdV ++ [.slice ra Ls.length rc])) (hgr : (w9.alloc (.cells #[.slice ra Ls.length rc] 32)).grownBy w6 (Value.slice la2 T2.length lc2).ownBlock) (hat : ∀ j, v6.ownBlock = some j → (Value.slice la2 T2.length lc2).ownBlock = some j ∨ (w9.alloc (.cells #[.slice ra Ls.length rc] 32)).heap.size ≤ j) =>
                    show On W (Eng p e2 (Den q e2 (Byx a5 c5 Ls (Cx px [.int .i64 xo, .int .i64 xf, .int .i64 xp, .int .u64 (xt : Int), .slice xsa xsl xsc] (Tl v6 (T2 ++ [⟨ra, rc, Ls⟩]) (Bq (some ⟨b, off, none⟩) c4 cn (List.replicate cn Ls) Emp)))))) w6 from by
                      have kk : Keep (fun j => (Value.slice la2 T2.length lc2).ownBlock = some j) (w9.alloc (.cells #[.slice ra Ls.length rc] 32)) w6 := (Keep.refl _ _).grown hgr (fun j h => Or.inl h)
                      have hu := upd_tl (L := T2) (cap := c4) (n := cn) (m := List.replicate cn Ls) (R := Emp) stb_emp (i := t) htl rfl (by rw [hg.out]; exact hc5.out) hgr (by rw [hg.out]; exact hown) hat
                      rw [hg.out] at hu
                      exact O9.out.upd kk (upd_eng kk (upd_den kk (upd_byx kk (upd_cx kk hu)))) (fun j e => Or.inl (LO2.out j e)))
                  have OW := Lib.hid (show (w9.alloc (.cells #[.slice ra Ls.length rc] 32)).ownsRow 0 32 1 (.slice la2 T2.length lc2) T2.length (T2.map rdV) from by
                    obtain ⟨A9, -, hT9, -⟩ := O9.out.tl5
                    exact hT9.1)
                  clear O7 O9 hc5
                  go_wp2_with (at_builtin
                               refine wpList_append_at rfl (.tmp 141) (.tmp 146) 27 rfl 0 32 ti (.slice none 0 0) 1 24 Try.underlying27 hi0 hz0 hz1 hz2 rfl (by decide) (.slice la2 T2.length lc2) T2.length (T2.map rdV) rfl OW.out _ _ _ [.slice ra Ls.length rc] rfl ?h2 ?h3 ?h4 ?h5 ?h6 ?h7 ?h8 ?_
                               case h2 => rfl
                               case h3 => intro e; cases e
                               case h4 => exact lit_cell _ _ _
                               case h5 => intro u' hu; (rw [List.mem_singleton.1 hu]; rfl)
                               case h6 => have := HT2.out; unfold maxLen; omega
                               case h7 => have := HT2.out; omega
                               case h8 => exact Nat.zero_le _
                               intro v6 w6 hown6 hgr6 hat6
                               have O10 := Lib.hid (NX.out v6 w6 hown6 hgr6 hat6)
                               clear hown6 hgr6 hat6)
                  go_roundw
                  case rel => exact ⟨t + 1, _, by omega, by go_num, by have := HT2.out; simp; omega, fun r hr => (List.mem_append.1 hr).elim (HTL2.out r) (fun h => by rw [List.mem_singleton.1 h]; exact LSL.out), O10.out⟩
                  case measure => simp only [intOf]; omega
              · obtain rfl : t = cn := by omega
                have dkk : decide ((t : Int) < (t : Int)) = false := decide_eq_false (by omega)
                have O8 := Lib.hid (O6.out.mono (fun _ _ => eng_drop (den_drop2 (fun A w h => cx_drop (tl_drop bq_drop) A w (byx_gone (stb_cx (stb_tl (stb_bq stb_emp))) A w h)))))
                have C9 := Lib.hid (show T2.length ≤ 64 * (k + 1) from by have := C64.out; omega)
                have HT9 := HTL2
                clear O6
                obtain ⟨sa, sc, ga, gc, q2, q3, qs, qg⟩ := (O8.out.mono (fun _ _ => den_swap (stb_cx (stb_tl stb_emp)))).den
                have QV := Lib.hid qs
                have GV := Lib.hid qg
                have OK2 := Lib.hid O8.out.ok
                have GL := Lib.hid OK2.out.G
                clear qs qg
                go_upto_region 36 with fail
                refine wp_region_noPanic ?_
                refine wp_region_held_drew (S := (fun w' => w'.cell? ⟨q, 2, none⟩ = some (.slice sa e2.n sc) ∧ w'.cell? ⟨q, 3, none⟩ = some (.slice ga e2.n gc) ∧ Hid (Below wr.heap.size wr w'))) (by kernel_rfl) ?_ (fun hHeld => ?_)
                · exact ⟨q2, q3, Lib.hid (drew_below wr)⟩
                refine wpAnyH_take (i := 0) (oi := { dst := some 165, op := Op.move (Operand.tmp 7), type := 23, pos := "law.go:210", after := #[], guard := none }) (v := ?_) rfl (by kernel_rfl) (by kernel_rfl) (by kernel_rfl) (fun _ _ _ h => h) (Or.inl ⟨by rfl, ?_⟩) (by assumption) ?_
                rotate_left
                · (intro w hSw; (try dsimp only at hSw); go_simp; try with_reducible rfl)
                ((try simp only [Act.put]); (try simp only [List.setIfInBounds_toArray]); (try simp only [List.set_cons_succ]); (try simp only [List.set_cons_zero]))
                refine wpAnyH_take (i := 2) (oi := { dst := some 167, op := Op.move (Operand.tmp 9), type := 48, pos := "law.go:210", after := #[], guard := none }) (v := ?_) rfl (by kernel_rfl) (by kernel_rfl) (by kernel_rfl) (fun _ _ _ h => h) (Or.inl ⟨by rfl, ?_⟩) (by assumption) ?_
                rotate_left
                · (intro w hSw; (try dsimp only at hSw); go_simp; try with_reducible rfl)
                ((try simp only [Act.put]); (try simp only [List.setIfInBounds_toArray]); (try simp only [List.set_cons_succ]); (try simp only [List.set_cons_zero]))
                refine wpAnyH_take (i := 3) (oi := { dst := some 168, op := Op.nilCheck (Operand.tmp 167), type := 0, pos := "law.go:210", after := #[{ on := 2, ground := Ground.data }], guard := none }) (v := ?_) rfl (by kernel_rfl) (by kernel_rfl) (by kernel_rfl) (fun _ _ _ h => h) (Or.inl ⟨by rfl, ?_⟩) (by assumption) ?_
                rotate_left
                · (intro w hSw; (try dsimp only at hSw); go_simp; try with_reducible rfl)
                ((try simp only [Act.put]); (try simp only [List.setIfInBounds_toArray]); (try simp only [List.set_cons_succ]); (try simp only [List.set_cons_zero]))
                refine wpAnyH_take (i := 4) (oi := { dst := some 169, op := Op.fieldAddr 57 (Operand.tmp 168) 3, type := 0, pos := "law.go:210", after := #[{ on := 3, ground := Ground.data }], guard := none }) (v := ?_) rfl (by kernel_rfl) (by kernel_rfl) (by kernel_rfl) (fun _ _ _ h => h) (Or.inl ⟨by rfl, ?_⟩) (by assumption) ?_
                rotate_left
                · (intro w hSw; (try dsimp only at hSw); go_simp; try with_reducible rfl)
                ((try simp only [Act.put]); (try simp only [List.setIfInBounds_toArray]); (try simp only [List.set_cons_succ]); (try simp only [List.set_cons_zero]))
                refine wpAnyH_take (i := 5) (oi := { dst := some 170, op := Op.load 41 (Operand.tmp 169), type := 41, pos := "law.go:210", after := #[{ on := 4, ground := Ground.data }], guard := none }) (v := ?_) rfl (by kernel_rfl) (by kernel_rfl) (by kernel_rfl) (fun _ _ _ h => h) (Or.inl ⟨by rfl, ?_⟩) (by assumption) ?_
                rotate_left
                · (intro w hSw; (try dsimp only at hSw); go_simp; try with_reducible rfl)
                ((try simp only [Act.put]); (try simp only [List.setIfInBounds_toArray]); (try simp only [List.set_cons_succ]); (try simp only [List.set_cons_zero]))
                refine wpAnyH_ready (rs := [1]) (by kernel_rfl) (by simp) ?_
                refine AllReadyH.cons (o := { dst := some 166, op := Op.call { callee := Callee.value (Operand.func 16), args := #[Operand.tmp 165], argTypes := #[23] }, type := 42, pos := "law.go:210", after := #[{ on := 0, ground := Ground.data }], guard := none }) rfl (fun K hK => ?_) AllReadyH.nil
                go_simp
                refine (on_got (g := e2.G) (stb_den (stb_cx (stb_tl stb_emp))) (O8.out.below (stb_eng (stb_den (stb_cx (stb_tl stb_emp)))) (Hid.out hHeld.2.2)) rfl).mono ?_
                rintro x w10 ⟨a10, c10, rfl, h10, hb⟩
                have G10 := Lib.hid h10.sl
                clear h10
                try go_wp2_with fail
                refine hK.out _ _ ?_ (fun hNew => ?_)
                · first | exact hHeld | exact ⟨cell_go hHeld.1 hb, cell_go hHeld.2.1 hb, Lib.hid ((Hid.out hHeld.2.2).trans (hb.mono (Hid.out hHeld.2.2).size))⟩
                clear hK K
                replace hHeld := hNew
                clear hNew
                ((try simp only [Act.put]); (try simp only [List.setIfInBounds_toArray]); (try simp only [List.set_cons_succ]); (try simp only [List.set_cons_zero]))
                refine wpAnyH_ready (rs := [6]) (by kernel_rfl) (by simp) ?_
                refine AllReadyH.cons (o := { dst := some 171, op := Op.call { callee := Callee.value (Operand.func 15), args := #[Operand.tmp 166, Operand.tmp 170], argTypes := #[41, 41] }, type := 4, pos := "law.go:210", after := #[{ on := 1, ground := Ground.data }, { on := 5, ground := Ground.data }, { on := 1, ground := Ground.chain }], guard := none }) rfl (fun K hK => ?_) AllReadyH.nil
                go_simp
                refine (longs_any (r := true) G10.out (GV.out.below (Hid.out hHeld.2.2)) GL.out GL.out (decide_eq_true rfl)).mono ?_
                rintro x w5 ⟨rfl, n5, hw⟩
                have hb := drew_b hw
                clear hw
                try go_wp2_with fail
                refine hK.out _ _ ?_ (fun hNew => ?_)
                · first | exact hHeld | exact ⟨cell_go hHeld.1 hb, cell_go hHeld.2.1 hb, Lib.hid ((Hid.out hHeld.2.2).trans (hb.mono (Hid.out hHeld.2.2).size))⟩
                clear hK K
                replace hHeld := hNew
                clear hNew
                ((try simp only [Act.put]); (try simp only [List.setIfInBounds_toArray]); (try simp only [List.set_cons_succ]); (try simp only [List.set_cons_zero]))
                refine wpAnyH_take (i := 7) (oi := { dst := some 172, op := Op.unOp UnOp.not 4 (Operand.tmp 171), type := 4, pos := "law.go:210", after := #[{ on := 6, ground := Ground.data }], guard := none }) (v := ?_) rfl (by kernel_rfl) (by kernel_rfl) (by kernel_rfl) (fun _ _ _ h => h) (Or.inl ⟨by rfl, ?_⟩) (by assumption) ?_
                rotate_left
                · (intro w hSw; (try dsimp only at hSw); go_simp; try with_reducible rfl)
                ((try simp only [Act.put]); (try simp only [List.setIfInBounds_toArray]); (try simp only [List.set_cons_succ]); (try simp only [List.set_cons_zero]))
                refine wpAnyH_take (i := 8) (oi := { dst := some 173, op := Op.move (Operand.tmp 172), type := 4, pos := "law.go:210", after := #[{ on := 7, ground := Ground.data }, { on := 6, ground := Ground.chain }], guard := none }) (v := ?_) rfl (by kernel_rfl) (by kernel_rfl) (by kernel_rfl) (fun _ _ _ h => h) (Or.inl ⟨by rfl, ?_⟩) (by assumption) ?_
                rotate_left
                · (intro w hSw; (try dsimp only at hSw); go_simp; try with_reducible rfl)
                ((try simp only [Act.put]); (try simp only [List.setIfInBounds_toArray]); (try simp only [List.set_cons_succ]); (try simp only [List.set_cons_zero]))
                refine wpAnyH_take (i := 9) (oi := { dst := some 174, op := Op.move (Operand.tmp 7), type := 23, pos := "law.go:210", after := #[{ on := 8, ground := Ground.guard }], guard := some (8, false) }) (v := ?_) rfl (by kernel_rfl) (by kernel_rfl) (by kernel_rfl) (fun _ _ _ h => h) (Or.inl ⟨by rfl, ?_⟩) (by assumption) ?_
                rotate_left
                · (intro w hSw; (try dsimp only at hSw); go_simp; try with_reducible rfl)
                ((try simp only [Act.put]); (try simp only [List.setIfInBounds_toArray]); (try simp only [List.set_cons_succ]); (try simp only [List.set_cons_zero]))
                refine wpAnyH_take (i := 12) (oi := { dst := some 177, op := Op.move (Operand.tmp 9), type := 48, pos := "law.go:210", after := #[{ on := 8, ground := Ground.guard }], guard := some (8, false) }) (v := ?_) rfl (by kernel_rfl) (by kernel_rfl) (by kernel_rfl) (fun _ _ _ h => h) (Or.inl ⟨by rfl, ?_⟩) (by assumption) ?_
                rotate_left
                · (intro w hSw; (try dsimp only at hSw); go_simp; try with_reducible rfl)
                ((try simp only [Act.put]); (try simp only [List.setIfInBounds_toArray]); (try simp only [List.set_cons_succ]); (try simp only [List.set_cons_zero]))
                refine wpAnyH_take (i := 13) (oi := { dst := some 178, op := Op.nilCheck (Operand.tmp 177), type := 0, pos := "law.go:210", after := #[{ on := 12, ground := Ground.data }, { on := 8, ground := Ground.guard }], guard := some (8, false) }) (v := ?_) rfl (by kernel_rfl) (by kernel_rfl) (by kernel_rfl) (fun _ _ _ h => h) (Or.inl ⟨by rfl, ?_⟩) (by assumption) ?_
                rotate_left
                · (intro w hSw; (try dsimp only at hSw); go_simp; try with_reducible rfl)
                ((try simp only [Act.put]); (try simp only [List.setIfInBounds_toArray]); (try simp only [List.set_cons_succ]); (try simp only [List.set_cons_zero]))
                refine wpAnyH_take (i := 14) (oi := { dst := some 179, op := Op.fieldAddr 57 (Operand.tmp 178) 2, type := 0, pos := "law.go:210", after := #[{ on := 13, ground := Ground.data }, { on := 8, ground := Ground.guard }], guard := some (8, false) }) (v := ?_) rfl (by kernel_rfl) (by kernel_rfl) (by kernel_rfl) (fun _ _ _ h => h) (Or.inl ⟨by rfl, ?_⟩) (by assumption) ?_
                rotate_left
                · (intro w hSw; (try dsimp only at hSw); go_simp; try with_reducible rfl)
                ((try simp only [Act.put]); (try simp only [List.setIfInBounds_toArray]); (try simp only [List.set_cons_succ]); (try simp only [List.set_cons_zero]))
                refine wpAnyH_take (i := 15) (oi := { dst := some 180, op := Op.load 55 (Operand.tmp 179), type := 55, pos := "law.go:210", after := #[{ on := 14, ground := Ground.data }, { on := 8, ground := Ground.guard }], guard := some (8, false) }) (v := ?_) rfl (by kernel_rfl) (by kernel_rfl) (by kernel_rfl) (fun _ _ _ h => h) (Or.inl ⟨by rfl, ?_⟩) (by assumption) ?_
                rotate_left
                · (intro w hSw; (try dsimp only at hSw); go_simp; try with_reducible rfl)
                ((try simp only [Act.put]); (try simp only [List.setIfInBounds_toArray]); (try simp only [List.set_cons_succ]); (try simp only [List.set_cons_zero]))
                refine wpAnyH_ready (rs := [10]) (by kernel_rfl) (by simp) ?_
                refine AllReadyH.cons (o := { dst := some 175, op := Op.call { callee := Callee.value (Operand.func 18), args := #[Operand.tmp 174], argTypes := #[23] }, type := 37, pos := "law.go:210", after := #[{ on := 9, ground := Ground.data }, { on := 8, ground := Ground.chain }, { on := 8, ground := Ground.guard }], guard := some (8, false) }) rfl (fun K hK => ?_) AllReadyH.nil
                go_simp
                refine (on_sent (m := e2.S) (stb_den (stb_cx (stb_tl stb_emp))) (O8.out.below (stb_eng (stb_den (stb_cx (stb_tl stb_emp)))) (Hid.out hHeld.2.2)) rfl).mono ?_
                rintro x w11 ⟨a11, c11, rfl, h11, hb⟩
                have Q11 := Lib.hid h11.sq
                clear h11
                try go_wp2_with fail
                refine hK.out _ _ ?_ (fun hNew => ?_)
                · first | exact hHeld | exact ⟨cell_go hHeld.1 hb, cell_go hHeld.2.1 hb, Lib.hid ((Hid.out hHeld.2.2).trans (hb.mono (Hid.out hHeld.2.2).size))⟩
                clear hK K
                replace hHeld := hNew
                clear hNew
                ((try simp only [Act.put]); (try simp only [List.setIfInBounds_toArray]); (try simp only [List.set_cons_succ]); (try simp only [List.set_cons_zero]))
                refine wpAnyH_ready (rs := [11]) (by kernel_rfl) (by simp) ?_
                refine AllReadyH.cons (o := { dst := some 176, op := Op.call { callee := Callee.value (Operand.func 25), args := #[Operand.tmp 175], argTypes := #[37] }, type := 55, pos := "law.go:210", after := #[{ on := 10, ground := Ground.data }, { on := 10, ground := Ground.chain }, { on := 8, ground := Ground.guard }], guard := some (8, false) }) rfl (fun K hK => ?_) AllReadyH.nil
                go_simp
                refine (rows_at (e2.n : Int) Q11.out (by have := OK2.out.n2; omega)).mono ?_
                rintro x w12 ⟨a12, c12, rfl, h12⟩
                have hb := h12.2
                have R12 := Lib.hid h12.1
                clear h12
                try go_wp2_with fail
                refine hK.out _ _ ?_ (fun hNew => ?_)
                · first | exact hHeld | exact ⟨cell_go hHeld.1 hb, cell_go hHeld.2.1 hb, Lib.hid ((Hid.out hHeld.2.2).trans (hb.mono (Hid.out hHeld.2.2).size))⟩
                clear hK K
                replace hHeld := hNew
                clear hNew
                ((try simp only [Act.put]); (try simp only [List.setIfInBounds_toArray]); (try simp only [List.set_cons_succ]); (try simp only [List.set_cons_zero]))
                refine wpAnyH_ready (rs := [16]) (by kernel_rfl) (by simp) ?_
                refine AllReadyH.cons (o := { dst := some 181, op := Op.call { callee := Callee.value (Operand.func 24), args := #[Operand.tmp 176, Operand.tmp 180], argTypes := #[55, 55] }, type := 4, pos := "law.go:210", after := #[{ on := 11, ground := Ground.data }, { on := 15, ground := Ground.data }, { on := 11, ground := Ground.chain }, { on := 8, ground := Ground.guard }], guard := some (8, false) }) rfl (fun K hK => ?_) AllReadyH.nil
                go_simp
                refine (squares_at (r := true) R12.out (QV.out.below (Hid.out hHeld.2.2)) (decide_eq_true rfl)).mono ?_
                rintro x w13 ⟨rfl, n13, hw⟩
                have hb := drew_b hw
                clear hw
                try go_wp2_with fail
                refine hK.out _ _ ?_ (fun hNew => ?_)
                · first | exact hHeld | exact ⟨cell_go hHeld.1 hb, cell_go hHeld.2.1 hb, Lib.hid ((Hid.out hHeld.2.2).trans (hb.mono (Hid.out hHeld.2.2).size))⟩
                clear hK K
                replace hHeld := hNew
                clear hNew
                ((try simp only [Act.put]); (try simp only [List.setIfInBounds_toArray]); (try simp only [List.set_cons_succ]); (try simp only [List.set_cons_zero]))
                refine wpAnyH_take (i := 17) (oi := { dst := some 182, op := Op.unOp UnOp.not 4 (Operand.tmp 181), type := 4, pos := "law.go:210", after := #[{ on := 16, ground := Ground.data }, { on := 8, ground := Ground.guard }], guard := some (8, false) }) (v := ?_) rfl (by kernel_rfl) (by kernel_rfl) (by kernel_rfl) (fun _ _ _ h => h) (Or.inl ⟨by rfl, ?_⟩) (by assumption) ?_
                rotate_left
                · (intro w hSw; (try dsimp only at hSw); go_simp; try with_reducible rfl)
                ((try simp only [Act.put]); (try simp only [List.setIfInBounds_toArray]); (try simp only [List.set_cons_succ]); (try simp only [List.set_cons_zero]))
                refine wpAnyH_take (i := 18) (oi := { dst := some 183, op := Op.pick (Operand.tmp 173) (Operand.const (Value.bool true)) (Operand.tmp 182), type := 4, pos := "law.go:210", after := #[{ on := 8, ground := Ground.data }, { on := 17, ground := Ground.data }], guard := none }) (v := ?_) rfl (by kernel_rfl) (by kernel_rfl) (by kernel_rfl) (fun _ _ _ h => h) (Or.inl ⟨by rfl, ?_⟩) (by assumption) ?_
                rotate_left
                · (intro w hSw; (try dsimp only at hSw); go_simp; try with_reducible rfl)
                ((try simp only [Act.put]); (try simp only [List.setIfInBounds_toArray]); (try simp only [List.set_cons_succ]); (try simp only [List.set_cons_zero]))
                refine wpAnyH_done (by kernel_rfl) ?_ _
                refine NoPanic.normal ?_
                have OF := Lib.hid ((O8.out.below (stb_eng (stb_den (stb_cx (stb_tl stb_emp)))) (Hid.out hHeld.2.2)).mono (fun _ _ => eng_drop (den_drop2 (cx_gone (stb_tl stb_emp)))))
                go_wp2_with fail
                go_roundw
                case rel => exact ⟨k + 1, e2, T2, by omega, by go_num, N2.out.1, N2.out.2, C9.out, HT9.out, OF.out⟩
                case measure => simp only [intOf]; omega
        · have do1 : (xo == 0) = false := by simpa using ho
          clear ho
          by_cases ho : xo = 1
          · have do2 : (xo == 1) = true := by simpa using ho
            clear ho
            as_aux_lemma =>
              obtain ⟨r, hr⟩ : ∃ r, canE e xf xsb = r := ⟨_, rfl⟩
              have CR := Lib.hid hr
              clear hr
              obtain ⟨e2, he2⟩ : ∃ e2, takeE e xf xt xsb = e2 := ⟨_, rfl⟩
              have E2 := Lib.hid he2
              clear he2
              go_upto_region 34 with fail
              generalize wr.alloc (.cells #[.int .i64 xo, .int .i64 xf, .int .i64 xp, .int .u64 (xt : Int), .slice xsa xsl xsc] 51) = w3 at *
              generalize wr.heap.size = px at *
              have SB := Lib.hid (show ∀ (w' : World) (e1 d1 : En), On W (Eng p e1 (Den q d1 (Cx px [.int .i64 xo, .int .i64 xf, .int .i64 xp, .int .u64 (xt : Int), .slice xsa xsl xsc] (Tl (.slice la T.length lc) T Emp)))) w' → SlAt bV 256 w' xsa xsc xsb from fun w' e1 d1 h => SB0.out.below h.1)
              have O3d := Lib.hid (O3.out.below (stb_eng (stb_den (stb_cx (stb_tl stb_emp)))) (drew_below w3))
              have t1 : w3.drew.cell? ⟨px, 1, none⟩ = some (.int .i64 xf) := v1
              have t3 : w3.drew.cell? ⟨px, 3, none⟩ = some (.int .u64 (xt : Int)) := v3
              clear v0 v1 v2 v3 v4 O3
              refine wp_region_noPanic ?_
              refine wp_region_held_drew (S := (fun w' => w'.cell? ⟨px, 1, none⟩ = some (.int .i64 xf) ∧ w'.cell? ⟨px, 3, none⟩ = some (.int .u64 (xt : Int)))) (by kernel_rfl) ?_ (fun hHeld => ?_)
              · exact ⟨t1, t3⟩
              refine wpAnyH_take (i := 0) (oi := { dst := some 150, op := Op.move (Operand.tmp 7), type := 23, pos := "law.go:202", after := #[], guard := none }) (v := ?_) rfl (by kernel_rfl) (by kernel_rfl) (by kernel_rfl) (fun _ _ _ h => h) (Or.inl ⟨by rfl, ?_⟩) (by assumption) ?_
              rotate_left
              · (intro w hSw; (try dsimp only at hSw); go_simp; try with_reducible rfl)
              ((try simp only [Act.put]); (try simp only [List.setIfInBounds_toArray]); (try simp only [List.set_cons_succ]); (try simp only [List.set_cons_zero]))
              refine wpAnyH_take (i := 1) (oi := { dst := some 151, op := Op.fieldAddr 51 (Operand.tmp 12) 1, type := 0, pos := "law.go:202", after := #[], guard := none }) (v := ?_) rfl (by kernel_rfl) (by kernel_rfl) (by kernel_rfl) (fun _ _ _ h => h) (Or.inl ⟨by rfl, ?_⟩) (by assumption) ?_
              rotate_left
              · (intro w hSw; (try dsimp only at hSw); go_simp; try with_reducible rfl)
              ((try simp only [Act.put]); (try simp only [List.setIfInBounds_toArray]); (try simp only [List.set_cons_succ]); (try simp only [List.set_cons_zero]))
              refine wpAnyH_take (i := 2) (oi := { dst := some 152, op := Op.load 3 (Operand.tmp 151), type := 3, pos := "law.go:202", after := #[{ on := 1, ground := Ground.data }], guard := none }) (v := ?_) rfl (by kernel_rfl) (by kernel_rfl) (by kernel_rfl) (fun _ _ _ h => h) (Or.inl ⟨by rfl, ?_⟩) (by assumption) ?_
              rotate_left
              · (intro w hSw; (try dsimp only at hSw); go_simp; try with_reducible rfl)
              ((try simp only [Act.put]); (try simp only [List.setIfInBounds_toArray]); (try simp only [List.set_cons_succ]); (try simp only [List.set_cons_zero]))
              refine wpAnyH_take (i := 3) (oi := { dst := some 153, op := Op.fieldAddr 51 (Operand.tmp 12) 3, type := 0, pos := "law.go:202", after := #[], guard := none }) (v := ?_) rfl (by kernel_rfl) (by kernel_rfl) (by kernel_rfl) (fun _ _ _ h => h) (Or.inl ⟨by rfl, ?_⟩) (by assumption) ?_
              rotate_left
              · (intro w hSw; (try dsimp only at hSw); go_simp; try with_reducible rfl)
              ((try simp only [Act.put]); (try simp only [List.setIfInBounds_toArray]); (try simp only [List.set_cons_succ]); (try simp only [List.set_cons_zero]))
              refine wpAnyH_take (i := 4) (oi := { dst := some 154, op := Op.load 29 (Operand.tmp 153), type := 29, pos := "law.go:202", after := #[{ on := 3, ground := Ground.data }], guard := none }) (v := ?_) rfl (by kernel_rfl) (by kernel_rfl) (by kernel_rfl) (fun _ _ _ h => h) (Or.inl ⟨by rfl, ?_⟩) (by assumption) ?_
              rotate_left
              · (intro w hSw; (try dsimp only at hSw); go_simp; try with_reducible rfl)
              ((try simp only [Act.put]); (try simp only [List.setIfInBounds_toArray]); (try simp only [List.set_cons_succ]); (try simp only [List.set_cons_zero]))
              refine wpAnyH_take (i := 5) (oi := { dst := some 155, op := Op.move (Operand.tmp 13), type := 32, pos := "law.go:202", after := #[], guard := none }) (v := ?_) rfl (by kernel_rfl) (by kernel_rfl) (by kernel_rfl) (fun _ _ _ h => h) (Or.inl ⟨by rfl, ?_⟩) (by assumption) ?_
              rotate_left
              · (intro w hSw; (try dsimp only at hSw); go_simp; try with_reducible rfl)
              ((try simp only [Act.put]); (try simp only [List.setIfInBounds_toArray]); (try simp only [List.set_cons_succ]); (try simp only [List.set_cons_zero]))
              refine wpAnyH_take (i := 7) (oi := { dst := some 157, op := Op.move (Operand.tmp 9), type := 48, pos := "law.go:202", after := #[], guard := none }) (v := ?_) rfl (by kernel_rfl) (by kernel_rfl) (by kernel_rfl) (fun _ _ _ h => h) (Or.inl ⟨by rfl, ?_⟩) (by assumption) ?_
              rotate_left
              · (intro w hSw; (try dsimp only at hSw); go_simp; try with_reducible rfl)
              ((try simp only [Act.put]); (try simp only [List.setIfInBounds_toArray]); (try simp only [List.set_cons_succ]); (try simp only [List.set_cons_zero]))
              refine wpAnyH_take (i := 8) (oi := { dst := some 158, op := Op.fieldAddr 51 (Operand.tmp 12) 1, type := 0, pos := "law.go:202", after := #[], guard := none }) (v := ?_) rfl (by kernel_rfl) (by kernel_rfl) (by kernel_rfl) (fun _ _ _ h => h) (Or.inl ⟨by rfl, ?_⟩) (by assumption) ?_
              rotate_left
              · (intro w hSw; (try dsimp only at hSw); go_simp; try with_reducible rfl)
              ((try simp only [Act.put]); (try simp only [List.setIfInBounds_toArray]); (try simp only [List.set_cons_succ]); (try simp only [List.set_cons_zero]))
              refine wpAnyH_take (i := 9) (oi := { dst := some 159, op := Op.load 3 (Operand.tmp 158), type := 3, pos := "law.go:202", after := #[{ on := 8, ground := Ground.data }], guard := none }) (v := ?_) rfl (by kernel_rfl) (by kernel_rfl) (by kernel_rfl) (fun _ _ _ h => h) (Or.inl ⟨by rfl, ?_⟩) (by assumption) ?_
              rotate_left
              · (intro w hSw; (try dsimp only at hSw); go_simp; try with_reducible rfl)
              ((try simp only [Act.put]); (try simp only [List.setIfInBounds_toArray]); (try simp only [List.set_cons_succ]); (try simp only [List.set_cons_zero]))
              refine wpAnyH_take (i := 10) (oi := { dst := some 160, op := Op.fieldAddr 51 (Operand.tmp 12) 3, type := 0, pos := "law.go:202", after := #[], guard := none }) (v := ?_) rfl (by kernel_rfl) (by kernel_rfl) (by kernel_rfl) (fun _ _ _ h => h) (Or.inl ⟨by rfl, ?_⟩) (by assumption) ?_
              rotate_left
              · (intro w hSw; (try dsimp only at hSw); go_simp; try with_reducible rfl)
              ((try simp only [Act.put]); (try simp only [List.setIfInBounds_toArray]); (try simp only [List.set_cons_succ]); (try simp only [List.set_cons_zero]))
              refine wpAnyH_take (i := 11) (oi := { dst := some 161, op := Op.load 29 (Operand.tmp 160), type := 29, pos := "law.go:202", after := #[{ on := 10, ground := Ground.data }], guard := none }) (v := ?_) rfl (by kernel_rfl) (by kernel_rfl) (by kernel_rfl) (fun _ _ _ h => h) (Or.inl ⟨by rfl, ?_⟩) (by assumption) ?_
              rotate_left
              · (intro w hSw; (try dsimp only at hSw); go_simp; try with_reducible rfl)
              ((try simp only [Act.put]); (try simp only [List.setIfInBounds_toArray]); (try simp only [List.set_cons_succ]); (try simp only [List.set_cons_zero]))
              refine wpAnyH_take (i := 12) (oi := { dst := some 162, op := Op.move (Operand.tmp 13), type := 32, pos := "law.go:202", after := #[], guard := none }) (v := ?_) rfl (by kernel_rfl) (by kernel_rfl) (by kernel_rfl) (fun _ _ _ h => h) (Or.inl ⟨by rfl, ?_⟩) (by assumption) ?_
              rotate_left
              · (intro w hSw; (try dsimp only at hSw); go_simp; try with_reducible rfl)
              ((try simp only [Act.put]); (try simp only [List.setIfInBounds_toArray]); (try simp only [List.set_cons_succ]); (try simp only [List.set_cons_zero]))
              refine wpAnyH_ready (rs := [6]) (by kernel_rfl) (by simp) ?_
              refine AllReadyH.cons (o := { dst := some 156, op := Op.call { callee := Callee.value (Operand.func 12), args := #[Operand.tmp 150, Operand.tmp 152, Operand.const (Value.int IntKind.u64 1), Operand.tmp 154, Operand.tmp 155], argTypes := #[23, 3, 29, 30, 32] }, type := 4, pos := "law.go:202", after := #[{ on := 0, ground := Ground.data }, { on := 2, ground := Ground.data }, { on := 4, ground := Ground.data }, { on := 5, ground := Ground.data }], guard := none }) rfl (fun K hK => ?_) AllReadyH.nil
              go_simp
              refine (on_take (f := xf) (num := 1) (t := xt) (stb_den (stb_cx (stb_tl stb_emp))) O3d.out TL.out (SB.out _ _ _ O3d.out) BL.out BM.out FO.out CR.out E2.out).mono ?_
              rintro x w4 ⟨rfl, h4⟩
              have O4 := Lib.hid (h4.mono (fun _ _ => den_swap (stb_cx (stb_tl stb_emp))))
              have S4 := Lib.hid (SB.out _ _ _ h4)
              have XC4 := Lib.hid h4.cx
              have u1 := XC4.out.c 1 (by simp)
              have u3 := XC4.out.c 3 (by simp)
              simp at u1 u3
              clear h4
              try go_wp2_with fail
              refine hK.out _ _ ?_ (fun hNew => ?_)
              · first | exact hHeld | exact ⟨u1, u3⟩
              clear hK K
              replace hHeld := hNew
              clear hNew
              ((try simp only [Act.put]); (try simp only [List.setIfInBounds_toArray]); (try simp only [List.set_cons_succ]); (try simp only [List.set_cons_zero]))
              refine wpAnyH_ready (rs := [13]) (by kernel_rfl) (by simp) ?_
              refine AllReadyH.cons (o := { dst := some 163, op := Op.call { callee := Callee.value (Operand.func 22), args := #[Operand.tmp 157, Operand.tmp 159, Operand.tmp 161, Operand.tmp 162], argTypes := #[48, 3, 29, 32] }, type := 4, pos := "law.go:202", after := #[{ on := 7, ground := Ground.data }, { on := 9, ground := Ground.data }, { on := 11, ground := Ground.data }, { on := 12, ground := Ground.data }, { on := 6, ground := Ground.chain }], guard := none }) rfl (fun K hK => ?_) AllReadyH.nil
              go_simp
              refine (on_dtake (f := xf) (t := xt) (stb_eng (stb_cx (stb_tl stb_emp))) O4.out TL.out S4.out BL.out CR.out E2.out).mono ?_
              rintro x w8 ⟨rfl, h8⟩
              have O8 := Lib.hid (h8.mono (fun _ _ => den_back (stb_cx (stb_tl stb_emp))))
              clear h8 O4 S4 XC4
              have XC4 := Lib.hid O8.out.cx
              have u1 := XC4.out.c 1 (by simp)
              have u3 := XC4.out.c 3 (by simp)
              simp at u1 u3
              try go_wp2_with fail
              refine hK.out _ _ ?_ (fun hNew => ?_)
              · first | exact hHeld | exact ⟨u1, u3⟩
              clear hK K
              replace hHeld := hNew
              clear hNew
              ((try simp only [Act.put]); (try simp only [List.setIfInBounds_toArray]); (try simp only [List.set_cons_succ]); (try simp only [List.set_cons_zero]))
              refine wpAnyH_take (i := 14) (oi := { dst := some 164, op := Op.binOp BinOp.neq 4 (Operand.tmp 156) (Operand.tmp 163) 4, type := 4, pos := "law.go:202", after := #[{ on := 6, ground := Ground.data }, { on := 13, ground := Ground.data }], guard := none }) (v := ?_) rfl (by kernel_rfl) (by kernel_rfl) (by kernel_rfl) (fun _ _ _ h => h) (Or.inl ⟨by rfl, ?_⟩) (by assumption) ?_
              rotate_left
              · (intro w hSw; (try dsimp only at hSw); go_simp; try with_reducible rfl)
              ((try simp only [Act.put]); (try simp only [List.setIfInBounds_toArray]); (try simp only [List.set_cons_succ]); (try simp only [List.set_cons_zero]))
              refine wpAnyH_done (by kernel_rfl) ?_ _
              refine NoPanic.normal ?_
              clear u1 u3 XC4 hHeld
              have N2 := Lib.hid (show e2.n = e.n ∧ e2.me = e.me by rw [← E2.out]; exact take_same e xf xt xsb)
              obtain ⟨sa, sc, ga, gc, q2, q3, qs, qg⟩ := (O8.out.mono (fun _ _ => den_swap (stb_cx (stb_tl stb_emp)))).den
              have QV := Lib.hid qs
              have GV := Lib.hid qg
              have OK2 := Lib.hid O8.out.ok
              have GL := Lib.hid OK2.out.G
              clear qs qg
              go_upto_region 36 with fail
              refine wp_region_noPanic ?_
              refine wp_region_held_drew (S := (fun w' => w'.cell? ⟨q, 2, none⟩ = some (.slice sa e2.n sc) ∧ w'.cell? ⟨q, 3, none⟩ = some (.slice ga e2.n gc) ∧ Hid (Below w8.heap.size w8 w'))) (by kernel_rfl) ?_ (fun hHeld => ?_)
              · exact ⟨q2, q3, Lib.hid (drew_below w8)⟩
              refine wpAnyH_take (i := 0) (oi := { dst := some 165, op := Op.move (Operand.tmp 7), type := 23, pos := "law.go:210", after := #[], guard := none }) (v := ?_) rfl (by kernel_rfl) (by kernel_rfl) (by kernel_rfl) (fun _ _ _ h => h) (Or.inl ⟨by rfl, ?_⟩) (by assumption) ?_
              rotate_left
              · (intro w hSw; (try dsimp only at hSw); go_simp; try with_reducible rfl)
              ((try simp only [Act.put]); (try simp only [List.setIfInBounds_toArray]); (try simp only [List.set_cons_succ]); (try simp only [List.set_cons_zero]))
              refine wpAnyH_take (i := 2) (oi := { dst := some 167, op := Op.move (Operand.tmp 9), type := 48, pos := "law.go:210", after := #[], guard := none }) (v := ?_) rfl (by kernel_rfl) (by kernel_rfl) (by kernel_rfl) (fun _ _ _ h => h) (Or.inl ⟨by rfl, ?_⟩) (by assumption) ?_
              rotate_left
              · (intro w hSw; (try dsimp only at hSw); go_simp; try with_reducible rfl)
              ((try simp only [Act.put]); (try simp only [List.setIfInBounds_toArray]); (try simp only [List.set_cons_succ]); (try simp only [List.set_cons_zero]))
              refine wpAnyH_take (i := 3) (oi := { dst := some 168, op := Op.nilCheck (Operand.tmp 167), type := 0, pos := "law.go:210", after := #[{ on := 2, ground := Ground.data }], guard := none }) (v := ?_) rfl (by kernel_rfl) (by kernel_rfl) (by kernel_rfl) (fun _ _ _ h => h) (Or.inl ⟨by rfl, ?_⟩) (by assumption) ?_
              rotate_left
              · (intro w hSw; (try dsimp only at hSw); go_simp; try with_reducible rfl)
              ((try simp only [Act.put]); (try simp only [List.setIfInBounds_toArray]); (try simp only [List.set_cons_succ]); (try simp only [List.set_cons_zero]))
              refine wpAnyH_take (i := 4) (oi := { dst := some 169, op := Op.fieldAddr 57 (Operand.tmp 168) 3, type := 0, pos := "law.go:210", after := #[{ on := 3, ground := Ground.data }], guard := none }) (v := ?_) rfl (by kernel_rfl) (by kernel_rfl) (by kernel_rfl) (fun _ _ _ h => h) (Or.inl ⟨by rfl, ?_⟩) (by assumption) ?_
              rotate_left
              · (intro w hSw; (try dsimp only at hSw); go_simp; try with_reducible rfl)
              ((try simp only [Act.put]); (try simp only [List.setIfInBounds_toArray]); (try simp only [List.set_cons_succ]); (try simp only [List.set_cons_zero]))
              refine wpAnyH_take (i := 5) (oi := { dst := some 170, op := Op.load 41 (Operand.tmp 169), type := 41, pos := "law.go:210", after := #[{ on := 4, ground := Ground.data }], guard := none }) (v := ?_) rfl (by kernel_rfl) (by kernel_rfl) (by kernel_rfl) (fun _ _ _ h => h) (Or.inl ⟨by rfl, ?_⟩) (by assumption) ?_
              rotate_left
              · (intro w hSw; (try dsimp only at hSw); go_simp; try with_reducible rfl)
              ((try simp only [Act.put]); (try simp only [List.setIfInBounds_toArray]); (try simp only [List.set_cons_succ]); (try simp only [List.set_cons_zero]))
              refine wpAnyH_ready (rs := [1]) (by kernel_rfl) (by simp) ?_
              refine AllReadyH.cons (o := { dst := some 166, op := Op.call { callee := Callee.value (Operand.func 16), args := #[Operand.tmp 165], argTypes := #[23] }, type := 42, pos := "law.go:210", after := #[{ on := 0, ground := Ground.data }], guard := none }) rfl (fun K hK => ?_) AllReadyH.nil
              go_simp
              refine (on_got (g := e2.G) (stb_den (stb_cx (stb_tl stb_emp))) (O8.out.below (stb_eng (stb_den (stb_cx (stb_tl stb_emp)))) (Hid.out hHeld.2.2)) rfl).mono ?_
              rintro x w10 ⟨a10, c10, rfl, h10, hb⟩
              have G10 := Lib.hid h10.sl
              clear h10
              try go_wp2_with fail
              refine hK.out _ _ ?_ (fun hNew => ?_)
              · first | exact hHeld | exact ⟨cell_go hHeld.1 hb, cell_go hHeld.2.1 hb, Lib.hid ((Hid.out hHeld.2.2).trans (hb.mono (Hid.out hHeld.2.2).size))⟩
              clear hK K
              replace hHeld := hNew
              clear hNew
              ((try simp only [Act.put]); (try simp only [List.setIfInBounds_toArray]); (try simp only [List.set_cons_succ]); (try simp only [List.set_cons_zero]))
              refine wpAnyH_ready (rs := [6]) (by kernel_rfl) (by simp) ?_
              refine AllReadyH.cons (o := { dst := some 171, op := Op.call { callee := Callee.value (Operand.func 15), args := #[Operand.tmp 166, Operand.tmp 170], argTypes := #[41, 41] }, type := 4, pos := "law.go:210", after := #[{ on := 1, ground := Ground.data }, { on := 5, ground := Ground.data }, { on := 1, ground := Ground.chain }], guard := none }) rfl (fun K hK => ?_) AllReadyH.nil
              go_simp
              refine (longs_any (r := true) G10.out (GV.out.below (Hid.out hHeld.2.2)) GL.out GL.out (decide_eq_true rfl)).mono ?_
              rintro x w5 ⟨rfl, n5, hw⟩
              have hb := drew_b hw
              clear hw
              try go_wp2_with fail
              refine hK.out _ _ ?_ (fun hNew => ?_)
              · first | exact hHeld | exact ⟨cell_go hHeld.1 hb, cell_go hHeld.2.1 hb, Lib.hid ((Hid.out hHeld.2.2).trans (hb.mono (Hid.out hHeld.2.2).size))⟩
              clear hK K
              replace hHeld := hNew
              clear hNew
              ((try simp only [Act.put]); (try simp only [List.setIfInBounds_toArray]); (try simp only [List.set_cons_succ]); (try simp only [List.set_cons_zero]))
              refine wpAnyH_take (i := 7) (oi := { dst := some 172, op := Op.unOp UnOp.not 4 (Operand.tmp 171), type := 4, pos := "law.go:210", after := #[{ on := 6, ground := Ground.data }], guard := none }) (v := ?_) rfl (by kernel_rfl) (by kernel_rfl) (by kernel_rfl) (fun _ _ _ h => h) (Or.inl ⟨by rfl, ?_⟩) (by assumption) ?_
              rotate_left
              · (intro w hSw; (try dsimp only at hSw); go_simp; try with_reducible rfl)
              ((try simp only [Act.put]); (try simp only [List.setIfInBounds_toArray]); (try simp only [List.set_cons_succ]); (try simp only [List.set_cons_zero]))
              refine wpAnyH_take (i := 8) (oi := { dst := some 173, op := Op.move (Operand.tmp 172), type := 4, pos := "law.go:210", after := #[{ on := 7, ground := Ground.data }, { on := 6, ground := Ground.chain }], guard := none }) (v := ?_) rfl (by kernel_rfl) (by kernel_rfl) (by kernel_rfl) (fun _ _ _ h => h) (Or.inl ⟨by rfl, ?_⟩) (by assumption) ?_
              rotate_left
              · (intro w hSw; (try dsimp only at hSw); go_simp; try with_reducible rfl)
              ((try simp only [Act.put]); (try simp only [List.setIfInBounds_toArray]); (try simp only [List.set_cons_succ]); (try simp only [List.set_cons_zero]))
              refine wpAnyH_take (i := 9) (oi := { dst := some 174, op := Op.move (Operand.tmp 7), type := 23, pos := "law.go:210", after := #[{ on := 8, ground := Ground.guard }], guard := some (8, false) }) (v := ?_) rfl (by kernel_rfl) (by kernel_rfl) (by kernel_rfl) (fun _ _ _ h => h) (Or.inl ⟨by rfl, ?_⟩) (by assumption) ?_
              rotate_left
              · (intro w hSw; (try dsimp only at hSw); go_simp; try with_reducible rfl)
              ((try simp only [Act.put]); (try simp only [List.setIfInBounds_toArray]); (try simp only [List.set_cons_succ]); (try simp only [List.set_cons_zero]))
              refine wpAnyH_take (i := 12) (oi := { dst := some 177, op := Op.move (Operand.tmp 9), type := 48, pos := "law.go:210", after := #[{ on := 8, ground := Ground.guard }], guard := some (8, false) }) (v := ?_) rfl (by kernel_rfl) (by kernel_rfl) (by kernel_rfl) (fun _ _ _ h => h) (Or.inl ⟨by rfl, ?_⟩) (by assumption) ?_
              rotate_left
              · (intro w hSw; (try dsimp only at hSw); go_simp; try with_reducible rfl)
              ((try simp only [Act.put]); (try simp only [List.setIfInBounds_toArray]); (try simp only [List.set_cons_succ]); (try simp only [List.set_cons_zero]))
              refine wpAnyH_take (i := 13) (oi := { dst := some 178, op := Op.nilCheck (Operand.tmp 177), type := 0, pos := "law.go:210", after := #[{ on := 12, ground := Ground.data }, { on := 8, ground := Ground.guard }], guard := some (8, false) }) (v := ?_) rfl (by kernel_rfl) (by kernel_rfl) (by kernel_rfl) (fun _ _ _ h => h) (Or.inl ⟨by rfl, ?_⟩) (by assumption) ?_
              rotate_left
              · (intro w hSw; (try dsimp only at hSw); go_simp; try with_reducible rfl)
              ((try simp only [Act.put]); (try simp only [List.setIfInBounds_toArray]); (try simp only [List.set_cons_succ]); (try simp only [List.set_cons_zero]))
              refine wpAnyH_take (i := 14) (oi := { dst := some 179, op := Op.fieldAddr 57 (Operand.tmp 178) 2, type := 0, pos := "law.go:210", after := #[{ on := 13, ground := Ground.data }, { on := 8, ground := Ground.guard }], guard := some (8, false) }) (v := ?_) rfl (by kernel_rfl) (by kernel_rfl) (by kernel_rfl) (fun _ _ _ h => h) (Or.inl ⟨by rfl, ?_⟩) (by assumption) ?_
              rotate_left
              · (intro w hSw; (try dsimp only at hSw); go_simp; try with_reducible rfl)
              ((try simp only [Act.put]); (try simp only [List.setIfInBounds_toArray]); (try simp only [List.set_cons_succ]); (try simp only [List.set_cons_zero]))
              refine wpAnyH_take (i := 15) (oi := { dst := some 180, op := Op.load 55 (Operand.tmp 179), type := 55, pos := "law.go:210", after := #[{ on := 14, ground := Ground.data }, { on := 8, ground := Ground.guard }], guard := some (8, false) }) (v := ?_) rfl (by kernel_rfl) (by kernel_rfl) (by kernel_rfl) (fun _ _ _ h => h) (Or.inl ⟨by rfl, ?_⟩) (by assumption) ?_
              rotate_left
              · (intro w hSw; (try dsimp only at hSw); go_simp; try with_reducible rfl)
              ((try simp only [Act.put]); (try simp only [List.setIfInBounds_toArray]); (try simp only [List.set_cons_succ]); (try simp only [List.set_cons_zero]))
              refine wpAnyH_ready (rs := [10]) (by kernel_rfl) (by simp) ?_
              refine AllReadyH.cons (o := { dst := some 175, op := Op.call { callee := Callee.value (Operand.func 18), args := #[Operand.tmp 174], argTypes := #[23] }, type := 37, pos := "law.go:210", after := #[{ on := 9, ground := Ground.data }, { on := 8, ground := Ground.chain }, { on := 8, ground := Ground.guard }], guard := some (8, false) }) rfl (fun K hK => ?_) AllReadyH.nil
              go_simp
              refine (on_sent (m := e2.S) (stb_den (stb_cx (stb_tl stb_emp))) (O8.out.below (stb_eng (stb_den (stb_cx (stb_tl stb_emp)))) (Hid.out hHeld.2.2)) rfl).mono ?_
              rintro x w11 ⟨a11, c11, rfl, h11, hb⟩
              have Q11 := Lib.hid h11.sq
              clear h11
              try go_wp2_with fail
              refine hK.out _ _ ?_ (fun hNew => ?_)
              · first | exact hHeld | exact ⟨cell_go hHeld.1 hb, cell_go hHeld.2.1 hb, Lib.hid ((Hid.out hHeld.2.2).trans (hb.mono (Hid.out hHeld.2.2).size))⟩
              clear hK K
              replace hHeld := hNew
              clear hNew
              ((try simp only [Act.put]); (try simp only [List.setIfInBounds_toArray]); (try simp only [List.set_cons_succ]); (try simp only [List.set_cons_zero]))
              refine wpAnyH_ready (rs := [11]) (by kernel_rfl) (by simp) ?_
              refine AllReadyH.cons (o := { dst := some 176, op := Op.call { callee := Callee.value (Operand.func 25), args := #[Operand.tmp 175], argTypes := #[37] }, type := 55, pos := "law.go:210", after := #[{ on := 10, ground := Ground.data }, { on := 10, ground := Ground.chain }, { on := 8, ground := Ground.guard }], guard := some (8, false) }) rfl (fun K hK => ?_) AllReadyH.nil
              go_simp
              refine (rows_at (e2.n : Int) Q11.out (by have := OK2.out.n2; omega)).mono ?_
              rintro x w12 ⟨a12, c12, rfl, h12⟩
              have hb := h12.2
              have R12 := Lib.hid h12.1
              clear h12
              try go_wp2_with fail
              refine hK.out _ _ ?_ (fun hNew => ?_)
              · first | exact hHeld | exact ⟨cell_go hHeld.1 hb, cell_go hHeld.2.1 hb, Lib.hid ((Hid.out hHeld.2.2).trans (hb.mono (Hid.out hHeld.2.2).size))⟩
              clear hK K
              replace hHeld := hNew
              clear hNew
              ((try simp only [Act.put]); (try simp only [List.setIfInBounds_toArray]); (try simp only [List.set_cons_succ]); (try simp only [List.set_cons_zero]))
              refine wpAnyH_ready (rs := [16]) (by kernel_rfl) (by simp) ?_
              refine AllReadyH.cons (o := { dst := some 181, op := Op.call { callee := Callee.value (Operand.func 24), args := #[Operand.tmp 176, Operand.tmp 180], argTypes := #[55, 55] }, type := 4, pos := "law.go:210", after := #[{ on := 11, ground := Ground.data }, { on := 15, ground := Ground.data }, { on := 11, ground := Ground.chain }, { on := 8, ground := Ground.guard }], guard := some (8, false) }) rfl (fun K hK => ?_) AllReadyH.nil
              go_simp
              refine (squares_at (r := true) R12.out (QV.out.below (Hid.out hHeld.2.2)) (decide_eq_true rfl)).mono ?_
              rintro x w13 ⟨rfl, n13, hw⟩
              have hb := drew_b hw
              clear hw
              try go_wp2_with fail
              refine hK.out _ _ ?_ (fun hNew => ?_)
              · first | exact hHeld | exact ⟨cell_go hHeld.1 hb, cell_go hHeld.2.1 hb, Lib.hid ((Hid.out hHeld.2.2).trans (hb.mono (Hid.out hHeld.2.2).size))⟩
              clear hK K
              replace hHeld := hNew
              clear hNew
              ((try simp only [Act.put]); (try simp only [List.setIfInBounds_toArray]); (try simp only [List.set_cons_succ]); (try simp only [List.set_cons_zero]))
              refine wpAnyH_take (i := 17) (oi := { dst := some 182, op := Op.unOp UnOp.not 4 (Operand.tmp 181), type := 4, pos := "law.go:210", after := #[{ on := 16, ground := Ground.data }, { on := 8, ground := Ground.guard }], guard := some (8, false) }) (v := ?_) rfl (by kernel_rfl) (by kernel_rfl) (by kernel_rfl) (fun _ _ _ h => h) (Or.inl ⟨by rfl, ?_⟩) (by assumption) ?_
              rotate_left
              · (intro w hSw; (try dsimp only at hSw); go_simp; try with_reducible rfl)
              ((try simp only [Act.put]); (try simp only [List.setIfInBounds_toArray]); (try simp only [List.set_cons_succ]); (try simp only [List.set_cons_zero]))
              refine wpAnyH_take (i := 18) (oi := { dst := some 183, op := Op.pick (Operand.tmp 173) (Operand.const (Value.bool true)) (Operand.tmp 182), type := 4, pos := "law.go:210", after := #[{ on := 8, ground := Ground.data }, { on := 17, ground := Ground.data }], guard := none }) (v := ?_) rfl (by kernel_rfl) (by kernel_rfl) (by kernel_rfl) (fun _ _ _ h => h) (Or.inl ⟨by rfl, ?_⟩) (by assumption) ?_
              rotate_left
              · (intro w hSw; (try dsimp only at hSw); go_simp; try with_reducible rfl)
              ((try simp only [Act.put]); (try simp only [List.setIfInBounds_toArray]); (try simp only [List.set_cons_succ]); (try simp only [List.set_cons_zero]))
              refine wpAnyH_done (by kernel_rfl) ?_ _
              refine NoPanic.normal ?_
              have OF := Lib.hid ((O8.out.below (stb_eng (stb_den (stb_cx (stb_tl stb_emp)))) (Hid.out hHeld.2.2)).mono (fun _ _ => eng_drop (den_drop2 (cx_gone (stb_tl stb_emp)))))
              go_wp2_with fail
              go_roundw
              case rel => exact ⟨k + 1, e2, T, by omega, by go_num, N2.out.1, N2.out.2, by omega, HTL.out, OF.out⟩
              case measure => simp only [intOf]; omega
          · have do2 : (xo == 1) = false := by simpa using ho
            clear ho
            as_aux_lemma =>
              obtain ⟨r, hr⟩ : ∃ r, canE e xf xsb = r := ⟨_, rfl⟩
              have CR := Lib.hid hr
              clear hr
              go_upto_region 20 with fail
              generalize wr.alloc (.cells #[.int .i64 xo, .int .i64 xf, .int .i64 xp, .int .u64 (xt : Int), .slice xsa xsl xsc] 51) = w3 at *
              generalize wr.heap.size = px at *
              have SB := Lib.hid (show ∀ (w' : World) (e1 d1 : En), On W (Eng p e1 (Den q d1 (Cx px [.int .i64 xo, .int .i64 xf, .int .i64 xp, .int .u64 (xt : Int), .slice xsa xsl xsc] (Tl (.slice la T.length lc) T Emp)))) w' → SlAt bV 256 w' xsa xsc xsb from fun w' e1 d1 h => SB0.out.below h.1)
              have O3d := Lib.hid (O3.out.below (stb_eng (stb_den (stb_cx (stb_tl stb_emp)))) (drew_below w3))
              have t1 : w3.drew.cell? ⟨px, 1, none⟩ = some (.int .i64 xf) := v1
              have t3 : w3.drew.cell? ⟨px, 3, none⟩ = some (.int .u64 (xt : Int)) := v3
              clear v0 v1 v2 v3 v4 O3
              refine wp_region_noPanic ?_
              refine wp_region_held_drew (S := (fun w' => w'.cell? ⟨px, 1, none⟩ = some (.int .i64 xf) ∧ w'.cell? ⟨px, 3, none⟩ = some (.int .u64 (xt : Int)))) (by kernel_rfl) ?_ (fun hHeld => ?_)
              · exact ⟨t1, t3⟩
              refine wpAnyH_take (i := 0) (oi := { dst := some 100, op := Op.move (Operand.tmp 7), type := 23, pos := "law.go:206", after := #[], guard := none }) (v := ?_) rfl (by kernel_rfl) (by kernel_rfl) (by kernel_rfl) (fun _ _ _ h => h) (Or.inl ⟨by rfl, ?_⟩) (by assumption) ?_
              rotate_left
              · (intro w hSw; (try dsimp only at hSw); go_simp; try with_reducible rfl)
              ((try simp only [Act.put]); (try simp only [List.setIfInBounds_toArray]); (try simp only [List.set_cons_succ]); (try simp only [List.set_cons_zero]))
              refine wpAnyH_take (i := 1) (oi := { dst := some 101, op := Op.fieldAddr 51 (Operand.tmp 12) 1, type := 0, pos := "law.go:206", after := #[], guard := none }) (v := ?_) rfl (by kernel_rfl) (by kernel_rfl) (by kernel_rfl) (fun _ _ _ h => h) (Or.inl ⟨by rfl, ?_⟩) (by assumption) ?_
              rotate_left
              · (intro w hSw; (try dsimp only at hSw); go_simp; try with_reducible rfl)
              ((try simp only [Act.put]); (try simp only [List.setIfInBounds_toArray]); (try simp only [List.set_cons_succ]); (try simp only [List.set_cons_zero]))
              refine wpAnyH_take (i := 2) (oi := { dst := some 102, op := Op.load 3 (Operand.tmp 101), type := 3, pos := "law.go:206", after := #[{ on := 1, ground := Ground.data }], guard := none }) (v := ?_) rfl (by kernel_rfl) (by kernel_rfl) (by kernel_rfl) (fun _ _ _ h => h) (Or.inl ⟨by rfl, ?_⟩) (by assumption) ?_
              rotate_left
              · (intro w hSw; (try dsimp only at hSw); go_simp; try with_reducible rfl)
              ((try simp only [Act.put]); (try simp only [List.setIfInBounds_toArray]); (try simp only [List.set_cons_succ]); (try simp only [List.set_cons_zero]))
              refine wpAnyH_take (i := 3) (oi := { dst := some 103, op := Op.move (Operand.tmp 13), type := 32, pos := "law.go:206", after := #[], guard := none }) (v := ?_) rfl (by kernel_rfl) (by kernel_rfl) (by kernel_rfl) (fun _ _ _ h => h) (Or.inl ⟨by rfl, ?_⟩) (by assumption) ?_
              rotate_left
              · (intro w hSw; (try dsimp only at hSw); go_simp; try with_reducible rfl)
              ((try simp only [Act.put]); (try simp only [List.setIfInBounds_toArray]); (try simp only [List.set_cons_succ]); (try simp only [List.set_cons_zero]))
              refine wpAnyH_take (i := 5) (oi := { dst := some 105, op := Op.move (Operand.tmp 9), type := 48, pos := "law.go:206", after := #[], guard := none }) (v := ?_) rfl (by kernel_rfl) (by kernel_rfl) (by kernel_rfl) (fun _ _ _ h => h) (Or.inl ⟨by rfl, ?_⟩) (by assumption) ?_
              rotate_left
              · (intro w hSw; (try dsimp only at hSw); go_simp; try with_reducible rfl)
              ((try simp only [Act.put]); (try simp only [List.setIfInBounds_toArray]); (try simp only [List.set_cons_succ]); (try simp only [List.set_cons_zero]))
              refine wpAnyH_take (i := 6) (oi := { dst := some 106, op := Op.fieldAddr 51 (Operand.tmp 12) 1, type := 0, pos := "law.go:206", after := #[], guard := none }) (v := ?_) rfl (by kernel_rfl) (by kernel_rfl) (by kernel_rfl) (fun _ _ _ h => h) (Or.inl ⟨by rfl, ?_⟩) (by assumption) ?_
              rotate_left
              · (intro w hSw; (try dsimp only at hSw); go_simp; try with_reducible rfl)
              ((try simp only [Act.put]); (try simp only [List.setIfInBounds_toArray]); (try simp only [List.set_cons_succ]); (try simp only [List.set_cons_zero]))
              refine wpAnyH_take (i := 7) (oi := { dst := some 107, op := Op.load 3 (Operand.tmp 106), type := 3, pos := "law.go:206", after := #[{ on := 6, ground := Ground.data }], guard := none }) (v := ?_) rfl (by kernel_rfl) (by kernel_rfl) (by kernel_rfl) (fun _ _ _ h => h) (Or.inl ⟨by rfl, ?_⟩) (by assumption) ?_
              rotate_left
              · (intro w hSw; (try dsimp only at hSw); go_simp; try with_reducible rfl)
              ((try simp only [Act.put]); (try simp only [List.setIfInBounds_toArray]); (try simp only [List.set_cons_succ]); (try simp only [List.set_cons_zero]))
              refine wpAnyH_take (i := 8) (oi := { dst := some 108, op := Op.move (Operand.tmp 13), type := 32, pos := "law.go:206", after := #[], guard := none }) (v := ?_) rfl (by kernel_rfl) (by kernel_rfl) (by kernel_rfl) (fun _ _ _ h => h) (Or.inl ⟨by rfl, ?_⟩) (by assumption) ?_
              rotate_left
              · (intro w hSw; (try dsimp only at hSw); go_simp; try with_reducible rfl)
              ((try simp only [Act.put]); (try simp only [List.setIfInBounds_toArray]); (try simp only [List.set_cons_succ]); (try simp only [List.set_cons_zero]))
              refine wpAnyH_ready (rs := [4]) (by kernel_rfl) (by simp) ?_
              refine AllReadyH.cons (o := { dst := some 104, op := Op.call { callee := Callee.value (Operand.func 13), args := #[Operand.tmp 100, Operand.tmp 102, Operand.const (Value.int IntKind.u64 1), Operand.tmp 103], argTypes := #[23, 3, 29, 32] }, type := 4, pos := "law.go:206", after := #[{ on := 0, ground := Ground.data }, { on := 2, ground := Ground.data }, { on := 3, ground := Ground.data }], guard := none }) rfl (fun K hK => ?_) AllReadyH.nil
              go_simp
              refine (on_can (f := xf) (num := 1) (stb_den (stb_cx (stb_tl stb_emp))) O3d.out (SB.out _ _ _ O3d.out) BL.out BM.out FO.out CR.out).mono ?_
              rintro x w4 ⟨rfl, h4, -⟩
              have O4 := Lib.hid (h4.mono (fun _ _ => den_swap (stb_cx (stb_tl stb_emp))))
              have S4 := Lib.hid (SB.out _ _ _ h4)
              have XC4 := Lib.hid h4.cx
              have u1 := XC4.out.c 1 (by simp)
              have u3 := XC4.out.c 3 (by simp)
              simp at u1 u3
              clear h4
              try go_wp2_with fail
              refine hK.out _ _ ?_ (fun hNew => ?_)
              · first | exact hHeld | exact ⟨u1, u3⟩
              clear hK K
              replace hHeld := hNew
              clear hNew
              ((try simp only [Act.put]); (try simp only [List.setIfInBounds_toArray]); (try simp only [List.set_cons_succ]); (try simp only [List.set_cons_zero]))
              refine wpAnyH_ready (rs := [9]) (by kernel_rfl) (by simp) ?_
              refine AllReadyH.cons (o := { dst := some 109, op := Op.call { callee := Callee.value (Operand.func 23), args := #[Operand.tmp 105, Operand.tmp 107, Operand.tmp 108], argTypes := #[48, 3, 32] }, type := 4, pos := "law.go:206", after := #[{ on := 5, ground := Ground.data }, { on := 7, ground := Ground.data }, { on := 8, ground := Ground.data }, { on := 4, ground := Ground.chain }], guard := none }) rfl (fun K hK => ?_) AllReadyH.nil
              go_simp
              refine (on_dcan (f := xf) (stb_eng (stb_cx (stb_tl stb_emp))) O4.out S4.out BL.out CR.out).mono ?_
              rintro x w8 ⟨rfl, h8, -⟩
              have O8 := Lib.hid (h8.mono (fun _ _ => den_back (stb_cx (stb_tl stb_emp))))
              clear h8 O4 S4 XC4
              have XC4 := Lib.hid O8.out.cx
              have u1 := XC4.out.c 1 (by simp)
              have u3 := XC4.out.c 3 (by simp)
              simp at u1 u3
              try go_wp2_with fail
              refine hK.out _ _ ?_ (fun hNew => ?_)
              · first | exact hHeld | exact ⟨u1, u3⟩
              clear hK K
              replace hHeld := hNew
              clear hNew
              ((try simp only [Act.put]); (try simp only [List.setIfInBounds_toArray]); (try simp only [List.set_cons_succ]); (try simp only [List.set_cons_zero]))
              refine wpAnyH_take (i := 10) (oi := { dst := some 110, op := Op.binOp BinOp.neq 4 (Operand.tmp 104) (Operand.tmp 109) 4, type := 4, pos := "law.go:206", after := #[{ on := 4, ground := Ground.data }, { on := 9, ground := Ground.data }], guard := none }) (v := ?_) rfl (by kernel_rfl) (by kernel_rfl) (by kernel_rfl) (fun _ _ _ h => h) (Or.inl ⟨by rfl, ?_⟩) (by assumption) ?_
              rotate_left
              · (intro w hSw; (try dsimp only at hSw); go_simp; try with_reducible rfl)
              ((try simp only [Act.put]); (try simp only [List.setIfInBounds_toArray]); (try simp only [List.set_cons_succ]); (try simp only [List.set_cons_zero]))
              refine wpAnyH_done (by kernel_rfl) ?_ _
              refine NoPanic.normal ?_
              clear u1 u3 XC4 hHeld
              obtain ⟨e2, he2⟩ : ∃ e2, e2 = e := ⟨_, rfl⟩
              rw [← he2] at O8
              have N2 := Lib.hid (show e2.n = e.n ∧ e2.me = e.me by rw [he2]; exact ⟨rfl, rfl⟩)
              clear he2
              obtain ⟨sa, sc, ga, gc, q2, q3, qs, qg⟩ := (O8.out.mono (fun _ _ => den_swap (stb_cx (stb_tl stb_emp)))).den
              have QV := Lib.hid qs
              have GV := Lib.hid qg
              have OK2 := Lib.hid O8.out.ok
              have GL := Lib.hid OK2.out.G
              clear qs qg
              go_upto_region 36 with fail
              refine wp_region_noPanic ?_
              refine wp_region_held_drew (S := (fun w' => w'.cell? ⟨q, 2, none⟩ = some (.slice sa e2.n sc) ∧ w'.cell? ⟨q, 3, none⟩ = some (.slice ga e2.n gc) ∧ Hid (Below w8.heap.size w8 w'))) (by kernel_rfl) ?_ (fun hHeld => ?_)
              · exact ⟨q2, q3, Lib.hid (drew_below w8)⟩
              refine wpAnyH_take (i := 0) (oi := { dst := some 165, op := Op.move (Operand.tmp 7), type := 23, pos := "law.go:210", after := #[], guard := none }) (v := ?_) rfl (by kernel_rfl) (by kernel_rfl) (by kernel_rfl) (fun _ _ _ h => h) (Or.inl ⟨by rfl, ?_⟩) (by assumption) ?_
              rotate_left
              · (intro w hSw; (try dsimp only at hSw); go_simp; try with_reducible rfl)
              ((try simp only [Act.put]); (try simp only [List.setIfInBounds_toArray]); (try simp only [List.set_cons_succ]); (try simp only [List.set_cons_zero]))
              refine wpAnyH_take (i := 2) (oi := { dst := some 167, op := Op.move (Operand.tmp 9), type := 48, pos := "law.go:210", after := #[], guard := none }) (v := ?_) rfl (by kernel_rfl) (by kernel_rfl) (by kernel_rfl) (fun _ _ _ h => h) (Or.inl ⟨by rfl, ?_⟩) (by assumption) ?_
              rotate_left
              · (intro w hSw; (try dsimp only at hSw); go_simp; try with_reducible rfl)
              ((try simp only [Act.put]); (try simp only [List.setIfInBounds_toArray]); (try simp only [List.set_cons_succ]); (try simp only [List.set_cons_zero]))
              refine wpAnyH_take (i := 3) (oi := { dst := some 168, op := Op.nilCheck (Operand.tmp 167), type := 0, pos := "law.go:210", after := #[{ on := 2, ground := Ground.data }], guard := none }) (v := ?_) rfl (by kernel_rfl) (by kernel_rfl) (by kernel_rfl) (fun _ _ _ h => h) (Or.inl ⟨by rfl, ?_⟩) (by assumption) ?_
              rotate_left
              · (intro w hSw; (try dsimp only at hSw); go_simp; try with_reducible rfl)
              ((try simp only [Act.put]); (try simp only [List.setIfInBounds_toArray]); (try simp only [List.set_cons_succ]); (try simp only [List.set_cons_zero]))
              refine wpAnyH_take (i := 4) (oi := { dst := some 169, op := Op.fieldAddr 57 (Operand.tmp 168) 3, type := 0, pos := "law.go:210", after := #[{ on := 3, ground := Ground.data }], guard := none }) (v := ?_) rfl (by kernel_rfl) (by kernel_rfl) (by kernel_rfl) (fun _ _ _ h => h) (Or.inl ⟨by rfl, ?_⟩) (by assumption) ?_
              rotate_left
              · (intro w hSw; (try dsimp only at hSw); go_simp; try with_reducible rfl)
              ((try simp only [Act.put]); (try simp only [List.setIfInBounds_toArray]); (try simp only [List.set_cons_succ]); (try simp only [List.set_cons_zero]))
              refine wpAnyH_take (i := 5) (oi := { dst := some 170, op := Op.load 41 (Operand.tmp 169), type := 41, pos := "law.go:210", after := #[{ on := 4, ground := Ground.data }], guard := none }) (v := ?_) rfl (by kernel_rfl) (by kernel_rfl) (by kernel_rfl) (fun _ _ _ h => h) (Or.inl ⟨by rfl, ?_⟩) (by assumption) ?_
              rotate_left
              · (intro w hSw; (try dsimp only at hSw); go_simp; try with_reducible rfl)
              ((try simp only [Act.put]); (try simp only [List.setIfInBounds_toArray]); (try simp only [List.set_cons_succ]); (try simp only [List.set_cons_zero]))
              refine wpAnyH_ready (rs := [1]) (by kernel_rfl) (by simp) ?_
              refine AllReadyH.cons (o := { dst := some 166, op := Op.call { callee := Callee.value (Operand.func 16), args := #[Operand.tmp 165], argTypes := #[23] }, type := 42, pos := "law.go:210", after := #[{ on := 0, ground := Ground.data }], guard := none }) rfl (fun K hK => ?_) AllReadyH.nil
              go_simp
              refine (on_got (g := e2.G) (stb_den (stb_cx (stb_tl stb_emp))) (O8.out.below (stb_eng (stb_den (stb_cx (stb_tl stb_emp)))) (Hid.out hHeld.2.2)) rfl).mono ?_
              rintro x w10 ⟨a10, c10, rfl, h10, hb⟩
              have G10 := Lib.hid h10.sl
              clear h10
              try go_wp2_with fail
              refine hK.out _ _ ?_ (fun hNew => ?_)
              · first | exact hHeld | exact ⟨cell_go hHeld.1 hb, cell_go hHeld.2.1 hb, Lib.hid ((Hid.out hHeld.2.2).trans (hb.mono (Hid.out hHeld.2.2).size))⟩
              clear hK K
              replace hHeld := hNew
              clear hNew
              ((try simp only [Act.put]); (try simp only [List.setIfInBounds_toArray]); (try simp only [List.set_cons_succ]); (try simp only [List.set_cons_zero]))
              refine wpAnyH_ready (rs := [6]) (by kernel_rfl) (by simp) ?_
              refine AllReadyH.cons (o := { dst := some 171, op := Op.call { callee := Callee.value (Operand.func 15), args := #[Operand.tmp 166, Operand.tmp 170], argTypes := #[41, 41] }, type := 4, pos := "law.go:210", after := #[{ on := 1, ground := Ground.data }, { on := 5, ground := Ground.data }, { on := 1, ground := Ground.chain }], guard := none }) rfl (fun K hK => ?_) AllReadyH.nil
              go_simp
              refine (longs_any (r := true) G10.out (GV.out.below (Hid.out hHeld.2.2)) GL.out GL.out (decide_eq_true rfl)).mono ?_
              rintro x w5 ⟨rfl, n5, hw⟩
              have hb := drew_b hw
              clear hw
              try go_wp2_with fail
              refine hK.out _ _ ?_ (fun hNew => ?_)
              · first | exact hHeld | exact ⟨cell_go hHeld.1 hb, cell_go hHeld.2.1 hb, Lib.hid ((Hid.out hHeld.2.2).trans (hb.mono (Hid.out hHeld.2.2).size))⟩
              clear hK K
              replace hHeld := hNew
              clear hNew
              ((try simp only [Act.put]); (try simp only [List.setIfInBounds_toArray]); (try simp only [List.set_cons_succ]); (try simp only [List.set_cons_zero]))
              refine wpAnyH_take (i := 7) (oi := { dst := some 172, op := Op.unOp UnOp.not 4 (Operand.tmp 171), type := 4, pos := "law.go:210", after := #[{ on := 6, ground := Ground.data }], guard := none }) (v := ?_) rfl (by kernel_rfl) (by kernel_rfl) (by kernel_rfl) (fun _ _ _ h => h) (Or.inl ⟨by rfl, ?_⟩) (by assumption) ?_
              rotate_left
              · (intro w hSw; (try dsimp only at hSw); go_simp; try with_reducible rfl)
              ((try simp only [Act.put]); (try simp only [List.setIfInBounds_toArray]); (try simp only [List.set_cons_succ]); (try simp only [List.set_cons_zero]))
              refine wpAnyH_take (i := 8) (oi := { dst := some 173, op := Op.move (Operand.tmp 172), type := 4, pos := "law.go:210", after := #[{ on := 7, ground := Ground.data }, { on := 6, ground := Ground.chain }], guard := none }) (v := ?_) rfl (by kernel_rfl) (by kernel_rfl) (by kernel_rfl) (fun _ _ _ h => h) (Or.inl ⟨by rfl, ?_⟩) (by assumption) ?_
              rotate_left
              · (intro w hSw; (try dsimp only at hSw); go_simp; try with_reducible rfl)
              ((try simp only [Act.put]); (try simp only [List.setIfInBounds_toArray]); (try simp only [List.set_cons_succ]); (try simp only [List.set_cons_zero]))
              refine wpAnyH_take (i := 9) (oi := { dst := some 174, op := Op.move (Operand.tmp 7), type := 23, pos := "law.go:210", after := #[{ on := 8, ground := Ground.guard }], guard := some (8, false) }) (v := ?_) rfl (by kernel_rfl) (by kernel_rfl) (by kernel_rfl) (fun _ _ _ h => h) (Or.inl ⟨by rfl, ?_⟩) (by assumption) ?_
              rotate_left
              · (intro w hSw; (try dsimp only at hSw); go_simp; try with_reducible rfl)
              ((try simp only [Act.put]); (try simp only [List.setIfInBounds_toArray]); (try simp only [List.set_cons_succ]); (try simp only [List.set_cons_zero]))
              refine wpAnyH_take (i := 12) (oi := { dst := some 177, op := Op.move (Operand.tmp 9), type := 48, pos := "law.go:210", after := #[{ on := 8, ground := Ground.guard }], guard := some (8, false) }) (v := ?_) rfl (by kernel_rfl) (by kernel_rfl) (by kernel_rfl) (fun _ _ _ h => h) (Or.inl ⟨by rfl, ?_⟩) (by assumption) ?_
              rotate_left
              · (intro w hSw; (try dsimp only at hSw); go_simp; try with_reducible rfl)
              ((try simp only [Act.put]); (try simp only [List.setIfInBounds_toArray]); (try simp only [List.set_cons_succ]); (try simp only [List.set_cons_zero]))
              refine wpAnyH_take (i := 13) (oi := { dst := some 178, op := Op.nilCheck (Operand.tmp 177), type := 0, pos := "law.go:210", after := #[{ on := 12, ground := Ground.data }, { on := 8, ground := Ground.guard }], guard := some (8, false) }) (v := ?_) rfl (by kernel_rfl) (by kernel_rfl) (by kernel_rfl) (fun _ _ _ h => h) (Or.inl ⟨by rfl, ?_⟩) (by assumption) ?_
              rotate_left
              · (intro w hSw; (try dsimp only at hSw); go_simp; try with_reducible rfl)
              ((try simp only [Act.put]); (try simp only [List.setIfInBounds_toArray]); (try simp only [List.set_cons_succ]); (try simp only [List.set_cons_zero]))
              refine wpAnyH_take (i := 14) (oi := { dst := some 179, op := Op.fieldAddr 57 (Operand.tmp 178) 2, type := 0, pos := "law.go:210", after := #[{ on := 13, ground := Ground.data }, { on := 8, ground := Ground.guard }], guard := some (8, false) }) (v := ?_) rfl (by kernel_rfl) (by kernel_rfl) (by kernel_rfl) (fun _ _ _ h => h) (Or.inl ⟨by rfl, ?_⟩) (by assumption) ?_
              rotate_left
              · (intro w hSw; (try dsimp only at hSw); go_simp; try with_reducible rfl)
              ((try simp only [Act.put]); (try simp only [List.setIfInBounds_toArray]); (try simp only [List.set_cons_succ]); (try simp only [List.set_cons_zero]))
              refine wpAnyH_take (i := 15) (oi := { dst := some 180, op := Op.load 55 (Operand.tmp 179), type := 55, pos := "law.go:210", after := #[{ on := 14, ground := Ground.data }, { on := 8, ground := Ground.guard }], guard := some (8, false) }) (v := ?_) rfl (by kernel_rfl) (by kernel_rfl) (by kernel_rfl) (fun _ _ _ h => h) (Or.inl ⟨by rfl, ?_⟩) (by assumption) ?_
              rotate_left
              · (intro w hSw; (try dsimp only at hSw); go_simp; try with_reducible rfl)
              ((try simp only [Act.put]); (try simp only [List.setIfInBounds_toArray]); (try simp only [List.set_cons_succ]); (try simp only [List.set_cons_zero]))
              refine wpAnyH_ready (rs := [10]) (by kernel_rfl) (by simp) ?_
              refine AllReadyH.cons (o := { dst := some 175, op := Op.call { callee := Callee.value (Operand.func 18), args := #[Operand.tmp 174], argTypes := #[23] }, type := 37, pos := "law.go:210", after := #[{ on := 9, ground := Ground.data }, { on := 8, ground := Ground.chain }, { on := 8, ground := Ground.guard }], guard := some (8, false) }) rfl (fun K hK => ?_) AllReadyH.nil
              go_simp
              refine (on_sent (m := e2.S) (stb_den (stb_cx (stb_tl stb_emp))) (O8.out.below (stb_eng (stb_den (stb_cx (stb_tl stb_emp)))) (Hid.out hHeld.2.2)) rfl).mono ?_
              rintro x w11 ⟨a11, c11, rfl, h11, hb⟩
              have Q11 := Lib.hid h11.sq
              clear h11
              try go_wp2_with fail
              refine hK.out _ _ ?_ (fun hNew => ?_)
              · first | exact hHeld | exact ⟨cell_go hHeld.1 hb, cell_go hHeld.2.1 hb, Lib.hid ((Hid.out hHeld.2.2).trans (hb.mono (Hid.out hHeld.2.2).size))⟩
              clear hK K
              replace hHeld := hNew
              clear hNew
              ((try simp only [Act.put]); (try simp only [List.setIfInBounds_toArray]); (try simp only [List.set_cons_succ]); (try simp only [List.set_cons_zero]))
              refine wpAnyH_ready (rs := [11]) (by kernel_rfl) (by simp) ?_
              refine AllReadyH.cons (o := { dst := some 176, op := Op.call { callee := Callee.value (Operand.func 25), args := #[Operand.tmp 175], argTypes := #[37] }, type := 55, pos := "law.go:210", after := #[{ on := 10, ground := Ground.data }, { on := 10, ground := Ground.chain }, { on := 8, ground := Ground.guard }], guard := some (8, false) }) rfl (fun K hK => ?_) AllReadyH.nil
              go_simp
              refine (rows_at (e2.n : Int) Q11.out (by have := OK2.out.n2; omega)).mono ?_
              rintro x w12 ⟨a12, c12, rfl, h12⟩
              have hb := h12.2
              have R12 := Lib.hid h12.1
              clear h12
              try go_wp2_with fail
              refine hK.out _ _ ?_ (fun hNew => ?_)
              · first | exact hHeld | exact ⟨cell_go hHeld.1 hb, cell_go hHeld.2.1 hb, Lib.hid ((Hid.out hHeld.2.2).trans (hb.mono (Hid.out hHeld.2.2).size))⟩
              clear hK K
              replace hHeld := hNew
              clear hNew
              ((try simp only [Act.put]); (try simp only [List.setIfInBounds_toArray]); (try simp only [List.set_cons_succ]); (try simp only [List.set_cons_zero]))
              refine wpAnyH_ready (rs := [16]) (by kernel_rfl) (by simp) ?_
              refine AllReadyH.cons (o := { dst := some 181, op := Op.call { callee := Callee.value (Operand.func 24), args := #[Operand.tmp 176, Operand.tmp 180], argTypes := #[55, 55] }, type := 4, pos := "law.go:210", after := #[{ on := 11, ground := Ground.data }, { on := 15, ground := Ground.data }, { on := 11, ground := Ground.chain }, { on := 8, ground := Ground.guard }], guard := some (8, false) }) rfl (fun K hK => ?_) AllReadyH.nil
              go_simp
              refine (squares_at (r := true) R12.out (QV.out.below (Hid.out hHeld.2.2)) (decide_eq_true rfl)).mono ?_
              rintro x w13 ⟨rfl, n13, hw⟩
              have hb := drew_b hw
              clear hw
              try go_wp2_with fail
              refine hK.out _ _ ?_ (fun hNew => ?_)
              · first | exact hHeld | exact ⟨cell_go hHeld.1 hb, cell_go hHeld.2.1 hb, Lib.hid ((Hid.out hHeld.2.2).trans (hb.mono (Hid.out hHeld.2.2).size))⟩
              clear hK K
              replace hHeld := hNew
              clear hNew
              ((try simp only [Act.put]); (try simp only [List.setIfInBounds_toArray]); (try simp only [List.set_cons_succ]); (try simp only [List.set_cons_zero]))
              refine wpAnyH_take (i := 17) (oi := { dst := some 182, op := Op.unOp UnOp.not 4 (Operand.tmp 181), type := 4, pos := "law.go:210", after := #[{ on := 16, ground := Ground.data }, { on := 8, ground := Ground.guard }], guard := some (8, false) }) (v := ?_) rfl (by kernel_rfl) (by kernel_rfl) (by kernel_rfl) (fun _ _ _ h => h) (Or.inl ⟨by rfl, ?_⟩) (by assumption) ?_
              rotate_left
              · (intro w hSw; (try dsimp only at hSw); go_simp; try with_reducible rfl)
              ((try simp only [Act.put]); (try simp only [List.setIfInBounds_toArray]); (try simp only [List.set_cons_succ]); (try simp only [List.set_cons_zero]))
              refine wpAnyH_take (i := 18) (oi := { dst := some 183, op := Op.pick (Operand.tmp 173) (Operand.const (Value.bool true)) (Operand.tmp 182), type := 4, pos := "law.go:210", after := #[{ on := 8, ground := Ground.data }, { on := 17, ground := Ground.data }], guard := none }) (v := ?_) rfl (by kernel_rfl) (by kernel_rfl) (by kernel_rfl) (fun _ _ _ h => h) (Or.inl ⟨by rfl, ?_⟩) (by assumption) ?_
              rotate_left
              · (intro w hSw; (try dsimp only at hSw); go_simp; try with_reducible rfl)
              ((try simp only [Act.put]); (try simp only [List.setIfInBounds_toArray]); (try simp only [List.set_cons_succ]); (try simp only [List.set_cons_zero]))
              refine wpAnyH_done (by kernel_rfl) ?_ _
              refine NoPanic.normal ?_
              have OF := Lib.hid ((O8.out.below (stb_eng (stb_den (stb_cx (stb_tl stb_emp)))) (Hid.out hHeld.2.2)).mono (fun _ _ => eng_drop (den_drop2 (cx_gone (stb_tl stb_emp)))))
              go_wp2_with fail
              go_roundw
              case rel => exact ⟨k + 1, e2, T, by omega, by go_num, N2.out.1, N2.out.2, by omega, HTL.out, OF.out⟩
              case measure => simp only [intOf]; omega
    · obtain rfl : k = l.length := by omega
      have dk : decide ((l.length : Int) < (l.length : Int)) = false := decide_eq_false (by omega)
      have BF := Lib.hid O.out.1
      go_wp2_with fail
      go_ret
      exact ⟨rfl, BF.out⟩

end Go.Proofs.Ytopnagjbdjicaaa
