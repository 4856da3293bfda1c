/-
  FullOrder.
-/
import Derived.Test.YtopnagjbdjicaaaMan
import Derived.Test.YtopnagjbdjicaaaMam
namespace Go.Proofs.Ytopnagjbdjicaaa
open Go.RowKit

theorem Try.infoW : (Try.prog.info? 32).map (fun i => (i.zero, i.size, i.bytes)) = some (some (.slice none 0 0), 1, 24) := by kernel_rfl

set_option maxRecDepth 20000 in
set_option maxHeartbeats 16000000 in
theorem law_FullOrder (n f t many pick : Int) (W : World) :
    Calls Try.prog 6 #[.int .i64 n, .int .i64 f, .int .i64 t, .int .i64 many, .int .i64 pick] W (VOk W) := by
  obtain ⟨i0, hi0, hz0, hz1, hz2⟩ := info_v Try.infoW
  go_enter Try.func6, Try.ntmps6
  go_wp2_with fail
  refine (fawake_any W).mono ?_
  rintro x w0 ⟨rfl, hb⟩
  have B := Lib.hid hb
  clear hb
  by_cases h0 : n < 2
  · have d0 : decide (n < 2) = true := decide_eq_true h0
    clear h0
    go_wp2_with fail
    go_ret
    exact ⟨rfl, B.out⟩
  · have d0 : decide (n < 2) = false := decide_eq_false h0
    by_cases h1 : n > 6
    · have d1 : decide (n > 6) = true := decide_eq_true h1
      clear h0 h1
      go_wp2_with fail
      go_ret
      exact ⟨rfl, B.out⟩
    · have d1 : decide (n > 6) = false := decide_eq_false h1
      by_cases h2 : f < 0
      · have d2 : decide (f < 0) = true := decide_eq_true h2
        clear h0 h1 h2
        go_wp2_with fail
        go_ret
        exact ⟨rfl, B.out⟩
      · have d2 : decide (f < 0) = false := decide_eq_false h2
        by_cases h3 : f ≥ n
        · have d3 : decide (f ≥ n) = true := decide_eq_true h3
          clear h0 h1 h2 h3
          go_wp2_with fail
          go_ret
          exact ⟨rfl, B.out⟩
        · have d3 : decide (f ≥ n) = false := decide_eq_false h3
          by_cases h4 : t < 0
          · have d4 : decide (t < 0) = true := decide_eq_true h4
            clear h0 h1 h2 h3 h4
            go_wp2_with fail
            go_ret
            exact ⟨rfl, B.out⟩
          · have d4 : decide (t < 0) = false := decide_eq_false h4
            by_cases h5 : t ≥ n
            · have d5 : decide (t ≥ n) = true := decide_eq_true h5
              clear h0 h1 h2 h3 h4 h5
              go_wp2_with fail
              go_ret
              exact ⟨rfl, B.out⟩
            · have d5 : decide (t ≥ n) = false := decide_eq_false h5
              by_cases h6 : f = t
              · have d6 : (f == t) = true := by simpa using h6
                clear h0 h1 h2 h3 h4 h5 h6
                go_wp2_with fail
                go_ret
                exact ⟨rfl, B.out⟩
              · have d6 : (f == t) = false := by simpa using h6
                by_cases h7 : many < 2
                · have d7 : decide (many < 2) = true := decide_eq_true h7
                  clear h0 h1 h2 h3 h4 h5 h6 h7
                  go_wp2_with fail
                  go_ret
                  exact ⟨rfl, B.out⟩
                · have d7 : decide (many < 2) = false := decide_eq_false h7
                  by_cases h8 : many > 10
                  · have d8 : decide (many > 10) = true := decide_eq_true h8
                    clear h0 h1 h2 h3 h4 h5 h6 h7 h8
                    go_wp2_with fail
                    go_ret
                    exact ⟨rfl, B.out⟩
                  · have d8 : decide (many > 10) = false := decide_eq_false h8
                    by_cases h9 : pick < 1
                    · have d9 : decide (pick < 1) = true := decide_eq_true h9
                      clear h0 h1 h2 h3 h4 h5 h6 h7 h8 h9
                      go_wp2_with fail
                      go_ret
                      exact ⟨rfl, B.out⟩
                    · have d9 : decide (pick < 1) = false := decide_eq_false h9
                      by_cases h10 : pick ≥ many
                      · have d10 : decide (pick ≥ many) = true := decide_eq_true h10
                        clear h0 h1 h2 h3 h4 h5 h6 h7 h8 h9 h10
                        go_wp2_with fail
                        go_ret
                        exact ⟨rfl, B.out⟩
                      · have d10 : decide (pick ≥ many) = false := decide_eq_false h10
                        obtain ⟨n, rfl⟩ : ∃ k : Nat, n = k := ⟨n.toNat, by omega⟩
                        obtain ⟨f, rfl⟩ : ∃ k : Nat, f = k := ⟨f.toNat, by omega⟩
                        obtain ⟨t, rfl⟩ : ∃ k : Nat, t = k := ⟨t.toNat, by omega⟩
                        obtain ⟨many, rfl⟩ : ∃ k : Nat, many = k := ⟨many.toNat, by omega⟩
                        obtain ⟨pick, rfl⟩ : ∃ k : Nat, pick = k := ⟨pick.toNat, by omega⟩
                        have g1 : 1 ≤ n := by omega
                        have g2 : n ≤ 16 := by omega
                        have g3 : f < n := by omega
                        have g4 : t < n := by omega
                        have g5 : t ≠ f := by omega
                        have g6 : many ≤ 10 := by omega
                        have g7 : 1 ≤ pick := by omega
                        have g8 : pick < many := by omega
                        have O0 := Lib.hid (show On W Emp w0 from ⟨B.out, trivial⟩)
                        go_wp2_with fail
                        refine (on_new stb_emp O0.out rfl rfl g1 g2 g3).mono ?_
                        rintro x w1 ⟨p, rfl, h1'⟩
                        have O1 := Lib.hid h1'
                        clear h1' O0
                        go_wp2_with fail
                        refine (on_new (stb_eng stb_emp) O1.out rfl rfl g1 g2 g4).mono ?_
                        rintro x w2 ⟨q, rfl, h2'⟩
                        rw [snd_new (f := f) (t := t), hr_new (f := f) (t := t)] at h2'
                        have O2 := Lib.hid (h2'.mono (fun A w h => eng_drop (fun A w h => eng_drop (fun A w h => tl_nil stb_emp h) h) (eng_swap stb_emp h)))
                        have hbit : bitN (t : Int) = 2 ^ t := by simp [bitN]; omega
                        have hpw : 2 ^ t < 18446744073709551616 := pow_word (by omega)
                        have CT := Lib.hid (show (listN (toE n f (2 ^ t))).length = 1 from by rw [toE_one (by omega) g4 (by omega) g5, list_one (by omega)]; rfl)
                        have HB := Lib.hid hbit
                        have HP := Lib.hid hpw
                        clear h2' O1 hbit hpw
                        go_wp2_with fail
                        go_loopw [15, 16] (fun l i wr => ∃ (k : Nat) (L : List Rd), k ≤ many ∧ i = .int .i64 (k : Nat) ∧ L.length = k ∧ (∀ j (hj : j < L.length), L[j].l = stampL (sq1 n f t j)) ∧ On W (Eng p (sndE n f t k) (Eng q (hrE n f t 0 (zerosM n)) (Tl l L Emp))) wr) (fun _ i _ => many - (intOf i).toNat)
                        case atStart => exact ⟨0, [], Nat.zero_le _, rfl, rfl, (fun j hj => by simp at hj), O2.out⟩
                        case round =>
                          obtain ⟨k, L, hk, rfl, hl, hL, hO⟩ := hrel
                          have O := Lib.hid hO
                          clear hO O2
                          obtain ⟨A9, hA9, hT9⟩ := O.out.tl2
                          obtain ⟨la, lc, rfl⟩ := own_form hT9.1
                          have LO := Lib.hid (show ∀ j, (Value.slice la L.length lc).ownBlock = some j → W.heap.size ≤ j from fun j e => (hA9 j (hT9.2.1 j e)).1)
                          clear hA9 hT9
                          rw [hl] at LO O ⊢
                          have HL := Lib.hid hl
                          have HR := Lib.hid hL
                          clear hl hL
                          by_cases hlt : k < many
                          · have c1 : (wr.alloc (.cells #[.int .i64 (t : Int)] 3)).cell? ⟨wr.heap.size, 0, none⟩ = some (.int .i64 (t : Int)) := by simp
                            have hk10 : k ≤ 10 := by omega
                            go_wp2_with fail
                            refine (of_cell (x := (t : Int)) (s := 2 ^ t) c1 ⟨by omega, by omega⟩ HB.out).mono ?_
                            rintro x w' ⟨rfl, rfl⟩
                            have O3 := Lib.hid (O.out.below (stb_eng (stb_eng (stb_tl stb_emp))) (box_b wr (.cells #[.int .i64 (t : Int)] 3)))
                            clear c1 O
                            generalize wr.alloc (.cells #[.int .i64 (t : Int)] 3) = w3 at *
                            generalize wr.heap.size = s93 at *
                            have CS := Lib.hid (on_send_in (R' := fun a cap => Eng q (hrE n f t 0 (zerosM n)) (Tl (.slice la k lc) L (Bq a cap 1 (List.replicate 1 (stampL (sq1 n f t k))) Emp))) (stb_eng (stb_tl stb_emp)) O3.out HP.out (L := stampL (sq1 n f t k)) rfl CT.out (snd_next g1 g2 g3 g4 g5 (by omega))
                              (fun w' N Fr a cap hN hB => ins_eng hN (ins_tl hN (ins_bq stb_emp hB))))
                            have hcast : ((2 ^ t : Nat) : Int) = (2 : Int) ^ t := by simp
                            rw [hcast] at CS
                            go_wp2_with fail
                            refine CS.out.mono ?_
                            rintro x w4 ⟨a4, c4, rfl, h4⟩
                            have O4 := Lib.hid h4
                            obtain ⟨A9, hA9, hT9⟩ := h4.tl2
                            obtain ⟨b, off, ra, rc, rfl, hc, hs, -⟩ := hT9.2.2.2.1.row (i := 0) (by decide)
                            have hc0 : w4.cell? ⟨b, off + 0, none⟩ = some (.slice ra (stampL (sq1 n f t k)).length rc) := hc
                            have hc1 : w4.cell? ⟨b, off, none⟩ = some (.slice ra (stampL (sq1 n f t k)).length rc) := hc
                            clear h4 hA9 hT9 hc hs CS hcast O3
                            have O5 := Lib.hid (O4.out.below (stb_eng (stb_eng (stb_tl (stb_bq stb_emp)))) (box_b w4 (.cells #[.slice ra (stampL (sq1 n f t k)).length rc] 32)))
                            have hc5 := Lib.hid (cell_go hc0 (box_b w4 (.cells #[.slice ra (stampL (sq1 n f t k)).length rc] 32)))
                            have NX := Lib.hid (fun (v6 : Value) (w6 : World) (hown : w6.ownsRow 0 32 1 v6 (k + 1) (L.map rdV ++ [.slice ra (stampL (sq1 n f t k)).length rc])) (hgr : (w4.alloc (.cells #[.slice ra (stampL (sq1 n f t k)).length rc] 32)).grownBy w6 (Value.slice la k lc).ownBlock) (hat : ∀ j, v6.ownBlock = some j → (Value.slice la k lc).ownBlock = some j ∨ (w4.alloc (.cells #[.slice ra (stampL (sq1 n f t k)).length rc] 32)).heap.size ≤ j) =>
                              show On W (Eng p (sndE n f t (k + 1)) (Eng q (hrE n f t 0 (zerosM n)) (Tl v6 (L ++ [⟨ra, rc, stampL (sq1 n f t k)⟩]) Emp))) w6 from by
                                have kk : Keep (fun j => (Value.slice la k lc).ownBlock = some j) (w4.alloc (.cells #[.slice ra (stampL (sq1 n f t k)).length rc] 32)) w6 := (Keep.refl _ _).grown hgr (fun j h => Or.inl h)
                                have hu := upd_tl (L := L) (cap := c4) (n := 1) (m := List.replicate 1 (stampL (sq1 n f t k))) (R := Emp) stb_emp (i := 0) (by decide) rfl hc5.out hgr (by rw [HL.out]; exact hown) hat
                                exact (O5.out.upd kk (upd_eng kk (upd_eng kk hu)) (fun j e => Or.inl (LO.out j e))).mono (fun _ _ => eng_drop (fun _ _ => eng_drop (tl_drop bq_drop))))
                            have OW := Lib.hid (show (w4.alloc (.cells #[.slice ra (stampL (sq1 n f t k)).length rc] 32)).ownsRow 0 32 1 (.slice la k lc) k (L.map rdV) from by
                              obtain ⟨A9, -, hT9⟩ := O5.out.tl2
                              have := hT9.1
                              rw [HL.out] at this
                              exact this)
                            have NR := Lib.hid (show ∀ j (hj : j < (L ++ [(⟨ra, rc, stampL (sq1 n f t k)⟩ : Rd)]).length), (L ++ [(⟨ra, rc, stampL (sq1 n f t k)⟩ : Rd)])[j].l = stampL (sq1 n f t j) from fun j hj => by
                              rw [List.getElem_append]
                              split
                              · exact HR.out j _
                              · rename_i hn
                                have hjk : j = k := by
                                  have h3 := HL.out
                                  simp only [List.length_append, List.length_singleton] at hj
                                  omega
                                subst hjk
                                simp)
                            clear O4 O5 hc0 hc5
                            generalize (stampL (sq1 n f t k)).length = sl at *
                            go_wp2_with (at_builtin
                                         refine wpList_append_at rfl (.tmp 99) (.tmp 103) 27 rfl 0 32 i0 (.slice none 0 0) 1 24 Try.underlying27 hi0 hz0 hz1 hz2 rfl (by decide) (.slice la k lc) k (L.map rdV) rfl OW.out _ _ _ [.slice ra sl rc] rfl ?h2 ?h3 ?h4 ?h5 ?h6 ?h7 ?h8 ?_
                                         case h2 => rfl
                                         case h3 => intro e; cases e
                                         case h4 => exact lit_cell _ _ _
                                         case h5 => intro u hu; rw [List.mem_singleton.1 hu]; rfl
                                         case h6 => unfold maxLen; omega
                                         case h7 => omega
                                         case h8 => exact Nat.zero_le _
                                         intro v6 w6 hown6 hgr6 hat6
                                         have O6 := Lib.hid (NX.out v6 w6 hown6 hgr6 hat6)
                                         clear hown6 hgr6 hat6)
                            go_roundw
                            case rel => exact ⟨k + 1, _, by omega, by go_num, by simp [HL.out], NR.out, O6.out⟩
                            case measure => simp only [intOf]; omega
                          · obtain rfl : k = many := by omega
                            have dk : decide ((k : Int) < (k : Int)) = false := decide_eq_false (by omega)
                            have P1 := Lib.hid (show On W (Eng q (hrE n f t 0 (zerosM n)) (Eng p (sndE n f t k) (Tl (.slice la k lc) L Emp))) wr from O.out.mono (fun _ _ h => eng_swap (stb_tl stb_emp) h))
                            obtain ⟨A9, hA9, hT9⟩ := P1.out.tl2
                            have hpL : pick < L.length := by rw [HL.out]; exact g8
                            obtain ⟨g, cg, eg, hcr, hsr⟩ := hT9.look hpL (HR.out pick hpL)
                            rw [HL.out] at eg
                            simp only [Value.slice.injEq, true_and] at eg
                            obtain ⟨rfl, rfl⟩ := eg
                            have hpc : pick ≤ 1000 := by omega
                            have CC := Lib.hid (on_can (f := (f : Int)) (num := (pick : Int) + 1) (stb_eng (stb_tl stb_emp)) P1.out hsr rfl (show (stampL (sq1 n f t pick)).length ≤ 2000000 from by have := stamp_len (sq1_good (i := f) (j := t) (v := pick) g1 g2 (show pick < 18446744073709551616 by omega)).1 (sq1_good (i := f) (j := t) (v := pick) g1 g2 (show pick < 18446744073709551616 by omega)).2; omega) ⟨by omega, by omega⟩ (hr_can g1 g2 g3 g4 g5 hpc))
                            rw [decide_eq_false (show ¬ pick ≤ 0 by omega)] at CC
                            have hcv : IntKind.u64.wrap ((pick : Int) + 1) = (pick : Int) + 1 := wrapQ ⟨by omega, by omega⟩
                            have j0 : (0 : Int) ≤ (pick : Int) := by omega
                            have j1 : (pick : Int) < (k : Int) := by omega
                            clear hA9 hT9 hsr O
                            generalize (stampL (sq1 n f t pick)).length = slp at *
                            generalize L[pick].a = rap at *
                            generalize L[pick].c = rcp at *
                            clear hpL
                            go_wp2_with fail
                            refine CC.out.mono ?_
                            rintro x w7 ⟨rfl, h7, -⟩
                            have I2 := Lib.hid (show On W (Eng q (hrE n f t 0 (zerosM n)) (Eng p (sndE n f t k) (Tl (.slice (some ⟨g, 0, none⟩) k lc) L Emp))) w7 from h7)
                            clear h7 P1 CC hcr
                            go_wp2_with fail
                            go_loopw [18] (fun i wr => ∃ (c : Nat) (S : List (List Nat)), c ≤ k ∧ i = .int .i64 (c : Nat) ∧ On W (Eng q (hrE n f t c S) (Eng p (sndE n f t k) (Tl (.slice (some ⟨g, 0, none⟩) k lc) L Emp))) wr) (fun i _ => k - (intOf i).toNat)
                            case atStart => exact ⟨0, _, Nat.zero_le _, rfl, I2.out⟩
                            case round =>
                              obtain ⟨c, S, hck, rfl, hO⟩ := hrel
                              have O := Lib.hid hO
                              clear hO I2
                              by_cases hlc : c < k
                              · obtain ⟨A9, hA9, hT9⟩ := O.out.tl2
                                have hcL : c < L.length := by rw [HL.out]; exact hlc
                                obtain ⟨g', cg', eg, hcr, hsr⟩ := hT9.look hcL (HR.out c hcL)
                                simp only [Value.slice.injEq, Option.some.injEq, Addr.mk.injEq, and_true] at eg
                                obtain ⟨rfl, -, rfl⟩ := eg
                                have hc10 : c ≤ 1000 := by omega
                                have hcv2 : IntKind.u64.wrap ((c : Int) + 1) = (c : Int) + 1 := wrapQ ⟨by omega, by omega⟩
                                have k0 : (0 : Int) ≤ (c : Int) := by omega
                                have k1 : (c : Int) < (k : Int) := by omega
                                obtain ⟨S', hS'⟩ := hr_next (S := S) g1 g2 g3 g4 g5 hc10
                                have CA := Lib.hid (hr_can (S := S) (k := c) g1 g2 g3 g4 g5 hc10)
                                rw [decide_eq_true (Nat.le_refl c)] at CA
                                have hcrd : wr.drew.cell? ⟨g, c, none⟩ = _ := hcr
                                have SR := Lib.hid (hsr.below (drew_below wr))
                                have OD := Lib.hid (O.out.below (stb_eng (stb_eng (stb_tl stb_emp))) (drew_below wr))
                                have LK := Lib.hid (fun (w8 : World) (e8 : En) (h8 : On W (Eng q e8 (Eng p (sndE n f t k) (Tl (.slice (some ⟨g, 0, none⟩) k lc) L Emp))) w8) => show w8.cell? ⟨g, c, none⟩ = some (.slice L[c].a (stampL (sq1 n f t c)).length L[c].c) from by
                                  obtain ⟨A8, -, hT8⟩ := h8.tl2
                                  obtain ⟨g8, cg8, eg8, hc8, -⟩ := hT8.look hcL (HR.out c hcL)
                                  simp only [Value.slice.injEq, Option.some.injEq, Addr.mk.injEq, and_true] at eg8
                                  obtain ⟨rfl, -, -⟩ := eg8
                                  exact hc8)
                                clear hA9 hT9 hsr O hcr
                                have S26 := Lib.hid (show (stampL (sq1 n f t c)).length ≤ 2000000 from by have := stamp_len (sq1_good (i := f) (j := t) (v := c) g1 g2 (show c < 18446744073709551616 by omega)).1 (sq1_good (i := f) (j := t) (v := c) g1 g2 (show c < 18446744073709551616 by omega)).2; omega)
                                generalize hst : stampL (sq1 n f t c) = st at *
                                generalize hsl : st.length = slc at *
                                have SL := Lib.hid hsl
                                generalize L[c].a = rac at *
                                generalize L[c].c = rcc at *
                                clear hcL hst hsl
                                go_upto_region 22 with fail
                                refine wp_region_noPanic ?_
                                refine wp_region_held_drew (S := (fun w' => w'.cell? ⟨g, c, none⟩ = some (.slice rac slc rcc))) (by kernel_rfl) ?_ (fun hHeld => ?_)
                                · exact hcrd
                                refine wpAnyH_take (i := 0) (oi := { dst := some 120, op := Op.move (Operand.tmp 13), type := 23, pos := "more.go:34", after := #[], guard := none }) (v := ?_) rfl (by kernel_rfl) (by kernel_rfl) (by kernel_rfl) (fun _ _ _ h => h) (Or.inl ⟨by rfl, ?_⟩) (by assumption) ?_
                                rotate_left
                                · (intro w hSw; (try dsimp only at hSw); go_simp; try with_reducible rfl)
                                ((try simp only [Act.put]); (try simp only [List.setIfInBounds_toArray]); (try simp only [List.set_cons_succ]); (try simp only [List.set_cons_zero]))
                                refine wpAnyH_take (i := 1) (oi := { dst := some 121, op := Op.move (Operand.tmp 1), type := 3, pos := "more.go:34", after := #[], guard := none }) (v := ?_) rfl (by kernel_rfl) (by kernel_rfl) (by kernel_rfl) (fun _ _ _ h => h) (Or.inl ⟨by rfl, ?_⟩) (by assumption) ?_
                                rotate_left
                                · (intro w hSw; (try dsimp only at hSw); go_simp; try with_reducible rfl)
                                ((try simp only [Act.put]); (try simp only [List.setIfInBounds_toArray]); (try simp only [List.set_cons_succ]); (try simp only [List.set_cons_zero]))
                                refine wpAnyH_take (i := 2) (oi := { dst := some 122, op := Op.move (Operand.tmp 18), type := 3, pos := "more.go:34", after := #[], guard := none }) (v := ?_) rfl (by kernel_rfl) (by kernel_rfl) (by kernel_rfl) (fun _ _ _ h => h) (Or.inl ⟨by rfl, ?_⟩) (by assumption) ?_
                                rotate_left
                                · (intro w hSw; (try dsimp only at hSw); go_simp; try with_reducible rfl)
                                ((try simp only [Act.put]); (try simp only [List.setIfInBounds_toArray]); (try simp only [List.set_cons_succ]); (try simp only [List.set_cons_zero]))
                                refine wpAnyH_take (i := 3) (oi := { dst := some 123, op := Op.binOp BinOp.add 3 (Operand.tmp 122) (Operand.const (Value.int IntKind.i64 1)) 3, type := 3, pos := "more.go:34", after := #[{ on := 2, ground := Ground.data }], guard := none }) (v := ?_) rfl (by kernel_rfl) (by kernel_rfl) (by kernel_rfl) (fun _ _ _ h => h) (Or.inl ⟨by rfl, ?_⟩) (by assumption) ?_
                                rotate_left
                                · (intro w hSw; (try dsimp only at hSw); go_simp; try with_reducible rfl)
                                ((try simp only [Act.put]); (try simp only [List.setIfInBounds_toArray]); (try simp only [List.set_cons_succ]); (try simp only [List.set_cons_zero]))
                                refine wpAnyH_take (i := 4) (oi := { dst := some 124, op := Op.convert 3 29 (Operand.tmp 123), type := 29, pos := "more.go:34", after := #[{ on := 3, ground := Ground.data }], guard := none }) (v := ?_) rfl (by kernel_rfl) (by kernel_rfl) (by kernel_rfl) (fun _ _ _ h => h) (Or.inl ⟨by rfl, ?_⟩) (by assumption) ?_
                                rotate_left
                                · (intro w hSw; (try dsimp only at hSw); go_simp; try with_reducible rfl)
                                ((try simp only [Act.put]); (try simp only [List.setIfInBounds_toArray]); (try simp only [List.set_cons_succ]); (try simp only [List.set_cons_zero]))
                                refine wpAnyH_take (i := 5) (oi := { dst := some 125, op := Op.move (Operand.tmp 2), type := 3, pos := "more.go:34", after := #[], guard := none }) (v := ?_) rfl (by kernel_rfl) (by kernel_rfl) (by kernel_rfl) (fun _ _ _ h => h) (Or.inl ⟨by rfl, ?_⟩) (by assumption) ?_
                                rotate_left
                                · (intro w hSw; (try dsimp only at hSw); go_simp; try with_reducible rfl)
                                ((try simp only [Act.put]); (try simp only [List.setIfInBounds_toArray]); (try simp only [List.set_cons_succ]); (try simp only [List.set_cons_zero]))
                                refine wpAnyH_take (i := 8) (oi := { dst := some 128, op := Op.move (Operand.tmp 15), type := 27, pos := "more.go:34", after := #[], guard := none }) (v := ?_) rfl (by kernel_rfl) (by kernel_rfl) (by kernel_rfl) (fun _ _ _ h => h) (Or.inl ⟨by rfl, ?_⟩) (by assumption) ?_
                                rotate_left
                                · (intro w hSw; (try dsimp only at hSw); go_simp; try with_reducible rfl)
                                ((try simp only [Act.put]); (try simp only [List.setIfInBounds_toArray]); (try simp only [List.set_cons_succ]); (try simp only [List.set_cons_zero]))
                                refine wpAnyH_take (i := 9) (oi := { dst := some 129, op := Op.move (Operand.tmp 18), type := 3, pos := "more.go:34", after := #[], guard := none }) (v := ?_) rfl (by kernel_rfl) (by kernel_rfl) (by kernel_rfl) (fun _ _ _ h => h) (Or.inl ⟨by rfl, ?_⟩) (by assumption) ?_
                                rotate_left
                                · (intro w hSw; (try dsimp only at hSw); go_simp; try with_reducible rfl)
                                ((try simp only [Act.put]); (try simp only [List.setIfInBounds_toArray]); (try simp only [List.set_cons_succ]); (try simp only [List.set_cons_zero]))
                                refine wpAnyH_take (i := 10) (oi := { dst := some 130, op := Op.indexAddr 27 (Operand.tmp 128) (Operand.tmp 129), type := 0, pos := "more.go:34", after := #[{ on := 8, ground := Ground.data }, { on := 9, ground := Ground.data }], guard := none }) (v := ?_) rfl (by kernel_rfl) (by kernel_rfl) (by kernel_rfl) (fun _ _ _ h => h) (Or.inl ⟨by rfl, ?_⟩) (by assumption) ?_
                                rotate_left
                                · (intro w hSw; (try dsimp only at hSw); go_simp; try with_reducible rfl)
                                ((try simp only [Act.put]); (try simp only [List.setIfInBounds_toArray]); (try simp only [List.set_cons_succ]); (try simp only [List.set_cons_zero]))
                                refine wpAnyH_take (i := 11) (oi := { dst := some 131, op := Op.load 32 (Operand.tmp 130), type := 32, pos := "more.go:34", after := #[{ on := 10, ground := Ground.data }], guard := none }) (v := ?_) rfl (by kernel_rfl) (by kernel_rfl) (by kernel_rfl) (fun _ _ _ h => h) (Or.inl ⟨by rfl, ?_⟩) (by assumption) ?_
                                rotate_left
                                · (intro w hSw; (try dsimp only at hSw); go_simp; try with_reducible rfl)
                                ((try simp only [Act.put]); (try simp only [List.setIfInBounds_toArray]); (try simp only [List.set_cons_succ]); (try simp only [List.set_cons_zero]))
                                refine wpAnyH_ready (rs := [6]) (by kernel_rfl) (by simp) ?_
                                refine AllReadyH.cons (o := { dst := some 126, op := Op.buildSlice 82 1 #[(0, Operand.tmp 125)], type := 82, pos := "more.go:34", after := #[{ on := 5, ground := Ground.data }], guard := none }) rfl (fun K hK => ?_) AllReadyH.nil
                                go_simp
                                have hb : Below wr.drew.heap.size wr.drew (wr.alloc (.cells #[.int .i64 (t : Int)] 3)).drew := box_b wr.drew (.cells #[.int .i64 (t : Int)] 3)
                                have O3 := Lib.hid (OD.out.below (stb_eng (stb_eng (stb_tl stb_emp))) hb)
                                have S3 := Lib.hid (SR.out.below hb)
                                have c3 : (wr.alloc (.cells #[.int .i64 (t : Int)] 3)).drew.cell? ⟨wr.heap.size, 0, none⟩ = some (.int .i64 (t : Int)) := (show (wr.alloc (.cells #[.int .i64 (t : Int)] 3)).cell? ⟨wr.heap.size, 0, none⟩ = some (.int .i64 (t : Int)) from by simp)
                                generalize hw : (wr.alloc (.cells #[.int .i64 (t : Int)] 3)).drew = w3 at *
                                clear hw
                                try go_wp2_with fail
                                refine hK.out _ _ ?_ (fun hNew => ?_)
                                · first | exact hHeld | exact cell_go hHeld hb | exact hc8
                                clear hK K
                                replace hHeld := hNew
                                clear hNew
                                ((try simp only [Act.put]); (try simp only [List.setIfInBounds_toArray]); (try simp only [List.set_cons_succ]); (try simp only [List.set_cons_zero]))
                                refine wpAnyH_ready (rs := [7]) (by kernel_rfl) (by simp) ?_
                                refine AllReadyH.cons (o := { dst := some 127, op := Op.call { callee := Callee.value (Operand.func 11), args := #[Operand.tmp 126], argTypes := #[82] }, type := 30, pos := "more.go:34", after := #[{ on := 6, ground := Ground.data }], guard := none }) rfl (fun K hK => ?_) AllReadyH.nil
                                go_simp
                                refine (of_cell (x := (t : Int)) (s := 2 ^ t) c3 ⟨by omega, by omega⟩ HB.out).mono ?_
                                rintro x w' ⟨rfl, rfl⟩
                                try go_wp2_with fail
                                refine hK.out _ _ ?_ (fun hNew => ?_)
                                · first | exact hHeld | exact cell_go hHeld hb | exact hc8
                                clear hK K
                                replace hHeld := hNew
                                clear hNew
                                ((try simp only [Act.put]); (try simp only [List.setIfInBounds_toArray]); (try simp only [List.set_cons_succ]); (try simp only [List.set_cons_zero]))
                                refine wpAnyH_ready (rs := [12]) (by kernel_rfl) (by simp) ?_
                                refine AllReadyH.cons (o := { dst := some 132, op := Op.call { callee := Callee.value (Operand.func 12), args := #[Operand.tmp 120, Operand.tmp 121, Operand.tmp 124, Operand.tmp 127, Operand.tmp 131], argTypes := #[23, 3, 29, 30, 32] }, type := 4, pos := "more.go:34", after := #[{ on := 0, ground := Ground.data }, { on := 1, ground := Ground.data }, { on := 4, ground := Ground.data }, { on := 7, ground := Ground.data }, { on := 11, ground := Ground.data }, { on := 7, ground := Ground.chain }], guard := none }) rfl (fun K hK => ?_) AllReadyH.nil
                                go_simp
                                have CT2 := on_take (f := (f : Int)) (num := IntKind.u64.wrap (IntKind.i64.wrap ((c : Int) + 1))) (stb_eng (stb_tl stb_emp)) O3.out HP.out S3.out SL.out S26.out ⟨by omega, by omega⟩ CA.out hS'
                                rw [show ((2 ^ t : Nat) : Int) = (2 : Int) ^ t by simp] at CT2
                                refine CT2.mono ?_
                                rintro x w8 ⟨rfl, h8⟩
                                have O8 := Lib.hid h8
                                have hc8 := LK.out w8 _ h8
                                clear h8 CT2
                                try go_wp2_with fail
                                refine hK.out _ _ ?_ (fun hNew => ?_)
                                · first | exact hHeld | exact cell_go hHeld hb | exact hc8
                                clear hK K
                                replace hHeld := hNew
                                clear hNew
                                ((try simp only [Act.put]); (try simp only [List.setIfInBounds_toArray]); (try simp only [List.set_cons_succ]); (try simp only [List.set_cons_zero]))
                                refine wpAnyH_take (i := 13) (oi := { dst := some 133, op := Op.unOp UnOp.not 4 (Operand.tmp 132), type := 4, pos := "more.go:34", after := #[{ on := 12, ground := Ground.data }], guard := none }) (v := ?_) rfl (by kernel_rfl) (by kernel_rfl) (by kernel_rfl) (fun _ _ _ h => h) (Or.inl ⟨by rfl, ?_⟩) (by assumption) ?_
                                rotate_left
                                · (intro w hSw; (try dsimp only at hSw); go_simp; try with_reducible rfl)
                                ((try simp only [Act.put]); (try simp only [List.setIfInBounds_toArray]); (try simp only [List.set_cons_succ]); (try simp only [List.set_cons_zero]))
                                refine wpAnyH_done (by kernel_rfl) ?_ _
                                refine NoPanic.normal ?_
                                go_wp2_with fail
                                go_roundw
                                case rel => exact ⟨c + 1, S', by omega, by go_num, O8.out⟩
                                case measure => simp only [intOf]; omega
                              · obtain rfl : c = k := by omega
                                have dk2 : decide ((c : Int) < (c : Int)) = false := decide_eq_false (by omega)
                                have CG := Lib.hid (on_got (g := (List.replicate n 0).set f c) (stb_eng (stb_tl stb_emp)) O.out rfl)
                                have hcv3 : IntKind.u64.wrap (c : Int) = (c : Int) := wrapQ ⟨by omega, by omega⟩
                                have l0 : (0 : Int) ≤ (f : Int) := by omega
                                have l1 : (f : Int) < (n : Int) := by omega
                                clear O
                                go_wp2_with fail
                                refine CG.out.mono ?_
                                rintro x w9 ⟨a9, c9, rfl, h9, -⟩
                                have SG := h9.sl
                                obtain ⟨b9, off9, rfl, -, hc9⟩ := SG.at (i := f) (by simpa using g3)
                                rw [row1_at g3, if_pos rfl] at hc9
                                have hc9' : w9.cell? ⟨b9, off9 + f, none⟩ = some (.int .u64 (c : Int)) := hc9
                                have BF := Lib.hid h9.1
                                change _ at h9
                                clear h9 SG hc9 CG
                                have en : (hrE n f t c S).n = n := rfl
                                rw [en]
                                go_wp2_with fail
                                go_ret
                                exact ⟨rfl, BF.out⟩

end Go.Proofs.Ytopnagjbdjicaaa
