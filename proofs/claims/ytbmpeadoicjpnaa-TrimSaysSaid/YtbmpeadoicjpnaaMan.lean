/-
  Texts of this claim, put together.
-/
import Derived.Test.YtbmpeadoicjpnaaMal
import Derived.Test.YtbmpeadoicjpnaaMam
import Derived.Deep.RegionHeld3

/-
  shoalref15.PutLog.
-/
namespace Go.Proofs.Ytbmpeadoicjpnaa
open Go.RowKit

/-- What a writer has, as a slice. -/
theorem wr_slice {W w : World} {N p : Nat} {bs : List Nat} (h : WrOn W N p bs w) : ∃ a cap, w.cell? ⟨p, 0, none⟩ = some (.slice a bs.length cap) ∧ SlAt bV 256 w a cap bs ∧ ∀ ad, a = some ad → N ≤ ad.block := by
  obtain ⟨⟨F, v, hV⟩, -⟩ := h
  obtain ⟨a, cap, rfl, hs⟩ := hV.slice
  exact ⟨a, cap, hV.cell, hs, fun ad e => (hV.own.lt ad.block (by rw [e]; rfl)).1⟩
theorem ents_take {l : List Le} {k : Nat} (h : k < l.length) : entsB (l.take (k + 1)) = entsB (l.take k) ++ entB (l.getD k default) := by
  rw [List.take_succ_eq_append_getElem h, entsB_more, List.getD, List.getElem?_eq_getElem h]; rfl

set_option maxRecDepth 20000 in
set_option maxHeartbeats 8000000 in
theorem rputl_any {A : Nat → Prop} {W : World} {a : Option Addr} {cap n : Nat} {l : List Le} (h : LgAt A W a cap n l) (hn : n ≤ 10000) {L : List Nat} (hL : putG l = L) :
    Calls Try.prog 26 #[.slice a n cap] W fun e w' => ∃ a' c', e = .returned (.slice a' L.length c') ∧ SlAt bV 256 w' a' c' L ∧ Below W.heap.size W w' ∧ ∀ ad, a' = some ad → W.heap.size ≤ ad.block := by
  obtain ⟨g, hg⟩ : ∃ g, goodL l = g := ⟨_, rfl⟩
  have CG := Lib.hid (rgoodl_any h hg)
  have G := Lib.hid h
  have LN := Lib.hid h.len
  have HG := Lib.hid hg
  have HL := Lib.hid hL
  clear h hL hg
  go_enter Try.func26, Try.ntmps26
  go_wp2_with fail
  refine CG.out.mono ?_
  rintro e w1 ⟨rfl, hb⟩
  have B1 := Lib.hid hb
  clear hb CG
  cases g
  · obtain rfl : L = [] := by rw [← HL.out]; unfold putG; rw [HG.out]; rfl
    go_wp2_with fail
    go_ret
    exact ⟨none, 0, rfl, SlAt.none _ _ _, B1.out, fun ad e => by cases e⟩
  · have HE := Lib.hid (show lebL n ++ entsB l = L from by rw [← HL.out]; unfold putG; rw [HG.out, LN.out]; rfl)
    have GX := Lib.hid (goodL_iff.1 HG.out).1
    have W0 := Lib.hid (show WrOn W W.heap.size w1.heap.size [] (w1.alloc (.cells #[.slice none 0 0] 85)) from ⟨⟨_, _, new_wr w1 W.heap.size B1.out.size _⟩, below_alloc B1.out _⟩)
    have hcn : IntKind.u64.wrap (n : Int) = (n : Int) := by rw [IntKind.wrap_u64]; omega
    clear HL HG
    generalize hw2 : w1.alloc (.cells #[.slice none 0 0] 85) = w2 at *
    have HW2 := Lib.hid hw2
    clear hw2
    go_upto_region 4 with fail
    rw [HW2.out]
    clear HW2
    generalize w1.heap.size = pw at *
    have CN := Lib.hid (ron_num (z := (n : Int)) W0.out rfl (by omega) (by simp))
    go_wp2_with fail
    refine CN.out.mono ?_
    rintro e w3 ⟨rfl, hO⟩
    have O3 := Lib.hid (show WrOn W W.heap.size pw (lebL n ++ entsB (l.take 0)) w3 from by simpa [entsB] using hO)
    clear hO CN W0 B1 hcn
    go_wp2_with fail
    go_loopw [4] (fun i wr => ∃ k : Nat, k ≤ n ∧ i = .int .i64 (k : Nat) ∧ WrOn W W.heap.size pw (lebL n ++ entsB (l.take k)) wr) (fun i _ => n - (intOf i).toNat)
    case atStart => exact ⟨0, Nat.zero_le _, rfl, O3.out⟩
    case round =>
      obtain ⟨k, hk, rfl, hO⟩ := hrel
      have O := Lib.hid hO
      clear hO O3
      by_cases hlt : k < n
      · have hkl : k < l.length := by rw [LN.out]; exact hlt
        have ET := Lib.hid (ents_take hkl)
        have ek : l.getD k default = l[k] := by rw [List.getD, List.getElem?_eq_getElem hkl]; rfl
        have GK := Lib.hid (goodX_iff.1 (show goodX (l.getD k default) = true from by rw [ek]; exact GX.out _ (List.getElem_mem _)))
        have OX := Lib.hid (G.out.okAt hlt)
        have LB := Lib.hid (show (lebL n ++ entsB (l.take k)).length ≤ 400000 from by
          have h1 := entsB_len (l := l.take k) (fun x hx => GX.out x (List.mem_of_mem_take hx)) (fun x hx => (G.out.ok x (List.mem_of_mem_take hx)).2.1)
          have h2 := lens n (by omega)
          rw [List.length_take] at h1
          rw [List.length_append]
          omega)
        obtain ⟨b, off, rfl, -, -, x0, x1, x2⟩ := G.out.cell hlt
        have XC := Lib.hid (show ∀ w', Below W.heap.size W w' → w'.cell? ⟨b, off + k * 3, none⟩ = some (.int .i64 (l.getD k default).f) ∧ w'.cell? ⟨b, off + k * 3 + 1, none⟩ = some (.int .u64 ((l.getD k default).n : Int)) ∧ w'.cell? ⟨b, off + k * 3 + 2, none⟩ = some (.int .u64 ((l.getD k default).t : Int)) from fun w' hb => ⟨cell_go x0 hb, cell_go x1 hb, cell_go x2 hb⟩)
        clear x0 x1 x2 ek hkl
        generalize l.getD k default = x at *
        have i0 : (0 : Int) ≤ (k : Int) := by omega
        have i1 : (k : Int) < (n : Int) := by omega
        obtain ⟨fn, hfn⟩ : ∃ q : Nat, q = x.f.toNat := ⟨_, rfl⟩
        have hcf : IntKind.u64.wrap x.f = (fn : Int) := by have := GK.out; rw [IntKind.wrap_u64]; omega
        have hf16 := Lib.hid (show fn < 18446744073709551616 from by have := GK.out; omega)
        have l1 := Lib.hid (lens fn hf16.out)
        have HF := Lib.hid (show entB x = lebL fn ++ (lebL x.n ++ lebL x.t) from by rw [hfn]; rfl)
        clear hfn
        have l2 := Lib.hid (lens x.n OX.out.2.1)
        have z0 := (XC.out wr O.out.2).1
        have C1 := Lib.hid (ron_num (n := fn) (z := (fn : Int)) O.out rfl hf16.out (by have := LB.out; omega))
        go_wp2_with fail
        refine C1.out.mono ?_
        rintro e w4 ⟨rfl, h4⟩
        have O4 := Lib.hid h4
        have z1 := (XC.out w4 h4.2).2.1
        have C2 := Lib.hid (ron_num (n := x.n) (z := (x.n : Int)) h4 rfl OX.out.2.1 (by have := LB.out; have := l1.out; rw [List.length_append]; omega))
        clear h4 z0 C1 O
        go_wp2_with fail
        refine C2.out.mono ?_
        rintro e w5 ⟨rfl, h5⟩
        have O5 := Lib.hid h5
        have z2 := (XC.out w5 h5.2).2.2
        have C3 := Lib.hid (ron_num (n := x.t) (z := (x.t : Int)) h5 rfl OX.out.2.2 (by have := LB.out; have := l1.out; have := l2.out; rw [List.length_append, List.length_append]; omega))
        clear h5 z1 C2 O4
        go_wp2_with (go_at_call 51; refine C3.out.mono ?_; rintro e w6 ⟨rfl, h6⟩; have O6 := Lib.hid h6; clear h6)
        go_roundw
        case rel => exact ⟨k + 1, by omega, by go_num, by rw [ET.out, HF.out]; have := O6.out; simpa [List.append_assoc] using this⟩
        case measure => simp only [intOf]; omega
      · obtain rfl : k = n := by omega
        have dk : decide ((k : Int) < (k : Int)) = false := decide_eq_false (by omega)
        have P := O.out
        rw [List.take_of_length_le (by rw [LN.out]; exact Nat.le_refl _), HE.out] at P
        obtain ⟨sa, sc, hc, hs, hf⟩ := wr_slice P
        have R := Lib.hid (And.intro hs (And.intro P.2 hf))
        clear P hs O hf
        go_wp2_with fail
        go_ret
        exact ⟨_, _, rfl, R.out⟩

end Go.Proofs.Ytbmpeadoicjpnaa

/-
  shoalref15.ButLog, LessLog.
-/
namespace Go.Proofs.Ytbmpeadoicjpnaa
open Go.RowKit

/-- In new memory, or in what A lets. -/
def NewL (W : World) (A : Nat → Prop) : Nat → Prop := fun k => A k ∨ W.heap.size ≤ k
theorem toD_in {t : Nat} {d : Nat} (h : d ≤ 63) : toD t (d : Int) = butN64 t (2 ^ d) := by
  unfold toD
  rw [if_pos ⟨by omega, by omega⟩, Int.toNat_natCast]
theorem toD_out {t : Nat} {d : Int} (h : ¬ (0 ≤ d ∧ d ≤ 63)) : toD t d = t := if_neg h
theorem toD_lt {t : Nat} {d : Int} (h : t < 18446744073709551616) : toD t d < 18446744073709551616 := by
  unfold toD
  split
  · exact Nat.lt_of_le_of_lt (butN_le _ _) h
  · exact h

set_option maxRecDepth 20000 in
set_option maxHeartbeats 8000000 in
theorem rbut_any {A : Nat → Prop} {W : World} {a : Option Addr} {cap n t0 : Nat} {d : Int} {l : List Le} (h : LgAt A W a cap n l) (hn : n ≤ 100000) (ht : t0 < 18446744073709551616) {m : List Le} (hm : butL l t0 d = m) :
    Calls Try.prog 23 #[.slice a n cap, .int .u64 (t0 : Int), .int .i64 d] W fun e w' => ∃ a' c', e = .returned (.slice a' n c') ∧ LgAt (NewL W A) w' a' c' n m ∧ Below W.heap.size W w' := by
  obtain ⟨ti, hi0, hz0, hz1, hz2⟩ := info_x Try.infoE
  obtain ⟨g, hg⟩ : ∃ g, goodL l = g := ⟨_, rfl⟩
  have CG := Lib.hid (rgoodl_any h hg)
  have L := Lib.hid h
  have LN := Lib.hid h.len
  have HG := Lib.hid hg
  have HM0 := Lib.hid hm
  have TL := Lib.hid ht
  clear h hm ht hg
  go_enter Try.func23, Try.ntmps23
  go_wp2_with fail
  refine CG.out.mono ?_
  rintro e w0 ⟨rfl, hb⟩
  have B0 := Lib.hid hb
  clear hb CG
  cases g
  · obtain rfl : l = m := by rw [← HM0.out]; unfold butL; rw [HG.out]; rfl
    have R := Lib.hid ((L.out.below B0.out).mono (A' := NewL W A) (fun _ _ h => Or.inl h))
    go_wp2_with fail
    go_ret
    exact ⟨a, cap, rfl, R.out, B0.out⟩
  · have HM := Lib.hid (show m = l.map (setX · (toD t0 d)) from by rw [← HM0.out]; unfold butL; rw [HG.out]; rfl)
    have ML := Lib.hid (toD_lt (d := d) TL.out)
    by_cases hd : 0 ≤ d ∧ d ≤ 63
    · obtain ⟨dn, rfl⟩ : ∃ k : Nat, d = k := ⟨d.toNat, by omega⟩
      have hdn : dn ≤ 63 := by omega
      have d1 : decide ((dn : Int) ≥ 0) = true := decide_eq_true (by omega)
      have d2 : decide ((dn : Int) ≤ 63) = true := decide_eq_true (by omega)
      have d2' : decide (dn ≤ 63) = true := decide_eq_true hdn
      have hpow : (2 : Nat) ^ dn < 18446744073709551616 := pow_word (by omega)
      have hsh : IntKind.u64.wrap ((2 : Int) ^ dn) = (2 : Int) ^ dn := by
        rw [two_cast, IntKind.wrap_u64]
        generalize (2 : Nat) ^ dn = G at hpow ⊢
        omega
      have hcv : IntKind.u64.wrap ((dn : Nat) : Int) = ((dn : Nat) : Int) := by rw [IntKind.wrap_u64]; omega
      have hneg0 : bits .andNot .u64 (t0 : Int) ((2 : Int) ^ dn) = ((toD t0 (dn : Int) : Nat) : Int) := by
        rw [two_cast, or_neg_nat _ _ TL.out hpow, toD_in hdn]; rfl
      clear hd hpow HM0
      generalize toD t0 (dn : Int) = mm at *
      go_wp2_with fail
      go_loopw [7, 8] (fun s i wr => ∃ k : Nat, k ≤ n ∧ i = .int .i64 (k : Nat) ∧ OwnLg 43 W.heap.size wr s ((l.take k).map (setX · mm)) ∧ Below W.heap.size W wr) (fun _ i _ => n - (intOf i).toNat)
      case atStart => exact ⟨0, Nat.zero_le _, rfl, OwnLg.nil _, B0.out⟩
      case round =>
        obtain ⟨k, hk, rfl, hO, hb⟩ := hrel
        have B := Lib.hid hb
        obtain ⟨sa, sc, rfl⟩ := hO.form
        have hl : ((l.take k).map (setX · mm)).length = k := by rw [List.length_map, List.length_take, LN.out]; omega
        rw [hl] at hO ⊢
        have O := Lib.hid hO
        have HL := Lib.hid hl
        clear hO hb hl B0
        by_cases hlt : k < n
        · have hkl : k < l.length := by rw [LN.out]; exact hlt
          have OX := Lib.hid (L.out.okAt hlt)
          have TM := Lib.hid (show (l.take (k + 1)).map (setX · mm) = (l.take k).map (setX · mm) ++ [setX (l.getD k default) mm] from by rw [but_take hkl, getD_at hkl])
          obtain ⟨b, off, rfl, -, -, x0, x1, x2⟩ := (L.out.below B.out).cell hlt
          clear hkl
          generalize l.getD k default = x at *
          have y0 : wr.drew.cell? ⟨b, off + k * 3, none⟩ = some (.int .i64 x.f) := x0
          have y1 : wr.drew.cell? ⟨b, off + k * 3 + 1, none⟩ = some (.int .u64 (x.n : Int)) := x1
          have y2 : wr.drew.cell? ⟨b, off + k * 3 + 2, none⟩ = some (.int .u64 (x.t : Int)) := x2
          have i0 : (0 : Int) ≤ (k : Int) := by omega
          have i1 : (k : Int) < (n : Int) := by omega
          have hneg : bits .andNot .u64 (x.t : Int) (mm : Int) = ((butN64 x.t mm : Nat) : Int) := or_neg_nat _ _ OX.out.2.2 ML.out
          have OS := Lib.hid (show OkX (setX x mm) from ⟨OX.out.1, OX.out.2.1, Nat.lt_of_le_of_lt (butN_le _ _) OX.out.2.2⟩)
          have OD := Lib.hid (show (wr.alloc (.cells #[.int .i64 x.f, .int .u64 (x.n : Int), .int .u64 ((butN64 x.t mm : Nat) : Int)] 43)).drew.ownsRow W.heap.size 43 3 (.slice sa k sc) k (lgC ((l.take k).map (setX · mm))) from by
            have h := ((O.out.below (boxb wr (.cells #[.int .i64 x.f, .int .u64 (x.n : Int), .int .u64 ((butN64 x.t mm : Nat) : Int)] 43))).below (drew_below _)).own
            rw [HL.out] at h
            exact h)
          have LC := Lib.hid (show ∀ ad, (some ⟨wr.heap.size, 0, none⟩ : Option Addr) = some ad → ∀ j u, (xC (setX x mm))[j]? = some u → (wr.alloc (.cells #[.int .i64 x.f, .int .u64 (x.n : Int), .int .u64 ((butN64 x.t mm : Nat) : Int)] 43)).drew.cell? (ad.add j) = some u from ent_cells wr (setX x mm) 43)
          have BD := Lib.hid (show Below W.heap.size W (wr.alloc (.cells #[.int .i64 x.f, .int .u64 (x.n : Int), .int .u64 ((butN64 x.t mm : Nat) : Int)] 43)).drew from B.out.trans (((boxb wr _).trans ((drew_below _).mono (by simp))).mono B.out.size))
          have BS := Lib.hid B.out.size
          clear x0 x1 x2
          go_wp2_with fail
          go_region_law (refine step_append_at rfl (.tmp 30) (.tmp 49) 40 rfl W.heap.size 43 ti (.agg #[.int .i64 0, .int .u64 0, .int .u64 0]) 3 24 Try.underlying40 hi0 hz0 hz1 hz2 rfl (by decide) (.slice sa k sc) k (lgC ((l.take k).map (setX · mm))) (by simp [Act.eval]) OD.out (some ⟨wr.heap.size, 0, none⟩) 1 1 (xC (setX x mm)) (by simp [Act.eval]) rfl (fun e => by cases e) LC.out (xC_one _) (by unfold maxLen; omega) (by omega) (by have := BS.out; simp; omega) ?_; intro a2 cap2 w2 hown2 hgr2 hat2; have R := Lib.hid (O.out.push (s' := .slice a2 (k + 1) cap2) OS.out (by rw [HL.out]; exact hown2)); have B2 := Lib.hid (BD.out.grown hgr2 BD.out.size (fun j hj => (O.out.own.lt j hj).1)); clear hown2 hgr2 hat2)
          all_goals
            try go_simp
            go_wp2_with fail
            go_roundw
            case rel => exact ⟨k + 1, by omega, by go_num, by rw [TM.out]; exact R.out, B2.out⟩
            case measure => simp only [intOf]; omega
        · obtain rfl : k = n := by omega
          have dk : decide ((k : Int) < (k : Int)) = false := decide_eq_false (by omega)
          have R := Lib.hid (show LgAt (fun j => W.heap.size ≤ j) wr sa sc k m from by
            have h := O.out
            rw [List.take_of_length_le (by rw [LN.out]; exact Nat.le_refl _), ← HM.out] at h
            exact h.at (by rw [HM.out, List.length_map, LN.out]))
          clear O
          go_wp2_with fail
          go_ret
          exact ⟨sa, sc, rfl, R.out.mono (fun _ _ h => Or.inr h), B.out⟩
    · have HE := Lib.hid (toD_out (t := t0) hd)
      rw [HE.out] at HM ML
      have dd : (decide (d ≥ 0) = false) ∨ (decide (d ≥ 0) = true ∧ decide (d ≤ 63) = false) := by
        by_cases h1 : d ≥ 0
        · exact Or.inr ⟨decide_eq_true h1, decide_eq_false (by omega)⟩
        · exact Or.inl (decide_eq_false h1)
      clear hd HM0 HE TL
      generalize t0 = mm at *
      rcases dd with d1 | ⟨d1, d2⟩
      · go_wp2_with fail
        go_loopw [7, 8] (fun s i wr => ∃ k : Nat, k ≤ n ∧ i = .int .i64 (k : Nat) ∧ OwnLg 43 W.heap.size wr s ((l.take k).map (setX · mm)) ∧ Below W.heap.size W wr) (fun _ i _ => n - (intOf i).toNat)
        case atStart => exact ⟨0, Nat.zero_le _, rfl, OwnLg.nil _, B0.out⟩
        case round =>
          obtain ⟨k, hk, rfl, hO, hb⟩ := hrel
          have B := Lib.hid hb
          obtain ⟨sa, sc, rfl⟩ := hO.form
          have hl : ((l.take k).map (setX · mm)).length = k := by rw [List.length_map, List.length_take, LN.out]; omega
          rw [hl] at hO ⊢
          have O := Lib.hid hO
          have HL := Lib.hid hl
          clear hO hb hl B0
          by_cases hlt : k < n
          · have hkl : k < l.length := by rw [LN.out]; exact hlt
            have OX := Lib.hid (L.out.okAt hlt)
            have TM := Lib.hid (show (l.take (k + 1)).map (setX · mm) = (l.take k).map (setX · mm) ++ [setX (l.getD k default) mm] from by rw [but_take hkl, getD_at hkl])
            obtain ⟨b, off, rfl, -, -, x0, x1, x2⟩ := (L.out.below B.out).cell hlt
            clear hkl
            generalize l.getD k default = x at *
            have y0 : wr.drew.cell? ⟨b, off + k * 3, none⟩ = some (.int .i64 x.f) := x0
            have y1 : wr.drew.cell? ⟨b, off + k * 3 + 1, none⟩ = some (.int .u64 (x.n : Int)) := x1
            have y2 : wr.drew.cell? ⟨b, off + k * 3 + 2, none⟩ = some (.int .u64 (x.t : Int)) := x2
            have i0 : (0 : Int) ≤ (k : Int) := by omega
            have i1 : (k : Int) < (n : Int) := by omega
            have hneg : bits .andNot .u64 (x.t : Int) (mm : Int) = ((butN64 x.t mm : Nat) : Int) := or_neg_nat _ _ OX.out.2.2 ML.out
            have OS := Lib.hid (show OkX (setX x mm) from ⟨OX.out.1, OX.out.2.1, Nat.lt_of_le_of_lt (butN_le _ _) OX.out.2.2⟩)
            have OD := Lib.hid (show (wr.alloc (.cells #[.int .i64 x.f, .int .u64 (x.n : Int), .int .u64 ((butN64 x.t mm : Nat) : Int)] 43)).drew.ownsRow W.heap.size 43 3 (.slice sa k sc) k (lgC ((l.take k).map (setX · mm))) from by
              have h := ((O.out.below (boxb wr (.cells #[.int .i64 x.f, .int .u64 (x.n : Int), .int .u64 ((butN64 x.t mm : Nat) : Int)] 43))).below (drew_below _)).own
              rw [HL.out] at h
              exact h)
            have LC := Lib.hid (show ∀ ad, (some ⟨wr.heap.size, 0, none⟩ : Option Addr) = some ad → ∀ j u, (xC (setX x mm))[j]? = some u → (wr.alloc (.cells #[.int .i64 x.f, .int .u64 (x.n : Int), .int .u64 ((butN64 x.t mm : Nat) : Int)] 43)).drew.cell? (ad.add j) = some u from ent_cells wr (setX x mm) 43)
            have BD := Lib.hid (show Below W.heap.size W (wr.alloc (.cells #[.int .i64 x.f, .int .u64 (x.n : Int), .int .u64 ((butN64 x.t mm : Nat) : Int)] 43)).drew from B.out.trans (((boxb wr _).trans ((drew_below _).mono (by simp))).mono B.out.size))
            have BS := Lib.hid B.out.size
            clear x0 x1 x2
            go_wp2_with fail
            go_region_law (refine step_append_at rfl (.tmp 30) (.tmp 49) 40 rfl W.heap.size 43 ti (.agg #[.int .i64 0, .int .u64 0, .int .u64 0]) 3 24 Try.underlying40 hi0 hz0 hz1 hz2 rfl (by decide) (.slice sa k sc) k (lgC ((l.take k).map (setX · mm))) (by simp [Act.eval]) OD.out (some ⟨wr.heap.size, 0, none⟩) 1 1 (xC (setX x mm)) (by simp [Act.eval]) rfl (fun e => by cases e) LC.out (xC_one _) (by unfold maxLen; omega) (by omega) (by have := BS.out; simp; omega) ?_; intro a2 cap2 w2 hown2 hgr2 hat2; have R := Lib.hid (O.out.push (s' := .slice a2 (k + 1) cap2) OS.out (by rw [HL.out]; exact hown2)); have B2 := Lib.hid (BD.out.grown hgr2 BD.out.size (fun j hj => (O.out.own.lt j hj).1)); clear hown2 hgr2 hat2)
            all_goals
              try go_simp
              go_wp2_with fail
              go_roundw
              case rel => exact ⟨k + 1, by omega, by go_num, by rw [TM.out]; exact R.out, B2.out⟩
              case measure => simp only [intOf]; omega
          · obtain rfl : k = n := by omega
            have dk : decide ((k : Int) < (k : Int)) = false := decide_eq_false (by omega)
            have R := Lib.hid (show LgAt (fun j => W.heap.size ≤ j) wr sa sc k m from by
              have h := O.out
              rw [List.take_of_length_le (by rw [LN.out]; exact Nat.le_refl _), ← HM.out] at h
              exact h.at (by rw [HM.out, List.length_map, LN.out]))
            clear O
            go_wp2_with fail
            go_ret
            exact ⟨sa, sc, rfl, R.out.mono (fun _ _ h => Or.inr h), B.out⟩
      · go_wp2_with fail
        go_loopw [7, 8] (fun s i wr => ∃ k : Nat, k ≤ n ∧ i = .int .i64 (k : Nat) ∧ OwnLg 43 W.heap.size wr s ((l.take k).map (setX · mm)) ∧ Below W.heap.size W wr) (fun _ i _ => n - (intOf i).toNat)
        case atStart => exact ⟨0, Nat.zero_le _, rfl, OwnLg.nil _, B0.out⟩
        case round =>
          obtain ⟨k, hk, rfl, hO, hb⟩ := hrel
          have B := Lib.hid hb
          obtain ⟨sa, sc, rfl⟩ := hO.form
          have hl : ((l.take k).map (setX · mm)).length = k := by rw [List.length_map, List.length_take, LN.out]; omega
          rw [hl] at hO ⊢
          have O := Lib.hid hO
          have HL := Lib.hid hl
          clear hO hb hl B0
          by_cases hlt : k < n
          · have hkl : k < l.length := by rw [LN.out]; exact hlt
            have OX := Lib.hid (L.out.okAt hlt)
            have TM := Lib.hid (show (l.take (k + 1)).map (setX · mm) = (l.take k).map (setX · mm) ++ [setX (l.getD k default) mm] from by rw [but_take hkl, getD_at hkl])
            obtain ⟨b, off, rfl, -, -, x0, x1, x2⟩ := (L.out.below B.out).cell hlt
            clear hkl
            generalize l.getD k default = x at *
            have y0 : wr.drew.cell? ⟨b, off + k * 3, none⟩ = some (.int .i64 x.f) := x0
            have y1 : wr.drew.cell? ⟨b, off + k * 3 + 1, none⟩ = some (.int .u64 (x.n : Int)) := x1
            have y2 : wr.drew.cell? ⟨b, off + k * 3 + 2, none⟩ = some (.int .u64 (x.t : Int)) := x2
            have i0 : (0 : Int) ≤ (k : Int) := by omega
            have i1 : (k : Int) < (n : Int) := by omega
            have hneg : bits .andNot .u64 (x.t : Int) (mm : Int) = ((butN64 x.t mm : Nat) : Int) := or_neg_nat _ _ OX.out.2.2 ML.out
            have OS := Lib.hid (show OkX (setX x mm) from ⟨OX.out.1, OX.out.2.1, Nat.lt_of_le_of_lt (butN_le _ _) OX.out.2.2⟩)
            have OD := Lib.hid (show (wr.alloc (.cells #[.int .i64 x.f, .int .u64 (x.n : Int), .int .u64 ((butN64 x.t mm : Nat) : Int)] 43)).drew.ownsRow W.heap.size 43 3 (.slice sa k sc) k (lgC ((l.take k).map (setX · mm))) from by
              have h := ((O.out.below (boxb wr (.cells #[.int .i64 x.f, .int .u64 (x.n : Int), .int .u64 ((butN64 x.t mm : Nat) : Int)] 43))).below (drew_below _)).own
              rw [HL.out] at h
              exact h)
            have LC := Lib.hid (show ∀ ad, (some ⟨wr.heap.size, 0, none⟩ : Option Addr) = some ad → ∀ j u, (xC (setX x mm))[j]? = some u → (wr.alloc (.cells #[.int .i64 x.f, .int .u64 (x.n : Int), .int .u64 ((butN64 x.t mm : Nat) : Int)] 43)).drew.cell? (ad.add j) = some u from ent_cells wr (setX x mm) 43)
            have BD := Lib.hid (show Below W.heap.size W (wr.alloc (.cells #[.int .i64 x.f, .int .u64 (x.n : Int), .int .u64 ((butN64 x.t mm : Nat) : Int)] 43)).drew from B.out.trans (((boxb wr _).trans ((drew_below _).mono (by simp))).mono B.out.size))
            have BS := Lib.hid B.out.size
            clear x0 x1 x2
            go_wp2_with fail
            go_region_law (refine step_append_at rfl (.tmp 30) (.tmp 49) 40 rfl W.heap.size 43 ti (.agg #[.int .i64 0, .int .u64 0, .int .u64 0]) 3 24 Try.underlying40 hi0 hz0 hz1 hz2 rfl (by decide) (.slice sa k sc) k (lgC ((l.take k).map (setX · mm))) (by simp [Act.eval]) OD.out (some ⟨wr.heap.size, 0, none⟩) 1 1 (xC (setX x mm)) (by simp [Act.eval]) rfl (fun e => by cases e) LC.out (xC_one _) (by unfold maxLen; omega) (by omega) (by have := BS.out; simp; omega) ?_; intro a2 cap2 w2 hown2 hgr2 hat2; have R := Lib.hid (O.out.push (s' := .slice a2 (k + 1) cap2) OS.out (by rw [HL.out]; exact hown2)); have B2 := Lib.hid (BD.out.grown hgr2 BD.out.size (fun j hj => (O.out.own.lt j hj).1)); clear hown2 hgr2 hat2)
            all_goals
              try go_simp
              go_wp2_with fail
              go_roundw
              case rel => exact ⟨k + 1, by omega, by go_num, by rw [TM.out]; exact R.out, B2.out⟩
              case measure => simp only [intOf]; omega
          · obtain rfl : k = n := by omega
            have dk : decide ((k : Int) < (k : Int)) = false := decide_eq_false (by omega)
            have R := Lib.hid (show LgAt (fun j => W.heap.size ≤ j) wr sa sc k m from by
              have h := O.out
              rw [List.take_of_length_le (by rw [LN.out]; exact Nat.le_refl _), ← HM.out] at h
              exact h.at (by rw [HM.out, List.length_map, LN.out]))
            clear O
            go_wp2_with fail
            go_ret
            exact ⟨sa, sc, rfl, R.out.mono (fun _ _ h => Or.inr h), B.out⟩

theorem rless_any {A : Nat → Prop} {W : World} {a : Option Addr} {cap n t0 : Nat} {l : List Le} (h : LgAt A W a cap n l) (hn : n ≤ 100000) (ht : t0 < 18446744073709551616) {m : List Le} (hm : butL l t0 (-1) = m) :
    Calls Try.prog 22 #[.slice a n cap, .int .u64 (t0 : Int)] W fun e w' => ∃ a' c', e = .returned (.slice a' n c') ∧ LgAt (NewL W A) w' a' c' n m ∧ Below W.heap.size W w' := by
  have CB := Lib.hid (rbut_any (d := -1) h hn ht hm)
  clear h hn ht hm
  go_enter Try.func22, Try.ntmps22
  go_wp2_with fail
  refine CB.out.mono ?_
  rintro e w1 ⟨a', c', rfl, hL, hb⟩
  have R := Lib.hid (And.intro hL hb)
  clear hL hb
  go_wp2_with fail
  go_ret
  exact ⟨a', c', rfl, R.out⟩

end Go.Proofs.Ytbmpeadoicjpnaa

/-
  shoalref15.Purge.
-/
namespace Go.Proofs.Ytbmpeadoicjpnaa
open Go.RowKit

theorem keep_t {l : List Le} {x : Le} (h : x.t ≠ 0) : keepX l x = true := by unfold keepX; rw [decide_eq_true h]; rfl
theorem keep_l {l : List Le} {x : Le} (h : x.t = 0) : keepX l x = lastX l x := by unfold keepX; rw [decide_eq_false (fun h' => h' h)]; rfl

set_option maxRecDepth 20000 in
set_option maxHeartbeats 8000000 in
theorem rpurge_any {A : Nat → Prop} {W : World} {a : Option Addr} {cap n : Nat} {l : List Le} (h : LgAt A W a cap n l) (hn : n ≤ 100000) {m : List Le} (hm : purgeL l = m) :
    Calls Try.prog 24 #[.slice a n cap] W fun e w' => ∃ a' c', e = .returned (.slice a' m.length c') ∧ LgAt (NewL W A) w' a' c' m.length m ∧ Below W.heap.size W w' := by
  obtain ⟨ti, hi0, hz0, hz1, hz2⟩ := info_x Try.infoE
  obtain ⟨g, hg⟩ : ∃ g, goodL l = g := ⟨_, rfl⟩
  have CG := Lib.hid (rgoodl_any h hg)
  have L := Lib.hid h
  have LN := Lib.hid h.len
  have HG := Lib.hid hg
  have HM0 := Lib.hid hm
  clear h hm hg
  go_enter Try.func24, Try.ntmps24
  go_wp2_with fail
  refine CG.out.mono ?_
  rintro e w0 ⟨rfl, hb⟩
  have B0 := Lib.hid hb
  clear hb CG
  cases g
  · obtain rfl : l = m := by rw [← HM0.out]; unfold purgeL; rw [HG.out]; rfl
    have R := Lib.hid ((L.out.below B0.out).mono (A' := NewL W A) (fun _ _ h => Or.inl h))
    go_wp2_with fail
    go_ret
    exact ⟨a, cap, by rw [LN.out]; rfl, by rw [LN.out]; exact R.out, B0.out⟩
  · have HM := Lib.hid (show m = l.filter (keepX l) from by rw [← HM0.out]; unfold purgeL; rw [HG.out]; rfl)
    have HR := Lib.hid (goodL_iff.1 HG.out).2
    clear HM0 HG
    go_wp2_with fail
    go_loopw [3, 4] (fun s i wr => ∃ k : Nat, k ≤ n ∧ i = .int .i64 (k : Nat) ∧ OwnLg 43 W.heap.size wr s ((l.take k).filter (keepX l)) ∧ Below W.heap.size W wr) (fun _ i _ => n - (intOf i).toNat)
    case atStart => exact ⟨0, Nat.zero_le _, rfl, OwnLg.nil _, B0.out⟩
    case round =>
      obtain ⟨k, hk, rfl, hO, hb⟩ := hrel
      have B := Lib.hid hb
      obtain ⟨sa, sc, rfl⟩ := hO.form
      have hkb : ((l.take k).filter (keepX l)).length ≤ k := Nat.le_trans (List.length_filter_le _ _) (by rw [List.length_take]; omega)
      obtain ⟨kk, hkk⟩ : ∃ q, q = ((l.take k).filter (keepX l)).length := ⟨_, rfl⟩
      rw [← hkk] at hO hkb ⊢
      have O := Lib.hid hO
      have HL := Lib.hid hkk.symm
      have KB := Lib.hid (show kk ≤ 100000 by omega)
      clear hO hb B0 hkk hkb
      by_cases hlt : k < n
      · have hkl : k < l.length := by rw [LN.out]; exact hlt
        have OX := Lib.hid (L.out.okAt hlt)
        have TM := Lib.hid (show (l.take (k + 1)).filter (keepX l) = (l.take k).filter (keepX l) ++ if keepX l (l.getD k default) = true then [l.getD k default] else [] from by rw [purge_take hkl, getD_at hkl])
        have PA := Lib.hid (show lastX l (l.getD k default) = true ↔ (k + 1 = l.length ∨ ∃ h : k + 1 < l.length, l[k + 1].f ≠ (l.getD k default).f) from by rw [getD_at hkl]; exact purge_at HR.out hkl)
        obtain ⟨b, off, rfl, -, -, x0, x1, x2⟩ := (L.out.below B.out).cell hlt
        have i0 : (0 : Int) ≤ (k : Int) := by omega
        have i1 : (k : Int) < (n : Int) := by omega
        have OC := Lib.hid (L.out.below B.out)
        generalize l.getD k default = x at *
        by_cases ht : x.t ≠ 0
        · have d1 : ((x.t : Int) != 0) = true := by rw [ne_word]; exact decide_eq_true ht
          have KX := Lib.hid (keep_t (l := l) ht)
          clear ht
          go_upto_region 7 with fail
          refine wp_region_noPanic ?_
          refine wp_region_held_drew (S := (fun w' => w'.cell? ⟨b, off + k * 3, none⟩ = some (.int .i64 x.f) ∧ w'.cell? ⟨b, off + k * 3 + 1, none⟩ = some (.int .u64 (x.n : Int)) ∧ w'.cell? ⟨b, off + k * 3 + 2, none⟩ = some (.int .u64 (x.t : Int)))) (by kernel_rfl) ?_ (fun hHeld => ?_)
          · exact ⟨x0, x1, x2⟩
          refine wpAnyH_take (i := 0) (oi := { dst := some 15, op := Op.move (Operand.tmp 0), type := 40, pos := "ref.go:202", after := #[], guard := none }) (v := ?_) rfl (by kernel_rfl) (by kernel_rfl) (by kernel_rfl) (fun _ _ _ h => h) (Or.inl ⟨by rfl, ?_⟩) (by assumption) ?_
          rotate_left
          · (intro w hSw; (try dsimp only at hSw); go_simp; try with_reducible rfl)
          ((try simp only [Act.put]); (try simp only [List.setIfInBounds_toArray]); (try simp only [List.set_cons_succ]); (try simp only [List.set_cons_zero]))
          refine wpAnyH_take (i := 1) (oi := { dst := some 16, op := Op.move (Operand.tmp 4), type := 3, pos := "ref.go:202", after := #[], guard := none }) (v := ?_) rfl (by kernel_rfl) (by kernel_rfl) (by kernel_rfl) (fun _ _ _ h => h) (Or.inl ⟨by rfl, ?_⟩) (by assumption) ?_
          rotate_left
          · (intro w hSw; (try dsimp only at hSw); go_simp; try with_reducible rfl)
          ((try simp only [Act.put]); (try simp only [List.setIfInBounds_toArray]); (try simp only [List.set_cons_succ]); (try simp only [List.set_cons_zero]))
          refine wpAnyH_take (i := 2) (oi := { dst := some 17, op := Op.indexAddr 40 (Operand.tmp 15) (Operand.tmp 16), type := 0, pos := "ref.go:202", after := #[{ on := 0, ground := Ground.data }, { on := 1, ground := Ground.data }], guard := none }) (v := ?_) rfl (by kernel_rfl) (by kernel_rfl) (by kernel_rfl) (fun _ _ _ h => h) (Or.inl ⟨by rfl, ?_⟩) (by assumption) ?_
          rotate_left
          · (intro w hSw; (try dsimp only at hSw); go_simp; try with_reducible rfl)
          ((try simp only [Act.put]); (try simp only [List.setIfInBounds_toArray]); (try simp only [List.set_cons_succ]); (try simp only [List.set_cons_zero]))
          refine wpAnyH_take (i := 3) (oi := { dst := some 18, op := Op.fieldAddr 43 (Operand.tmp 17) 2, type := 0, pos := "ref.go:202", after := #[{ on := 2, ground := Ground.data }], guard := none }) (v := ?_) rfl (by kernel_rfl) (by kernel_rfl) (by kernel_rfl) (fun _ _ _ h => h) (Or.inl ⟨by rfl, ?_⟩) (by assumption) ?_
          rotate_left
          · (intro w hSw; (try dsimp only at hSw); go_simp; try with_reducible rfl)
          ((try simp only [Act.put]); (try simp only [List.setIfInBounds_toArray]); (try simp only [List.set_cons_succ]); (try simp only [List.set_cons_zero]))
          refine wpAnyH_take (i := 4) (oi := { dst := some 19, op := Op.load 23 (Operand.tmp 18), type := 23, pos := "ref.go:202", after := #[{ on := 3, ground := Ground.data }], guard := none }) (v := ?_) rfl (by kernel_rfl) (by kernel_rfl) (by kernel_rfl) (fun _ _ _ h => h) (Or.inl ⟨by rfl, ?_⟩) (by assumption) ?_
          rotate_left
          · (intro w hSw; (try dsimp only at hSw); go_simp; try with_reducible rfl)
          ((try simp only [Act.put]); (try simp only [List.setIfInBounds_toArray]); (try simp only [List.set_cons_succ]); (try simp only [List.set_cons_zero]))
          refine wpAnyH_take (i := 5) (oi := { dst := some 20, op := Op.binOp BinOp.neq 23 (Operand.tmp 19) (Operand.const (Value.int IntKind.u64 0)) 23, type := 4, pos := "ref.go:202", after := #[{ on := 4, ground := Ground.data }], guard := none }) (v := ?_) rfl (by kernel_rfl) (by kernel_rfl) (by kernel_rfl) (fun _ _ _ h => h) (Or.inl ⟨by rfl, ?_⟩) (by assumption) ?_
          rotate_left
          · (intro w hSw; (try dsimp only at hSw); go_simp; try with_reducible rfl)
          ((try simp only [Act.put]); (try simp only [List.setIfInBounds_toArray]); (try simp only [List.set_cons_succ]); (try simp only [List.set_cons_zero]))
          refine wpAnyH_take (i := 6) (oi := { dst := some 21, op := Op.move (Operand.tmp 20), type := 4, pos := "ref.go:202", after := #[{ on := 5, ground := Ground.data }], guard := none }) (v := ?_) rfl (by kernel_rfl) (by kernel_rfl) (by kernel_rfl) (fun _ _ _ h => h) (Or.inl ⟨by rfl, ?_⟩) (by assumption) ?_
          rotate_left
          · (intro w hSw; (try dsimp only at hSw); go_simp; try with_reducible rfl)
          ((try simp only [Act.put]); (try simp only [List.setIfInBounds_toArray]); (try simp only [List.set_cons_succ]); (try simp only [List.set_cons_zero]))
          refine wpAnyH_take (i := 7) (oi := { dst := some 22, op := Op.move (Operand.tmp 4), type := 3, pos := "ref.go:202", after := #[{ on := 6, ground := Ground.guard }], guard := some (6, false) }) (v := undef) rfl (by kernel_rfl) (by kernel_rfl) (by kernel_rfl) (fun _ _ _ h => h) (Or.inr ⟨by rfl, rfl⟩) (by assumption) ?_
          ((try simp only [Act.put]); (try simp only [List.setIfInBounds_toArray]); (try simp only [List.set_cons_succ]); (try simp only [List.set_cons_zero]))
          refine wpAnyH_take (i := 8) (oi := { dst := some 23, op := Op.binOp BinOp.add 3 (Operand.tmp 22) (Operand.const (Value.int IntKind.i64 1)) 3, type := 3, pos := "ref.go:202", after := #[{ on := 7, ground := Ground.data }, { on := 6, ground := Ground.guard }], guard := some (6, false) }) (v := undef) rfl (by kernel_rfl) (by kernel_rfl) (by kernel_rfl) (fun _ _ _ h => h) (Or.inr ⟨by rfl, rfl⟩) (by assumption) ?_
          ((try simp only [Act.put]); (try simp only [List.setIfInBounds_toArray]); (try simp only [List.set_cons_succ]); (try simp only [List.set_cons_zero]))
          refine wpAnyH_take (i := 9) (oi := { dst := some 24, op := Op.move (Operand.tmp 0), type := 40, pos := "ref.go:202", after := #[{ on := 6, ground := Ground.guard }], guard := some (6, false) }) (v := undef) rfl (by kernel_rfl) (by kernel_rfl) (by kernel_rfl) (fun _ _ _ h => h) (Or.inr ⟨by rfl, rfl⟩) (by assumption) ?_
          ((try simp only [Act.put]); (try simp only [List.setIfInBounds_toArray]); (try simp only [List.set_cons_succ]); (try simp only [List.set_cons_zero]))
          refine wpAnyH_take (i := 10) (oi := { dst := some 25, op := Op.call { callee := Callee.builtin Builtin.len, args := #[Operand.tmp 24], argTypes := #[40] }, type := 3, pos := "ref.go:202", after := #[{ on := 9, ground := Ground.data }, { on := 6, ground := Ground.guard }], guard := some (6, false) }) (v := undef) rfl (by kernel_rfl) (by kernel_rfl) (by kernel_rfl) (fun _ _ _ h => h) (Or.inr ⟨by rfl, rfl⟩) (by assumption) ?_
          ((try simp only [Act.put]); (try simp only [List.setIfInBounds_toArray]); (try simp only [List.set_cons_succ]); (try simp only [List.set_cons_zero]))
          refine wpAnyH_take (i := 11) (oi := { dst := some 26, op := Op.binOp BinOp.eql 3 (Operand.tmp 23) (Operand.tmp 25) 3, type := 4, pos := "ref.go:202", after := #[{ on := 8, ground := Ground.data }, { on := 10, ground := Ground.data }, { on := 6, ground := Ground.guard }], guard := some (6, false) }) (v := undef) rfl (by kernel_rfl) (by kernel_rfl) (by kernel_rfl) (fun _ _ _ h => h) (Or.inr ⟨by rfl, rfl⟩) (by assumption) ?_
          ((try simp only [Act.put]); (try simp only [List.setIfInBounds_toArray]); (try simp only [List.set_cons_succ]); (try simp only [List.set_cons_zero]))
          refine wpAnyH_take (i := 12) (oi := { dst := some 27, op := Op.pick (Operand.tmp 21) (Operand.const (Value.bool true)) (Operand.tmp 26), type := 4, pos := "ref.go:202", after := #[{ on := 6, ground := Ground.data }, { on := 11, ground := Ground.data }], guard := none }) (v := ?_) rfl (by kernel_rfl) (by kernel_rfl) (by kernel_rfl) (fun _ _ _ h => h) (Or.inl ⟨by rfl, ?_⟩) (by assumption) ?_
          rotate_left
          · (intro w hSw; (try dsimp only at hSw); go_simp; try with_reducible rfl)
          ((try simp only [Act.put]); (try simp only [List.setIfInBounds_toArray]); (try simp only [List.set_cons_succ]); (try simp only [List.set_cons_zero]))
          refine wpAnyH_take (i := 13) (oi := { dst := some 28, op := Op.move (Operand.tmp 27), type := 4, pos := "ref.go:202", after := #[{ on := 12, ground := Ground.data }, { on := 6, ground := Ground.chain }], guard := none }) (v := ?_) rfl (by kernel_rfl) (by kernel_rfl) (by kernel_rfl) (fun _ _ _ h => h) (Or.inl ⟨by rfl, ?_⟩) (by assumption) ?_
          rotate_left
          · (intro w hSw; (try dsimp only at hSw); go_simp; try with_reducible rfl)
          ((try simp only [Act.put]); (try simp only [List.setIfInBounds_toArray]); (try simp only [List.set_cons_succ]); (try simp only [List.set_cons_zero]))
          refine wpAnyH_take (i := 14) (oi := { dst := some 29, op := Op.move (Operand.tmp 0), type := 40, pos := "ref.go:202", after := #[{ on := 13, ground := Ground.guard }], guard := some (13, false) }) (v := undef) rfl (by kernel_rfl) (by kernel_rfl) (by kernel_rfl) (fun _ _ _ h => h) (Or.inr ⟨by rfl, rfl⟩) (by assumption) ?_
          ((try simp only [Act.put]); (try simp only [List.setIfInBounds_toArray]); (try simp only [List.set_cons_succ]); (try simp only [List.set_cons_zero]))
          refine wpAnyH_take (i := 15) (oi := { dst := some 30, op := Op.move (Operand.tmp 4), type := 3, pos := "ref.go:202", after := #[{ on := 13, ground := Ground.guard }], guard := some (13, false) }) (v := undef) rfl (by kernel_rfl) (by kernel_rfl) (by kernel_rfl) (fun _ _ _ h => h) (Or.inr ⟨by rfl, rfl⟩) (by assumption) ?_
          ((try simp only [Act.put]); (try simp only [List.setIfInBounds_toArray]); (try simp only [List.set_cons_succ]); (try simp only [List.set_cons_zero]))
          refine wpAnyH_take (i := 16) (oi := { dst := some 31, op := Op.binOp BinOp.add 3 (Operand.tmp 30) (Operand.const (Value.int IntKind.i64 1)) 3, type := 3, pos := "ref.go:202", after := #[{ on := 15, ground := Ground.data }, { on := 13, ground := Ground.guard }], guard := some (13, false) }) (v := undef) rfl (by kernel_rfl) (by kernel_rfl) (by kernel_rfl) (fun _ _ _ h => h) (Or.inr ⟨by rfl, rfl⟩) (by assumption) ?_
          ((try simp only [Act.put]); (try simp only [List.setIfInBounds_toArray]); (try simp only [List.set_cons_succ]); (try simp only [List.set_cons_zero]))
          refine wpAnyH_take (i := 17) (oi := { dst := some 32, op := Op.indexAddr 40 (Operand.tmp 29) (Operand.tmp 31), type := 0, pos := "ref.go:202", after := #[{ on := 14, ground := Ground.data }, { on := 16, ground := Ground.data }, { on := 13, ground := Ground.guard }], guard := some (13, false) }) (v := undef) rfl (by kernel_rfl) (by kernel_rfl) (by kernel_rfl) (fun _ _ _ h => h) (Or.inr ⟨by rfl, rfl⟩) (by assumption) ?_
          ((try simp only [Act.put]); (try simp only [List.setIfInBounds_toArray]); (try simp only [List.set_cons_succ]); (try simp only [List.set_cons_zero]))
          refine wpAnyH_take (i := 18) (oi := { dst := some 33, op := Op.fieldAddr 43 (Operand.tmp 32) 0, type := 0, pos := "ref.go:202", after := #[{ on := 17, ground := Ground.data }, { on := 13, ground := Ground.guard }], guard := some (13, false) }) (v := undef) rfl (by kernel_rfl) (by kernel_rfl) (by kernel_rfl) (fun _ _ _ h => h) (Or.inr ⟨by rfl, rfl⟩) (by assumption) ?_
          ((try simp only [Act.put]); (try simp only [List.setIfInBounds_toArray]); (try simp only [List.set_cons_succ]); (try simp only [List.set_cons_zero]))
          refine wpAnyH_take (i := 19) (oi := { dst := some 34, op := Op.load 3 (Operand.tmp 33), type := 3, pos := "ref.go:202", after := #[{ on := 18, ground := Ground.data }, { on := 13, ground := Ground.guard }], guard := some (13, false) }) (v := undef) rfl (by kernel_rfl) (by kernel_rfl) (by kernel_rfl) (fun _ _ _ h => h) (Or.inr ⟨by rfl, rfl⟩) (by assumption) ?_
          ((try simp only [Act.put]); (try simp only [List.setIfInBounds_toArray]); (try simp only [List.set_cons_succ]); (try simp only [List.set_cons_zero]))
          refine wpAnyH_take (i := 20) (oi := { dst := some 35, op := Op.move (Operand.tmp 0), type := 40, pos := "ref.go:202", after := #[{ on := 13, ground := Ground.guard }], guard := some (13, false) }) (v := undef) rfl (by kernel_rfl) (by kernel_rfl) (by kernel_rfl) (fun _ _ _ h => h) (Or.inr ⟨by rfl, rfl⟩) (by assumption) ?_
          ((try simp only [Act.put]); (try simp only [List.setIfInBounds_toArray]); (try simp only [List.set_cons_succ]); (try simp only [List.set_cons_zero]))
          refine wpAnyH_take (i := 21) (oi := { dst := some 36, op := Op.move (Operand.tmp 4), type := 3, pos := "ref.go:202", after := #[{ on := 13, ground := Ground.guard }], guard := some (13, false) }) (v := undef) rfl (by kernel_rfl) (by kernel_rfl) (by kernel_rfl) (fun _ _ _ h => h) (Or.inr ⟨by rfl, rfl⟩) (by assumption) ?_
          ((try simp only [Act.put]); (try simp only [List.setIfInBounds_toArray]); (try simp only [List.set_cons_succ]); (try simp only [List.set_cons_zero]))
          refine wpAnyH_take (i := 22) (oi := { dst := some 37, op := Op.indexAddr 40 (Operand.tmp 35) (Operand.tmp 36), type := 0, pos := "ref.go:202", after := #[{ on := 20, ground := Ground.data }, { on := 21, ground := Ground.data }, { on := 13, ground := Ground.guard }], guard := some (13, false) }) (v := undef) rfl (by kernel_rfl) (by kernel_rfl) (by kernel_rfl) (fun _ _ _ h => h) (Or.inr ⟨by rfl, rfl⟩) (by assumption) ?_
          ((try simp only [Act.put]); (try simp only [List.setIfInBounds_toArray]); (try simp only [List.set_cons_succ]); (try simp only [List.set_cons_zero]))
          refine wpAnyH_take (i := 23) (oi := { dst := some 38, op := Op.fieldAddr 43 (Operand.tmp 37) 0, type := 0, pos := "ref.go:202", after := #[{ on := 22, ground := Ground.data }, { on := 13, ground := Ground.guard }], guard := some (13, false) }) (v := undef) rfl (by kernel_rfl) (by kernel_rfl) (by kernel_rfl) (fun _ _ _ h => h) (Or.inr ⟨by rfl, rfl⟩) (by assumption) ?_
          ((try simp only [Act.put]); (try simp only [List.setIfInBounds_toArray]); (try simp only [List.set_cons_succ]); (try simp only [List.set_cons_zero]))
          refine wpAnyH_take (i := 24) (oi := { dst := some 39, op := Op.load 3 (Operand.tmp 38), type := 3, pos := "ref.go:202", after := #[{ on := 23, ground := Ground.data }, { on := 13, ground := Ground.guard }], guard := some (13, false) }) (v := undef) rfl (by kernel_rfl) (by kernel_rfl) (by kernel_rfl) (fun _ _ _ h => h) (Or.inr ⟨by rfl, rfl⟩) (by assumption) ?_
          ((try simp only [Act.put]); (try simp only [List.setIfInBounds_toArray]); (try simp only [List.set_cons_succ]); (try simp only [List.set_cons_zero]))
          refine wpAnyH_take (i := 25) (oi := { dst := some 40, op := Op.binOp BinOp.neq 3 (Operand.tmp 34) (Operand.tmp 39) 3, type := 4, pos := "ref.go:202", after := #[{ on := 19, ground := Ground.data }, { on := 24, ground := Ground.data }, { on := 13, ground := Ground.guard }], guard := some (13, false) }) (v := undef) rfl (by kernel_rfl) (by kernel_rfl) (by kernel_rfl) (fun _ _ _ h => h) (Or.inr ⟨by rfl, rfl⟩) (by assumption) ?_
          ((try simp only [Act.put]); (try simp only [List.setIfInBounds_toArray]); (try simp only [List.set_cons_succ]); (try simp only [List.set_cons_zero]))
          refine wpAnyH_take (i := 26) (oi := { dst := some 41, op := Op.pick (Operand.tmp 28) (Operand.const (Value.bool true)) (Operand.tmp 40), type := 4, pos := "ref.go:202", after := #[{ on := 13, ground := Ground.data }, { on := 25, ground := Ground.data }], guard := none }) (v := ?_) rfl (by kernel_rfl) (by kernel_rfl) (by kernel_rfl) (fun _ _ _ h => h) (Or.inl ⟨by rfl, ?_⟩) (by assumption) ?_
          rotate_left
          · (intro w hSw; (try dsimp only at hSw); go_simp; try with_reducible rfl)
          ((try simp only [Act.put]); (try simp only [List.setIfInBounds_toArray]); (try simp only [List.set_cons_succ]); (try simp only [List.set_cons_zero]))
          refine wpAnyH_done (by kernel_rfl) ?_ _
          refine NoPanic.normal ?_
          skip
          have z0 := hHeld.1
          have z1 := hHeld.2.1
          have z2 := hHeld.2.2
          clear hHeld x0 x1 x2
          have O9 := Lib.hid (O.out.below (drew_below wr))
          have B9 := Lib.hid (B.out.trans ((drew_below wr).mono B.out.size))
          clear O B
          generalize wr.drew = w9 at *
          go_wp2_with (at_builtin
                       refine wpList_append_at rfl (.tmp 42) (.tmp 47) 40 rfl W.heap.size 43 ti (.agg #[.int .i64 0, .int .u64 0, .int .u64 0]) 3 24 Try.underlying40 hi0 hz0 hz1 hz2 rfl (by decide) (.slice sa kk sc) kk (lgC ((l.take k).filter (keepX l))) rfl ?h1 _ _ _ (xC x) rfl ?h2 ?h3 ?h4 ?h5 ?h6 ?h7 ?h8 ?_
                       case h1 =>
                         have h := (O9.out.below (boxb w9 (.cells #[.int .i64 x.f, .int .u64 (x.n : Int), .int .u64 (x.t : Int)] 43))).own
                         rw [HL.out] at h
                         exact h
                       case h2 => rfl
                       case h3 => intro e; cases e
                       case h4 => exact ent_cells w9 x _
                       case h5 => exact xC_one x
                       case h6 => have := KB.out; unfold maxLen; omega
                       case h7 => have := KB.out; omega
                       case h8 => have := B9.out.size; simp; omega
                       intro v5 w5 hown5 hgr5 hat5
                       have R5 := Lib.hid (O9.out.push (s' := v5) OX.out (by rw [HL.out]; exact hown5))
                       have B5 := Lib.hid ((B9.out.trans ((boxb w9 (.cells #[.int .i64 x.f, .int .u64 (x.n : Int), .int .u64 (x.t : Int)] 43)).mono B9.out.size)).grown hgr5 (Nat.le_trans B9.out.size (by simp)) (fun j hj => (O9.out.own.lt j hj).1))
                       clear hown5 hgr5 hat5)
          go_roundw
          case rel => exact ⟨k + 1, by omega, by go_num, by rw [TM.out, if_pos KX.out]; exact R5.out, B5.out⟩
          case measure => simp only [intOf]; omega
        · have ht0 : x.t = 0 := by omega
          have d1 : ((x.t : Int) != 0) = false := by rw [ne_word]; exact decide_eq_false ht
          have KL := Lib.hid (keep_l (l := l) ht0)
          clear ht ht0
          obtain ⟨k1, hk1⟩ : ∃ q, q = k + 1 := ⟨_, rfl⟩
          have HN1 := Lib.hid (show k + 1 ≤ n from hlt)
          have hadd : IntKind.i64.wrap ((k : Int) + 1) = (k1 : Int) := by rw [IntKind.wrap_i64]; omega
          by_cases hl1 : k1 = n
          · have d2 : ((k1 : Int) == (n : Int)) = true := beq_iff_eq.2 (by omega)
            have KX := Lib.hid (show keepX l x = true by rw [KL.out]; exact PA.out.2 (Or.inl (by rw [LN.out]; omega)))
            have HK1 := Lib.hid hk1
            clear hl1 hk1
            go_upto_region 7 with fail
            refine wp_region_noPanic ?_
            refine wp_region_held_drew (S := (fun w' => w'.cell? ⟨b, off + k * 3, none⟩ = some (.int .i64 x.f) ∧ w'.cell? ⟨b, off + k * 3 + 1, none⟩ = some (.int .u64 (x.n : Int)) ∧ w'.cell? ⟨b, off + k * 3 + 2, none⟩ = some (.int .u64 (x.t : Int)))) (by kernel_rfl) ?_ (fun hHeld => ?_)
            · exact ⟨x0, x1, x2⟩
            refine wpAnyH_take (i := 0) (oi := { dst := some 15, op := Op.move (Operand.tmp 0), type := 40, pos := "ref.go:202", after := #[], guard := none }) (v := ?_) rfl (by kernel_rfl) (by kernel_rfl) (by kernel_rfl) (fun _ _ _ h => h) (Or.inl ⟨by rfl, ?_⟩) (by assumption) ?_
            rotate_left
            · (intro w hSw; (try dsimp only at hSw); go_simp; try with_reducible rfl)
            ((try simp only [Act.put]); (try simp only [List.setIfInBounds_toArray]); (try simp only [List.set_cons_succ]); (try simp only [List.set_cons_zero]))
            refine wpAnyH_take (i := 1) (oi := { dst := some 16, op := Op.move (Operand.tmp 4), type := 3, pos := "ref.go:202", after := #[], guard := none }) (v := ?_) rfl (by kernel_rfl) (by kernel_rfl) (by kernel_rfl) (fun _ _ _ h => h) (Or.inl ⟨by rfl, ?_⟩) (by assumption) ?_
            rotate_left
            · (intro w hSw; (try dsimp only at hSw); go_simp; try with_reducible rfl)
            ((try simp only [Act.put]); (try simp only [List.setIfInBounds_toArray]); (try simp only [List.set_cons_succ]); (try simp only [List.set_cons_zero]))
            refine wpAnyH_take (i := 2) (oi := { dst := some 17, op := Op.indexAddr 40 (Operand.tmp 15) (Operand.tmp 16), type := 0, pos := "ref.go:202", after := #[{ on := 0, ground := Ground.data }, { on := 1, ground := Ground.data }], guard := none }) (v := ?_) rfl (by kernel_rfl) (by kernel_rfl) (by kernel_rfl) (fun _ _ _ h => h) (Or.inl ⟨by rfl, ?_⟩) (by assumption) ?_
            rotate_left
            · (intro w hSw; (try dsimp only at hSw); go_simp; try with_reducible rfl)
            ((try simp only [Act.put]); (try simp only [List.setIfInBounds_toArray]); (try simp only [List.set_cons_succ]); (try simp only [List.set_cons_zero]))
            refine wpAnyH_take (i := 3) (oi := { dst := some 18, op := Op.fieldAddr 43 (Operand.tmp 17) 2, type := 0, pos := "ref.go:202", after := #[{ on := 2, ground := Ground.data }], guard := none }) (v := ?_) rfl (by kernel_rfl) (by kernel_rfl) (by kernel_rfl) (fun _ _ _ h => h) (Or.inl ⟨by rfl, ?_⟩) (by assumption) ?_
            rotate_left
            · (intro w hSw; (try dsimp only at hSw); go_simp; try with_reducible rfl)
            ((try simp only [Act.put]); (try simp only [List.setIfInBounds_toArray]); (try simp only [List.set_cons_succ]); (try simp only [List.set_cons_zero]))
            refine wpAnyH_take (i := 4) (oi := { dst := some 19, op := Op.load 23 (Operand.tmp 18), type := 23, pos := "ref.go:202", after := #[{ on := 3, ground := Ground.data }], guard := none }) (v := ?_) rfl (by kernel_rfl) (by kernel_rfl) (by kernel_rfl) (fun _ _ _ h => h) (Or.inl ⟨by rfl, ?_⟩) (by assumption) ?_
            rotate_left
            · (intro w hSw; (try dsimp only at hSw); go_simp; try with_reducible rfl)
            ((try simp only [Act.put]); (try simp only [List.setIfInBounds_toArray]); (try simp only [List.set_cons_succ]); (try simp only [List.set_cons_zero]))
            refine wpAnyH_take (i := 5) (oi := { dst := some 20, op := Op.binOp BinOp.neq 23 (Operand.tmp 19) (Operand.const (Value.int IntKind.u64 0)) 23, type := 4, pos := "ref.go:202", after := #[{ on := 4, ground := Ground.data }], guard := none }) (v := ?_) rfl (by kernel_rfl) (by kernel_rfl) (by kernel_rfl) (fun _ _ _ h => h) (Or.inl ⟨by rfl, ?_⟩) (by assumption) ?_
            rotate_left
            · (intro w hSw; (try dsimp only at hSw); go_simp; try with_reducible rfl)
            ((try simp only [Act.put]); (try simp only [List.setIfInBounds_toArray]); (try simp only [List.set_cons_succ]); (try simp only [List.set_cons_zero]))
            refine wpAnyH_take (i := 6) (oi := { dst := some 21, op := Op.move (Operand.tmp 20), type := 4, pos := "ref.go:202", after := #[{ on := 5, ground := Ground.data }], guard := none }) (v := ?_) rfl (by kernel_rfl) (by kernel_rfl) (by kernel_rfl) (fun _ _ _ h => h) (Or.inl ⟨by rfl, ?_⟩) (by assumption) ?_
            rotate_left
            · (intro w hSw; (try dsimp only at hSw); go_simp; try with_reducible rfl)
            ((try simp only [Act.put]); (try simp only [List.setIfInBounds_toArray]); (try simp only [List.set_cons_succ]); (try simp only [List.set_cons_zero]))
            refine wpAnyH_take (i := 7) (oi := { dst := some 22, op := Op.move (Operand.tmp 4), type := 3, pos := "ref.go:202", after := #[{ on := 6, ground := Ground.guard }], guard := some (6, false) }) (v := ?_) rfl (by kernel_rfl) (by kernel_rfl) (by kernel_rfl) (fun _ _ _ h => h) (Or.inl ⟨by rfl, ?_⟩) (by assumption) ?_
            rotate_left
            · (intro w hSw; (try dsimp only at hSw); go_simp; try with_reducible rfl)
            ((try simp only [Act.put]); (try simp only [List.setIfInBounds_toArray]); (try simp only [List.set_cons_succ]); (try simp only [List.set_cons_zero]))
            refine wpAnyH_take (i := 8) (oi := { dst := some 23, op := Op.binOp BinOp.add 3 (Operand.tmp 22) (Operand.const (Value.int IntKind.i64 1)) 3, type := 3, pos := "ref.go:202", after := #[{ on := 7, ground := Ground.data }, { on := 6, ground := Ground.guard }], guard := some (6, false) }) (v := ?_) rfl (by kernel_rfl) (by kernel_rfl) (by kernel_rfl) (fun _ _ _ h => h) (Or.inl ⟨by rfl, ?_⟩) (by assumption) ?_
            rotate_left
            · (intro w hSw; (try dsimp only at hSw); go_simp; try with_reducible rfl)
            ((try simp only [Act.put]); (try simp only [List.setIfInBounds_toArray]); (try simp only [List.set_cons_succ]); (try simp only [List.set_cons_zero]))
            refine wpAnyH_take (i := 9) (oi := { dst := some 24, op := Op.move (Operand.tmp 0), type := 40, pos := "ref.go:202", after := #[{ on := 6, ground := Ground.guard }], guard := some (6, false) }) (v := ?_) rfl (by kernel_rfl) (by kernel_rfl) (by kernel_rfl) (fun _ _ _ h => h) (Or.inl ⟨by rfl, ?_⟩) (by assumption) ?_
            rotate_left
            · (intro w hSw; (try dsimp only at hSw); go_simp; try with_reducible rfl)
            ((try simp only [Act.put]); (try simp only [List.setIfInBounds_toArray]); (try simp only [List.set_cons_succ]); (try simp only [List.set_cons_zero]))
            refine wpAnyH_take (i := 10) (oi := { dst := some 25, op := Op.call { callee := Callee.builtin Builtin.len, args := #[Operand.tmp 24], argTypes := #[40] }, type := 3, pos := "ref.go:202", after := #[{ on := 9, ground := Ground.data }, { on := 6, ground := Ground.guard }], guard := some (6, false) }) (v := ?_) rfl (by kernel_rfl) (by kernel_rfl) (by kernel_rfl) (fun _ _ _ h => h) (Or.inl ⟨by rfl, ?_⟩) (by assumption) ?_
            rotate_left
            · (intro w hSw; (try dsimp only at hSw); go_simp; try with_reducible rfl)
            ((try simp only [Act.put]); (try simp only [List.setIfInBounds_toArray]); (try simp only [List.set_cons_succ]); (try simp only [List.set_cons_zero]))
            refine wpAnyH_take (i := 11) (oi := { dst := some 26, op := Op.binOp BinOp.eql 3 (Operand.tmp 23) (Operand.tmp 25) 3, type := 4, pos := "ref.go:202", after := #[{ on := 8, ground := Ground.data }, { on := 10, ground := Ground.data }, { on := 6, ground := Ground.guard }], guard := some (6, false) }) (v := ?_) rfl (by kernel_rfl) (by kernel_rfl) (by kernel_rfl) (fun _ _ _ h => h) (Or.inl ⟨by rfl, ?_⟩) (by assumption) ?_
            rotate_left
            · (intro w hSw; (try dsimp only at hSw); go_simp; try with_reducible rfl)
            ((try simp only [Act.put]); (try simp only [List.setIfInBounds_toArray]); (try simp only [List.set_cons_succ]); (try simp only [List.set_cons_zero]))
            refine wpAnyH_take (i := 12) (oi := { dst := some 27, op := Op.pick (Operand.tmp 21) (Operand.const (Value.bool true)) (Operand.tmp 26), type := 4, pos := "ref.go:202", after := #[{ on := 6, ground := Ground.data }, { on := 11, ground := Ground.data }], guard := none }) (v := ?_) rfl (by kernel_rfl) (by kernel_rfl) (by kernel_rfl) (fun _ _ _ h => h) (Or.inl ⟨by rfl, ?_⟩) (by assumption) ?_
            rotate_left
            · (intro w hSw; (try dsimp only at hSw); go_simp; try with_reducible rfl)
            ((try simp only [Act.put]); (try simp only [List.setIfInBounds_toArray]); (try simp only [List.set_cons_succ]); (try simp only [List.set_cons_zero]))
            refine wpAnyH_take (i := 13) (oi := { dst := some 28, op := Op.move (Operand.tmp 27), type := 4, pos := "ref.go:202", after := #[{ on := 12, ground := Ground.data }, { on := 6, ground := Ground.chain }], guard := none }) (v := ?_) rfl (by kernel_rfl) (by kernel_rfl) (by kernel_rfl) (fun _ _ _ h => h) (Or.inl ⟨by rfl, ?_⟩) (by assumption) ?_
            rotate_left
            · (intro w hSw; (try dsimp only at hSw); go_simp; try with_reducible rfl)
            ((try simp only [Act.put]); (try simp only [List.setIfInBounds_toArray]); (try simp only [List.set_cons_succ]); (try simp only [List.set_cons_zero]))
            refine wpAnyH_take (i := 14) (oi := { dst := some 29, op := Op.move (Operand.tmp 0), type := 40, pos := "ref.go:202", after := #[{ on := 13, ground := Ground.guard }], guard := some (13, false) }) (v := undef) rfl (by kernel_rfl) (by kernel_rfl) (by kernel_rfl) (fun _ _ _ h => h) (Or.inr ⟨by rfl, rfl⟩) (by assumption) ?_
            ((try simp only [Act.put]); (try simp only [List.setIfInBounds_toArray]); (try simp only [List.set_cons_succ]); (try simp only [List.set_cons_zero]))
            refine wpAnyH_take (i := 15) (oi := { dst := some 30, op := Op.move (Operand.tmp 4), type := 3, pos := "ref.go:202", after := #[{ on := 13, ground := Ground.guard }], guard := some (13, false) }) (v := undef) rfl (by kernel_rfl) (by kernel_rfl) (by kernel_rfl) (fun _ _ _ h => h) (Or.inr ⟨by rfl, rfl⟩) (by assumption) ?_
            ((try simp only [Act.put]); (try simp only [List.setIfInBounds_toArray]); (try simp only [List.set_cons_succ]); (try simp only [List.set_cons_zero]))
            refine wpAnyH_take (i := 16) (oi := { dst := some 31, op := Op.binOp BinOp.add 3 (Operand.tmp 30) (Operand.const (Value.int IntKind.i64 1)) 3, type := 3, pos := "ref.go:202", after := #[{ on := 15, ground := Ground.data }, { on := 13, ground := Ground.guard }], guard := some (13, false) }) (v := undef) rfl (by kernel_rfl) (by kernel_rfl) (by kernel_rfl) (fun _ _ _ h => h) (Or.inr ⟨by rfl, rfl⟩) (by assumption) ?_
            ((try simp only [Act.put]); (try simp only [List.setIfInBounds_toArray]); (try simp only [List.set_cons_succ]); (try simp only [List.set_cons_zero]))
            refine wpAnyH_take (i := 17) (oi := { dst := some 32, op := Op.indexAddr 40 (Operand.tmp 29) (Operand.tmp 31), type := 0, pos := "ref.go:202", after := #[{ on := 14, ground := Ground.data }, { on := 16, ground := Ground.data }, { on := 13, ground := Ground.guard }], guard := some (13, false) }) (v := undef) rfl (by kernel_rfl) (by kernel_rfl) (by kernel_rfl) (fun _ _ _ h => h) (Or.inr ⟨by rfl, rfl⟩) (by assumption) ?_
            ((try simp only [Act.put]); (try simp only [List.setIfInBounds_toArray]); (try simp only [List.set_cons_succ]); (try simp only [List.set_cons_zero]))
            refine wpAnyH_take (i := 18) (oi := { dst := some 33, op := Op.fieldAddr 43 (Operand.tmp 32) 0, type := 0, pos := "ref.go:202", after := #[{ on := 17, ground := Ground.data }, { on := 13, ground := Ground.guard }], guard := some (13, false) }) (v := undef) rfl (by kernel_rfl) (by kernel_rfl) (by kernel_rfl) (fun _ _ _ h => h) (Or.inr ⟨by rfl, rfl⟩) (by assumption) ?_
            ((try simp only [Act.put]); (try simp only [List.setIfInBounds_toArray]); (try simp only [List.set_cons_succ]); (try simp only [List.set_cons_zero]))
            refine wpAnyH_take (i := 19) (oi := { dst := some 34, op := Op.load 3 (Operand.tmp 33), type := 3, pos := "ref.go:202", after := #[{ on := 18, ground := Ground.data }, { on := 13, ground := Ground.guard }], guard := some (13, false) }) (v := undef) rfl (by kernel_rfl) (by kernel_rfl) (by kernel_rfl) (fun _ _ _ h => h) (Or.inr ⟨by rfl, rfl⟩) (by assumption) ?_
            ((try simp only [Act.put]); (try simp only [List.setIfInBounds_toArray]); (try simp only [List.set_cons_succ]); (try simp only [List.set_cons_zero]))
            refine wpAnyH_take (i := 20) (oi := { dst := some 35, op := Op.move (Operand.tmp 0), type := 40, pos := "ref.go:202", after := #[{ on := 13, ground := Ground.guard }], guard := some (13, false) }) (v := undef) rfl (by kernel_rfl) (by kernel_rfl) (by kernel_rfl) (fun _ _ _ h => h) (Or.inr ⟨by rfl, rfl⟩) (by assumption) ?_
            ((try simp only [Act.put]); (try simp only [List.setIfInBounds_toArray]); (try simp only [List.set_cons_succ]); (try simp only [List.set_cons_zero]))
            refine wpAnyH_take (i := 21) (oi := { dst := some 36, op := Op.move (Operand.tmp 4), type := 3, pos := "ref.go:202", after := #[{ on := 13, ground := Ground.guard }], guard := some (13, false) }) (v := undef) rfl (by kernel_rfl) (by kernel_rfl) (by kernel_rfl) (fun _ _ _ h => h) (Or.inr ⟨by rfl, rfl⟩) (by assumption) ?_
            ((try simp only [Act.put]); (try simp only [List.setIfInBounds_toArray]); (try simp only [List.set_cons_succ]); (try simp only [List.set_cons_zero]))
            refine wpAnyH_take (i := 22) (oi := { dst := some 37, op := Op.indexAddr 40 (Operand.tmp 35) (Operand.tmp 36), type := 0, pos := "ref.go:202", after := #[{ on := 20, ground := Ground.data }, { on := 21, ground := Ground.data }, { on := 13, ground := Ground.guard }], guard := some (13, false) }) (v := undef) rfl (by kernel_rfl) (by kernel_rfl) (by kernel_rfl) (fun _ _ _ h => h) (Or.inr ⟨by rfl, rfl⟩) (by assumption) ?_
            ((try simp only [Act.put]); (try simp only [List.setIfInBounds_toArray]); (try simp only [List.set_cons_succ]); (try simp only [List.set_cons_zero]))
            refine wpAnyH_take (i := 23) (oi := { dst := some 38, op := Op.fieldAddr 43 (Operand.tmp 37) 0, type := 0, pos := "ref.go:202", after := #[{ on := 22, ground := Ground.data }, { on := 13, ground := Ground.guard }], guard := some (13, false) }) (v := undef) rfl (by kernel_rfl) (by kernel_rfl) (by kernel_rfl) (fun _ _ _ h => h) (Or.inr ⟨by rfl, rfl⟩) (by assumption) ?_
            ((try simp only [Act.put]); (try simp only [List.setIfInBounds_toArray]); (try simp only [List.set_cons_succ]); (try simp only [List.set_cons_zero]))
            refine wpAnyH_take (i := 24) (oi := { dst := some 39, op := Op.load 3 (Operand.tmp 38), type := 3, pos := "ref.go:202", after := #[{ on := 23, ground := Ground.data }, { on := 13, ground := Ground.guard }], guard := some (13, false) }) (v := undef) rfl (by kernel_rfl) (by kernel_rfl) (by kernel_rfl) (fun _ _ _ h => h) (Or.inr ⟨by rfl, rfl⟩) (by assumption) ?_
            ((try simp only [Act.put]); (try simp only [List.setIfInBounds_toArray]); (try simp only [List.set_cons_succ]); (try simp only [List.set_cons_zero]))
            refine wpAnyH_take (i := 25) (oi := { dst := some 40, op := Op.binOp BinOp.neq 3 (Operand.tmp 34) (Operand.tmp 39) 3, type := 4, pos := "ref.go:202", after := #[{ on := 19, ground := Ground.data }, { on := 24, ground := Ground.data }, { on := 13, ground := Ground.guard }], guard := some (13, false) }) (v := undef) rfl (by kernel_rfl) (by kernel_rfl) (by kernel_rfl) (fun _ _ _ h => h) (Or.inr ⟨by rfl, rfl⟩) (by assumption) ?_
            ((try simp only [Act.put]); (try simp only [List.setIfInBounds_toArray]); (try simp only [List.set_cons_succ]); (try simp only [List.set_cons_zero]))
            refine wpAnyH_take (i := 26) (oi := { dst := some 41, op := Op.pick (Operand.tmp 28) (Operand.const (Value.bool true)) (Operand.tmp 40), type := 4, pos := "ref.go:202", after := #[{ on := 13, ground := Ground.data }, { on := 25, ground := Ground.data }], guard := none }) (v := ?_) rfl (by kernel_rfl) (by kernel_rfl) (by kernel_rfl) (fun _ _ _ h => h) (Or.inl ⟨by rfl, ?_⟩) (by assumption) ?_
            rotate_left
            · (intro w hSw; (try dsimp only at hSw); go_simp; try with_reducible rfl)
            ((try simp only [Act.put]); (try simp only [List.setIfInBounds_toArray]); (try simp only [List.set_cons_succ]); (try simp only [List.set_cons_zero]))
            refine wpAnyH_done (by kernel_rfl) ?_ _
            refine NoPanic.normal ?_
            skip
            have z0 := hHeld.1
            have z1 := hHeld.2.1
            have z2 := hHeld.2.2
            clear hHeld x0 x1 x2
            have O9 := Lib.hid (O.out.below (drew_below wr))
            have B9 := Lib.hid (B.out.trans ((drew_below wr).mono B.out.size))
            clear O B
            generalize wr.drew = w9 at *
            go_wp2_with (at_builtin
                         refine wpList_append_at rfl (.tmp 42) (.tmp 47) 40 rfl W.heap.size 43 ti (.agg #[.int .i64 0, .int .u64 0, .int .u64 0]) 3 24 Try.underlying40 hi0 hz0 hz1 hz2 rfl (by decide) (.slice sa kk sc) kk (lgC ((l.take k).filter (keepX l))) rfl ?h1 _ _ _ (xC x) rfl ?h2 ?h3 ?h4 ?h5 ?h6 ?h7 ?h8 ?_
                         case h1 =>
                           have h := (O9.out.below (boxb w9 (.cells #[.int .i64 x.f, .int .u64 (x.n : Int), .int .u64 (x.t : Int)] 43))).own
                           rw [HL.out] at h
                           exact h
                         case h2 => rfl
                         case h3 => intro e; cases e
                         case h4 => exact ent_cells w9 x _
                         case h5 => exact xC_one x
                         case h6 => have := KB.out; unfold maxLen; omega
                         case h7 => have := KB.out; omega
                         case h8 => have := B9.out.size; simp; omega
                         intro v5 w5 hown5 hgr5 hat5
                         have R5 := Lib.hid (O9.out.push (s' := v5) OX.out (by rw [HL.out]; exact hown5))
                         have B5 := Lib.hid ((B9.out.trans ((boxb w9 (.cells #[.int .i64 x.f, .int .u64 (x.n : Int), .int .u64 (x.t : Int)] 43)).mono B9.out.size)).grown hgr5 (Nat.le_trans B9.out.size (by simp)) (fun j hj => (O9.out.own.lt j hj).1))
                         clear hown5 hgr5 hat5)
            go_roundw
            case rel => exact ⟨k + 1, HN1.out, by rw [HK1.out], by rw [TM.out, if_pos KX.out]; exact R5.out, B5.out⟩
            case measure => have := HK1.out; have := HN1.out; simp only [intOf]; omega
          · have d2 : ((k1 : Int) == (n : Int)) = false := beq_eq_false_iff_ne.2 (by omega)
            have h1n : k1 < n := by omega
            obtain ⟨b', off', eb, -, -, y0, -, -⟩ := OC.out.cell h1n
            cases eb
            have j0 : (0 : Int) ≤ (k1 : Int) := by omega
            have j1 : (k1 : Int) < (n : Int) := by omega
            have h1l : k + 1 < l.length := by rw [LN.out]; omega
            have ey : l.getD k1 default = l[k + 1] := by subst hk1; exact getD_at h1l
            rw [ey] at y0
            obtain ⟨yf, hyf⟩ : ∃ q, q = l[k + 1].f := ⟨_, rfl⟩
            rw [← hyf] at y0
            have HK1 := Lib.hid hk1
            by_cases hf : yf ≠ x.f
            · have d3 : (yf != x.f) = true := by simpa using hf
              have KX := Lib.hid (show keepX l x = true by rw [KL.out]; exact PA.out.2 (Or.inr ⟨h1l, by rw [← hyf]; exact hf⟩))
              clear hf hyf ey hl1 hk1 h1l
              go_upto_region 7 with fail
              refine wp_region_noPanic ?_
              refine wp_region_held_drew (S := (fun w' => w'.cell? ⟨b, off + k * 3, none⟩ = some (.int .i64 x.f) ∧ w'.cell? ⟨b, off + k * 3 + 1, none⟩ = some (.int .u64 (x.n : Int)) ∧ w'.cell? ⟨b, off + k * 3 + 2, none⟩ = some (.int .u64 (x.t : Int)) ∧ w'.cell? ⟨b, off + k1 * 3, none⟩ = some (.int .i64 yf))) (by kernel_rfl) ?_ (fun hHeld => ?_)
              · exact ⟨x0, x1, x2, y0⟩
              refine wpAnyH_take (i := 0) (oi := { dst := some 15, op := Op.move (Operand.tmp 0), type := 40, pos := "ref.go:202", after := #[], guard := none }) (v := ?_) rfl (by kernel_rfl) (by kernel_rfl) (by kernel_rfl) (fun _ _ _ h => h) (Or.inl ⟨by rfl, ?_⟩) (by assumption) ?_
              rotate_left
              · (intro w hSw; (try dsimp only at hSw); go_simp; try with_reducible rfl)
              ((try simp only [Act.put]); (try simp only [List.setIfInBounds_toArray]); (try simp only [List.set_cons_succ]); (try simp only [List.set_cons_zero]))
              refine wpAnyH_take (i := 1) (oi := { dst := some 16, op := Op.move (Operand.tmp 4), type := 3, pos := "ref.go:202", after := #[], guard := none }) (v := ?_) rfl (by kernel_rfl) (by kernel_rfl) (by kernel_rfl) (fun _ _ _ h => h) (Or.inl ⟨by rfl, ?_⟩) (by assumption) ?_
              rotate_left
              · (intro w hSw; (try dsimp only at hSw); go_simp; try with_reducible rfl)
              ((try simp only [Act.put]); (try simp only [List.setIfInBounds_toArray]); (try simp only [List.set_cons_succ]); (try simp only [List.set_cons_zero]))
              refine wpAnyH_take (i := 2) (oi := { dst := some 17, op := Op.indexAddr 40 (Operand.tmp 15) (Operand.tmp 16), type := 0, pos := "ref.go:202", after := #[{ on := 0, ground := Ground.data }, { on := 1, ground := Ground.data }], guard := none }) (v := ?_) rfl (by kernel_rfl) (by kernel_rfl) (by kernel_rfl) (fun _ _ _ h => h) (Or.inl ⟨by rfl, ?_⟩) (by assumption) ?_
              rotate_left
              · (intro w hSw; (try dsimp only at hSw); go_simp; try with_reducible rfl)
              ((try simp only [Act.put]); (try simp only [List.setIfInBounds_toArray]); (try simp only [List.set_cons_succ]); (try simp only [List.set_cons_zero]))
              refine wpAnyH_take (i := 3) (oi := { dst := some 18, op := Op.fieldAddr 43 (Operand.tmp 17) 2, type := 0, pos := "ref.go:202", after := #[{ on := 2, ground := Ground.data }], guard := none }) (v := ?_) rfl (by kernel_rfl) (by kernel_rfl) (by kernel_rfl) (fun _ _ _ h => h) (Or.inl ⟨by rfl, ?_⟩) (by assumption) ?_
              rotate_left
              · (intro w hSw; (try dsimp only at hSw); go_simp; try with_reducible rfl)
              ((try simp only [Act.put]); (try simp only [List.setIfInBounds_toArray]); (try simp only [List.set_cons_succ]); (try simp only [List.set_cons_zero]))
              refine wpAnyH_take (i := 4) (oi := { dst := some 19, op := Op.load 23 (Operand.tmp 18), type := 23, pos := "ref.go:202", after := #[{ on := 3, ground := Ground.data }], guard := none }) (v := ?_) rfl (by kernel_rfl) (by kernel_rfl) (by kernel_rfl) (fun _ _ _ h => h) (Or.inl ⟨by rfl, ?_⟩) (by assumption) ?_
              rotate_left
              · (intro w hSw; (try dsimp only at hSw); go_simp; try with_reducible rfl)
              ((try simp only [Act.put]); (try simp only [List.setIfInBounds_toArray]); (try simp only [List.set_cons_succ]); (try simp only [List.set_cons_zero]))
              refine wpAnyH_take (i := 5) (oi := { dst := some 20, op := Op.binOp BinOp.neq 23 (Operand.tmp 19) (Operand.const (Value.int IntKind.u64 0)) 23, type := 4, pos := "ref.go:202", after := #[{ on := 4, ground := Ground.data }], guard := none }) (v := ?_) rfl (by kernel_rfl) (by kernel_rfl) (by kernel_rfl) (fun _ _ _ h => h) (Or.inl ⟨by rfl, ?_⟩) (by assumption) ?_
              rotate_left
              · (intro w hSw; (try dsimp only at hSw); go_simp; try with_reducible rfl)
              ((try simp only [Act.put]); (try simp only [List.setIfInBounds_toArray]); (try simp only [List.set_cons_succ]); (try simp only [List.set_cons_zero]))
              refine wpAnyH_take (i := 6) (oi := { dst := some 21, op := Op.move (Operand.tmp 20), type := 4, pos := "ref.go:202", after := #[{ on := 5, ground := Ground.data }], guard := none }) (v := ?_) rfl (by kernel_rfl) (by kernel_rfl) (by kernel_rfl) (fun _ _ _ h => h) (Or.inl ⟨by rfl, ?_⟩) (by assumption) ?_
              rotate_left
              · (intro w hSw; (try dsimp only at hSw); go_simp; try with_reducible rfl)
              ((try simp only [Act.put]); (try simp only [List.setIfInBounds_toArray]); (try simp only [List.set_cons_succ]); (try simp only [List.set_cons_zero]))
              refine wpAnyH_take (i := 7) (oi := { dst := some 22, op := Op.move (Operand.tmp 4), type := 3, pos := "ref.go:202", after := #[{ on := 6, ground := Ground.guard }], guard := some (6, false) }) (v := ?_) rfl (by kernel_rfl) (by kernel_rfl) (by kernel_rfl) (fun _ _ _ h => h) (Or.inl ⟨by rfl, ?_⟩) (by assumption) ?_
              rotate_left
              · (intro w hSw; (try dsimp only at hSw); go_simp; try with_reducible rfl)
              ((try simp only [Act.put]); (try simp only [List.setIfInBounds_toArray]); (try simp only [List.set_cons_succ]); (try simp only [List.set_cons_zero]))
              refine wpAnyH_take (i := 8) (oi := { dst := some 23, op := Op.binOp BinOp.add 3 (Operand.tmp 22) (Operand.const (Value.int IntKind.i64 1)) 3, type := 3, pos := "ref.go:202", after := #[{ on := 7, ground := Ground.data }, { on := 6, ground := Ground.guard }], guard := some (6, false) }) (v := ?_) rfl (by kernel_rfl) (by kernel_rfl) (by kernel_rfl) (fun _ _ _ h => h) (Or.inl ⟨by rfl, ?_⟩) (by assumption) ?_
              rotate_left
              · (intro w hSw; (try dsimp only at hSw); go_simp; try with_reducible rfl)
              ((try simp only [Act.put]); (try simp only [List.setIfInBounds_toArray]); (try simp only [List.set_cons_succ]); (try simp only [List.set_cons_zero]))
              refine wpAnyH_take (i := 9) (oi := { dst := some 24, op := Op.move (Operand.tmp 0), type := 40, pos := "ref.go:202", after := #[{ on := 6, ground := Ground.guard }], guard := some (6, false) }) (v := ?_) rfl (by kernel_rfl) (by kernel_rfl) (by kernel_rfl) (fun _ _ _ h => h) (Or.inl ⟨by rfl, ?_⟩) (by assumption) ?_
              rotate_left
              · (intro w hSw; (try dsimp only at hSw); go_simp; try with_reducible rfl)
              ((try simp only [Act.put]); (try simp only [List.setIfInBounds_toArray]); (try simp only [List.set_cons_succ]); (try simp only [List.set_cons_zero]))
              refine wpAnyH_take (i := 10) (oi := { dst := some 25, op := Op.call { callee := Callee.builtin Builtin.len, args := #[Operand.tmp 24], argTypes := #[40] }, type := 3, pos := "ref.go:202", after := #[{ on := 9, ground := Ground.data }, { on := 6, ground := Ground.guard }], guard := some (6, false) }) (v := ?_) rfl (by kernel_rfl) (by kernel_rfl) (by kernel_rfl) (fun _ _ _ h => h) (Or.inl ⟨by rfl, ?_⟩) (by assumption) ?_
              rotate_left
              · (intro w hSw; (try dsimp only at hSw); go_simp; try with_reducible rfl)
              ((try simp only [Act.put]); (try simp only [List.setIfInBounds_toArray]); (try simp only [List.set_cons_succ]); (try simp only [List.set_cons_zero]))
              refine wpAnyH_take (i := 11) (oi := { dst := some 26, op := Op.binOp BinOp.eql 3 (Operand.tmp 23) (Operand.tmp 25) 3, type := 4, pos := "ref.go:202", after := #[{ on := 8, ground := Ground.data }, { on := 10, ground := Ground.data }, { on := 6, ground := Ground.guard }], guard := some (6, false) }) (v := ?_) rfl (by kernel_rfl) (by kernel_rfl) (by kernel_rfl) (fun _ _ _ h => h) (Or.inl ⟨by rfl, ?_⟩) (by assumption) ?_
              rotate_left
              · (intro w hSw; (try dsimp only at hSw); go_simp; try with_reducible rfl)
              ((try simp only [Act.put]); (try simp only [List.setIfInBounds_toArray]); (try simp only [List.set_cons_succ]); (try simp only [List.set_cons_zero]))
              refine wpAnyH_take (i := 12) (oi := { dst := some 27, op := Op.pick (Operand.tmp 21) (Operand.const (Value.bool true)) (Operand.tmp 26), type := 4, pos := "ref.go:202", after := #[{ on := 6, ground := Ground.data }, { on := 11, ground := Ground.data }], guard := none }) (v := ?_) rfl (by kernel_rfl) (by kernel_rfl) (by kernel_rfl) (fun _ _ _ h => h) (Or.inl ⟨by rfl, ?_⟩) (by assumption) ?_
              rotate_left
              · (intro w hSw; (try dsimp only at hSw); go_simp; try with_reducible rfl)
              ((try simp only [Act.put]); (try simp only [List.setIfInBounds_toArray]); (try simp only [List.set_cons_succ]); (try simp only [List.set_cons_zero]))
              refine wpAnyH_take (i := 13) (oi := { dst := some 28, op := Op.move (Operand.tmp 27), type := 4, pos := "ref.go:202", after := #[{ on := 12, ground := Ground.data }, { on := 6, ground := Ground.chain }], guard := none }) (v := ?_) rfl (by kernel_rfl) (by kernel_rfl) (by kernel_rfl) (fun _ _ _ h => h) (Or.inl ⟨by rfl, ?_⟩) (by assumption) ?_
              rotate_left
              · (intro w hSw; (try dsimp only at hSw); go_simp; try with_reducible rfl)
              ((try simp only [Act.put]); (try simp only [List.setIfInBounds_toArray]); (try simp only [List.set_cons_succ]); (try simp only [List.set_cons_zero]))
              refine wpAnyH_take (i := 14) (oi := { dst := some 29, op := Op.move (Operand.tmp 0), type := 40, pos := "ref.go:202", after := #[{ on := 13, ground := Ground.guard }], guard := some (13, false) }) (v := ?_) rfl (by kernel_rfl) (by kernel_rfl) (by kernel_rfl) (fun _ _ _ h => h) (Or.inl ⟨by rfl, ?_⟩) (by assumption) ?_
              rotate_left
              · (intro w hSw; (try dsimp only at hSw); go_simp; try with_reducible rfl)
              ((try simp only [Act.put]); (try simp only [List.setIfInBounds_toArray]); (try simp only [List.set_cons_succ]); (try simp only [List.set_cons_zero]))
              refine wpAnyH_take (i := 15) (oi := { dst := some 30, op := Op.move (Operand.tmp 4), type := 3, pos := "ref.go:202", after := #[{ on := 13, ground := Ground.guard }], guard := some (13, false) }) (v := ?_) rfl (by kernel_rfl) (by kernel_rfl) (by kernel_rfl) (fun _ _ _ h => h) (Or.inl ⟨by rfl, ?_⟩) (by assumption) ?_
              rotate_left
              · (intro w hSw; (try dsimp only at hSw); go_simp; try with_reducible rfl)
              ((try simp only [Act.put]); (try simp only [List.setIfInBounds_toArray]); (try simp only [List.set_cons_succ]); (try simp only [List.set_cons_zero]))
              refine wpAnyH_take (i := 16) (oi := { dst := some 31, op := Op.binOp BinOp.add 3 (Operand.tmp 30) (Operand.const (Value.int IntKind.i64 1)) 3, type := 3, pos := "ref.go:202", after := #[{ on := 15, ground := Ground.data }, { on := 13, ground := Ground.guard }], guard := some (13, false) }) (v := ?_) rfl (by kernel_rfl) (by kernel_rfl) (by kernel_rfl) (fun _ _ _ h => h) (Or.inl ⟨by rfl, ?_⟩) (by assumption) ?_
              rotate_left
              · (intro w hSw; (try dsimp only at hSw); go_simp; try with_reducible rfl)
              ((try simp only [Act.put]); (try simp only [List.setIfInBounds_toArray]); (try simp only [List.set_cons_succ]); (try simp only [List.set_cons_zero]))
              refine wpAnyH_take (i := 17) (oi := { dst := some 32, op := Op.indexAddr 40 (Operand.tmp 29) (Operand.tmp 31), type := 0, pos := "ref.go:202", after := #[{ on := 14, ground := Ground.data }, { on := 16, ground := Ground.data }, { on := 13, ground := Ground.guard }], guard := some (13, false) }) (v := ?_) rfl (by kernel_rfl) (by kernel_rfl) (by kernel_rfl) (fun _ _ _ h => h) (Or.inl ⟨by rfl, ?_⟩) (by assumption) ?_
              rotate_left
              · (intro w hSw; (try dsimp only at hSw); go_simp; try with_reducible rfl)
              ((try simp only [Act.put]); (try simp only [List.setIfInBounds_toArray]); (try simp only [List.set_cons_succ]); (try simp only [List.set_cons_zero]))
              refine wpAnyH_take (i := 18) (oi := { dst := some 33, op := Op.fieldAddr 43 (Operand.tmp 32) 0, type := 0, pos := "ref.go:202", after := #[{ on := 17, ground := Ground.data }, { on := 13, ground := Ground.guard }], guard := some (13, false) }) (v := ?_) rfl (by kernel_rfl) (by kernel_rfl) (by kernel_rfl) (fun _ _ _ h => h) (Or.inl ⟨by rfl, ?_⟩) (by assumption) ?_
              rotate_left
              · (intro w hSw; (try dsimp only at hSw); go_simp; try with_reducible rfl)
              ((try simp only [Act.put]); (try simp only [List.setIfInBounds_toArray]); (try simp only [List.set_cons_succ]); (try simp only [List.set_cons_zero]))
              refine wpAnyH_take (i := 19) (oi := { dst := some 34, op := Op.load 3 (Operand.tmp 33), type := 3, pos := "ref.go:202", after := #[{ on := 18, ground := Ground.data }, { on := 13, ground := Ground.guard }], guard := some (13, false) }) (v := ?_) rfl (by kernel_rfl) (by kernel_rfl) (by kernel_rfl) (fun _ _ _ h => h) (Or.inl ⟨by rfl, ?_⟩) (by assumption) ?_
              rotate_left
              · (intro w hSw; (try dsimp only at hSw); go_simp; try with_reducible rfl)
              ((try simp only [Act.put]); (try simp only [List.setIfInBounds_toArray]); (try simp only [List.set_cons_succ]); (try simp only [List.set_cons_zero]))
              refine wpAnyH_take (i := 20) (oi := { dst := some 35, op := Op.move (Operand.tmp 0), type := 40, pos := "ref.go:202", after := #[{ on := 13, ground := Ground.guard }], guard := some (13, false) }) (v := ?_) rfl (by kernel_rfl) (by kernel_rfl) (by kernel_rfl) (fun _ _ _ h => h) (Or.inl ⟨by rfl, ?_⟩) (by assumption) ?_
              rotate_left
              · (intro w hSw; (try dsimp only at hSw); go_simp; try with_reducible rfl)
              ((try simp only [Act.put]); (try simp only [List.setIfInBounds_toArray]); (try simp only [List.set_cons_succ]); (try simp only [List.set_cons_zero]))
              refine wpAnyH_take (i := 21) (oi := { dst := some 36, op := Op.move (Operand.tmp 4), type := 3, pos := "ref.go:202", after := #[{ on := 13, ground := Ground.guard }], guard := some (13, false) }) (v := ?_) rfl (by kernel_rfl) (by kernel_rfl) (by kernel_rfl) (fun _ _ _ h => h) (Or.inl ⟨by rfl, ?_⟩) (by assumption) ?_
              rotate_left
              · (intro w hSw; (try dsimp only at hSw); go_simp; try with_reducible rfl)
              ((try simp only [Act.put]); (try simp only [List.setIfInBounds_toArray]); (try simp only [List.set_cons_succ]); (try simp only [List.set_cons_zero]))
              refine wpAnyH_take (i := 22) (oi := { dst := some 37, op := Op.indexAddr 40 (Operand.tmp 35) (Operand.tmp 36), type := 0, pos := "ref.go:202", after := #[{ on := 20, ground := Ground.data }, { on := 21, ground := Ground.data }, { on := 13, ground := Ground.guard }], guard := some (13, false) }) (v := ?_) rfl (by kernel_rfl) (by kernel_rfl) (by kernel_rfl) (fun _ _ _ h => h) (Or.inl ⟨by rfl, ?_⟩) (by assumption) ?_
              rotate_left
              · (intro w hSw; (try dsimp only at hSw); go_simp; try with_reducible rfl)
              ((try simp only [Act.put]); (try simp only [List.setIfInBounds_toArray]); (try simp only [List.set_cons_succ]); (try simp only [List.set_cons_zero]))
              refine wpAnyH_take (i := 23) (oi := { dst := some 38, op := Op.fieldAddr 43 (Operand.tmp 37) 0, type := 0, pos := "ref.go:202", after := #[{ on := 22, ground := Ground.data }, { on := 13, ground := Ground.guard }], guard := some (13, false) }) (v := ?_) rfl (by kernel_rfl) (by kernel_rfl) (by kernel_rfl) (fun _ _ _ h => h) (Or.inl ⟨by rfl, ?_⟩) (by assumption) ?_
              rotate_left
              · (intro w hSw; (try dsimp only at hSw); go_simp; try with_reducible rfl)
              ((try simp only [Act.put]); (try simp only [List.setIfInBounds_toArray]); (try simp only [List.set_cons_succ]); (try simp only [List.set_cons_zero]))
              refine wpAnyH_take (i := 24) (oi := { dst := some 39, op := Op.load 3 (Operand.tmp 38), type := 3, pos := "ref.go:202", after := #[{ on := 23, ground := Ground.data }, { on := 13, ground := Ground.guard }], guard := some (13, false) }) (v := ?_) rfl (by kernel_rfl) (by kernel_rfl) (by kernel_rfl) (fun _ _ _ h => h) (Or.inl ⟨by rfl, ?_⟩) (by assumption) ?_
              rotate_left
              · (intro w hSw; (try dsimp only at hSw); go_simp; try with_reducible rfl)
              ((try simp only [Act.put]); (try simp only [List.setIfInBounds_toArray]); (try simp only [List.set_cons_succ]); (try simp only [List.set_cons_zero]))
              refine wpAnyH_take (i := 25) (oi := { dst := some 40, op := Op.binOp BinOp.neq 3 (Operand.tmp 34) (Operand.tmp 39) 3, type := 4, pos := "ref.go:202", after := #[{ on := 19, ground := Ground.data }, { on := 24, ground := Ground.data }, { on := 13, ground := Ground.guard }], guard := some (13, false) }) (v := ?_) rfl (by kernel_rfl) (by kernel_rfl) (by kernel_rfl) (fun _ _ _ h => h) (Or.inl ⟨by rfl, ?_⟩) (by assumption) ?_
              rotate_left
              · (intro w hSw; (try dsimp only at hSw); go_simp; try with_reducible rfl)
              ((try simp only [Act.put]); (try simp only [List.setIfInBounds_toArray]); (try simp only [List.set_cons_succ]); (try simp only [List.set_cons_zero]))
              refine wpAnyH_take (i := 26) (oi := { dst := some 41, op := Op.pick (Operand.tmp 28) (Operand.const (Value.bool true)) (Operand.tmp 40), type := 4, pos := "ref.go:202", after := #[{ on := 13, ground := Ground.data }, { on := 25, ground := Ground.data }], guard := none }) (v := ?_) rfl (by kernel_rfl) (by kernel_rfl) (by kernel_rfl) (fun _ _ _ h => h) (Or.inl ⟨by rfl, ?_⟩) (by assumption) ?_
              rotate_left
              · (intro w hSw; (try dsimp only at hSw); go_simp; try with_reducible rfl)
              ((try simp only [Act.put]); (try simp only [List.setIfInBounds_toArray]); (try simp only [List.set_cons_succ]); (try simp only [List.set_cons_zero]))
              refine wpAnyH_done (by kernel_rfl) ?_ _
              refine NoPanic.normal ?_
              skip
              have z0 := hHeld.1
              have z1 := hHeld.2.1
              have z2 := hHeld.2.2.1
              clear hHeld x0 x1 x2 y0
              have O9 := Lib.hid (O.out.below (drew_below wr))
              have B9 := Lib.hid (B.out.trans ((drew_below wr).mono B.out.size))
              clear O B
              generalize wr.drew = w9 at *
              go_wp2_with (at_builtin
                           refine wpList_append_at rfl (.tmp 42) (.tmp 47) 40 rfl W.heap.size 43 ti (.agg #[.int .i64 0, .int .u64 0, .int .u64 0]) 3 24 Try.underlying40 hi0 hz0 hz1 hz2 rfl (by decide) (.slice sa kk sc) kk (lgC ((l.take k).filter (keepX l))) rfl ?h1 _ _ _ (xC x) rfl ?h2 ?h3 ?h4 ?h5 ?h6 ?h7 ?h8 ?_
                           case h1 =>
                             have h := (O9.out.below (boxb w9 (.cells #[.int .i64 x.f, .int .u64 (x.n : Int), .int .u64 (x.t : Int)] 43))).own
                             rw [HL.out] at h
                             exact h
                           case h2 => rfl
                           case h3 => intro e; cases e
                           case h4 => exact ent_cells w9 x _
                           case h5 => exact xC_one x
                           case h6 => have := KB.out; unfold maxLen; omega
                           case h7 => have := KB.out; omega
                           case h8 => have := B9.out.size; simp; omega
                           intro v5 w5 hown5 hgr5 hat5
                           have R5 := Lib.hid (O9.out.push (s' := v5) OX.out (by rw [HL.out]; exact hown5))
                           have B5 := Lib.hid ((B9.out.trans ((boxb w9 (.cells #[.int .i64 x.f, .int .u64 (x.n : Int), .int .u64 (x.t : Int)] 43)).mono B9.out.size)).grown hgr5 (Nat.le_trans B9.out.size (by simp)) (fun j hj => (O9.out.own.lt j hj).1))
                           clear hown5 hgr5 hat5)
              go_roundw
              case rel => exact ⟨k + 1, HN1.out, by rw [HK1.out], by rw [TM.out, if_pos KX.out]; exact R5.out, B5.out⟩
              case measure => have := HK1.out; have := HN1.out; simp only [intOf]; omega
            · have d3 : (yf != x.f) = false := by simpa using hf
              have KX := Lib.hid (show ¬ keepX l x = true by
                rw [KL.out]
                intro h
                rcases PA.out.1 h with h | ⟨h, h2⟩
                · rw [LN.out] at h; omega
                · exact hf (by rw [hyf]; exact h2))
              clear hf hyf ey hl1 hk1 h1l
              go_upto_region 7 with fail
              refine wp_region_noPanic ?_
              refine wp_region_held_drew (S := (fun w' => w'.cell? ⟨b, off + k * 3, none⟩ = some (.int .i64 x.f) ∧ w'.cell? ⟨b, off + k * 3 + 1, none⟩ = some (.int .u64 (x.n : Int)) ∧ w'.cell? ⟨b, off + k * 3 + 2, none⟩ = some (.int .u64 (x.t : Int)) ∧ w'.cell? ⟨b, off + k1 * 3, none⟩ = some (.int .i64 yf))) (by kernel_rfl) ?_ (fun hHeld => ?_)
              · exact ⟨x0, x1, x2, y0⟩
              refine wpAnyH_take (i := 0) (oi := { dst := some 15, op := Op.move (Operand.tmp 0), type := 40, pos := "ref.go:202", after := #[], guard := none }) (v := ?_) rfl (by kernel_rfl) (by kernel_rfl) (by kernel_rfl) (fun _ _ _ h => h) (Or.inl ⟨by rfl, ?_⟩) (by assumption) ?_
              rotate_left
              · (intro w hSw; (try dsimp only at hSw); go_simp; try with_reducible rfl)
              ((try simp only [Act.put]); (try simp only [List.setIfInBounds_toArray]); (try simp only [List.set_cons_succ]); (try simp only [List.set_cons_zero]))
              refine wpAnyH_take (i := 1) (oi := { dst := some 16, op := Op.move (Operand.tmp 4), type := 3, pos := "ref.go:202", after := #[], guard := none }) (v := ?_) rfl (by kernel_rfl) (by kernel_rfl) (by kernel_rfl) (fun _ _ _ h => h) (Or.inl ⟨by rfl, ?_⟩) (by assumption) ?_
              rotate_left
              · (intro w hSw; (try dsimp only at hSw); go_simp; try with_reducible rfl)
              ((try simp only [Act.put]); (try simp only [List.setIfInBounds_toArray]); (try simp only [List.set_cons_succ]); (try simp only [List.set_cons_zero]))
              refine wpAnyH_take (i := 2) (oi := { dst := some 17, op := Op.indexAddr 40 (Operand.tmp 15) (Operand.tmp 16), type := 0, pos := "ref.go:202", after := #[{ on := 0, ground := Ground.data }, { on := 1, ground := Ground.data }], guard := none }) (v := ?_) rfl (by kernel_rfl) (by kernel_rfl) (by kernel_rfl) (fun _ _ _ h => h) (Or.inl ⟨by rfl, ?_⟩) (by assumption) ?_
              rotate_left
              · (intro w hSw; (try dsimp only at hSw); go_simp; try with_reducible rfl)
              ((try simp only [Act.put]); (try simp only [List.setIfInBounds_toArray]); (try simp only [List.set_cons_succ]); (try simp only [List.set_cons_zero]))
              refine wpAnyH_take (i := 3) (oi := { dst := some 18, op := Op.fieldAddr 43 (Operand.tmp 17) 2, type := 0, pos := "ref.go:202", after := #[{ on := 2, ground := Ground.data }], guard := none }) (v := ?_) rfl (by kernel_rfl) (by kernel_rfl) (by kernel_rfl) (fun _ _ _ h => h) (Or.inl ⟨by rfl, ?_⟩) (by assumption) ?_
              rotate_left
              · (intro w hSw; (try dsimp only at hSw); go_simp; try with_reducible rfl)
              ((try simp only [Act.put]); (try simp only [List.setIfInBounds_toArray]); (try simp only [List.set_cons_succ]); (try simp only [List.set_cons_zero]))
              refine wpAnyH_take (i := 4) (oi := { dst := some 19, op := Op.load 23 (Operand.tmp 18), type := 23, pos := "ref.go:202", after := #[{ on := 3, ground := Ground.data }], guard := none }) (v := ?_) rfl (by kernel_rfl) (by kernel_rfl) (by kernel_rfl) (fun _ _ _ h => h) (Or.inl ⟨by rfl, ?_⟩) (by assumption) ?_
              rotate_left
              · (intro w hSw; (try dsimp only at hSw); go_simp; try with_reducible rfl)
              ((try simp only [Act.put]); (try simp only [List.setIfInBounds_toArray]); (try simp only [List.set_cons_succ]); (try simp only [List.set_cons_zero]))
              refine wpAnyH_take (i := 5) (oi := { dst := some 20, op := Op.binOp BinOp.neq 23 (Operand.tmp 19) (Operand.const (Value.int IntKind.u64 0)) 23, type := 4, pos := "ref.go:202", after := #[{ on := 4, ground := Ground.data }], guard := none }) (v := ?_) rfl (by kernel_rfl) (by kernel_rfl) (by kernel_rfl) (fun _ _ _ h => h) (Or.inl ⟨by rfl, ?_⟩) (by assumption) ?_
              rotate_left
              · (intro w hSw; (try dsimp only at hSw); go_simp; try with_reducible rfl)
              ((try simp only [Act.put]); (try simp only [List.setIfInBounds_toArray]); (try simp only [List.set_cons_succ]); (try simp only [List.set_cons_zero]))
              refine wpAnyH_take (i := 6) (oi := { dst := some 21, op := Op.move (Operand.tmp 20), type := 4, pos := "ref.go:202", after := #[{ on := 5, ground := Ground.data }], guard := none }) (v := ?_) rfl (by kernel_rfl) (by kernel_rfl) (by kernel_rfl) (fun _ _ _ h => h) (Or.inl ⟨by rfl, ?_⟩) (by assumption) ?_
              rotate_left
              · (intro w hSw; (try dsimp only at hSw); go_simp; try with_reducible rfl)
              ((try simp only [Act.put]); (try simp only [List.setIfInBounds_toArray]); (try simp only [List.set_cons_succ]); (try simp only [List.set_cons_zero]))
              refine wpAnyH_take (i := 7) (oi := { dst := some 22, op := Op.move (Operand.tmp 4), type := 3, pos := "ref.go:202", after := #[{ on := 6, ground := Ground.guard }], guard := some (6, false) }) (v := ?_) rfl (by kernel_rfl) (by kernel_rfl) (by kernel_rfl) (fun _ _ _ h => h) (Or.inl ⟨by rfl, ?_⟩) (by assumption) ?_
              rotate_left
              · (intro w hSw; (try dsimp only at hSw); go_simp; try with_reducible rfl)
              ((try simp only [Act.put]); (try simp only [List.setIfInBounds_toArray]); (try simp only [List.set_cons_succ]); (try simp only [List.set_cons_zero]))
              refine wpAnyH_take (i := 8) (oi := { dst := some 23, op := Op.binOp BinOp.add 3 (Operand.tmp 22) (Operand.const (Value.int IntKind.i64 1)) 3, type := 3, pos := "ref.go:202", after := #[{ on := 7, ground := Ground.data }, { on := 6, ground := Ground.guard }], guard := some (6, false) }) (v := ?_) rfl (by kernel_rfl) (by kernel_rfl) (by kernel_rfl) (fun _ _ _ h => h) (Or.inl ⟨by rfl, ?_⟩) (by assumption) ?_
              rotate_left
              · (intro w hSw; (try dsimp only at hSw); go_simp; try with_reducible rfl)
              ((try simp only [Act.put]); (try simp only [List.setIfInBounds_toArray]); (try simp only [List.set_cons_succ]); (try simp only [List.set_cons_zero]))
              refine wpAnyH_take (i := 9) (oi := { dst := some 24, op := Op.move (Operand.tmp 0), type := 40, pos := "ref.go:202", after := #[{ on := 6, ground := Ground.guard }], guard := some (6, false) }) (v := ?_) rfl (by kernel_rfl) (by kernel_rfl) (by kernel_rfl) (fun _ _ _ h => h) (Or.inl ⟨by rfl, ?_⟩) (by assumption) ?_
              rotate_left
              · (intro w hSw; (try dsimp only at hSw); go_simp; try with_reducible rfl)
              ((try simp only [Act.put]); (try simp only [List.setIfInBounds_toArray]); (try simp only [List.set_cons_succ]); (try simp only [List.set_cons_zero]))
              refine wpAnyH_take (i := 10) (oi := { dst := some 25, op := Op.call { callee := Callee.builtin Builtin.len, args := #[Operand.tmp 24], argTypes := #[40] }, type := 3, pos := "ref.go:202", after := #[{ on := 9, ground := Ground.data }, { on := 6, ground := Ground.guard }], guard := some (6, false) }) (v := ?_) rfl (by kernel_rfl) (by kernel_rfl) (by kernel_rfl) (fun _ _ _ h => h) (Or.inl ⟨by rfl, ?_⟩) (by assumption) ?_
              rotate_left
              · (intro w hSw; (try dsimp only at hSw); go_simp; try with_reducible rfl)
              ((try simp only [Act.put]); (try simp only [List.setIfInBounds_toArray]); (try simp only [List.set_cons_succ]); (try simp only [List.set_cons_zero]))
              refine wpAnyH_take (i := 11) (oi := { dst := some 26, op := Op.binOp BinOp.eql 3 (Operand.tmp 23) (Operand.tmp 25) 3, type := 4, pos := "ref.go:202", after := #[{ on := 8, ground := Ground.data }, { on := 10, ground := Ground.data }, { on := 6, ground := Ground.guard }], guard := some (6, false) }) (v := ?_) rfl (by kernel_rfl) (by kernel_rfl) (by kernel_rfl) (fun _ _ _ h => h) (Or.inl ⟨by rfl, ?_⟩) (by assumption) ?_
              rotate_left
              · (intro w hSw; (try dsimp only at hSw); go_simp; try with_reducible rfl)
              ((try simp only [Act.put]); (try simp only [List.setIfInBounds_toArray]); (try simp only [List.set_cons_succ]); (try simp only [List.set_cons_zero]))
              refine wpAnyH_take (i := 12) (oi := { dst := some 27, op := Op.pick (Operand.tmp 21) (Operand.const (Value.bool true)) (Operand.tmp 26), type := 4, pos := "ref.go:202", after := #[{ on := 6, ground := Ground.data }, { on := 11, ground := Ground.data }], guard := none }) (v := ?_) rfl (by kernel_rfl) (by kernel_rfl) (by kernel_rfl) (fun _ _ _ h => h) (Or.inl ⟨by rfl, ?_⟩) (by assumption) ?_
              rotate_left
              · (intro w hSw; (try dsimp only at hSw); go_simp; try with_reducible rfl)
              ((try simp only [Act.put]); (try simp only [List.setIfInBounds_toArray]); (try simp only [List.set_cons_succ]); (try simp only [List.set_cons_zero]))
              refine wpAnyH_take (i := 13) (oi := { dst := some 28, op := Op.move (Operand.tmp 27), type := 4, pos := "ref.go:202", after := #[{ on := 12, ground := Ground.data }, { on := 6, ground := Ground.chain }], guard := none }) (v := ?_) rfl (by kernel_rfl) (by kernel_rfl) (by kernel_rfl) (fun _ _ _ h => h) (Or.inl ⟨by rfl, ?_⟩) (by assumption) ?_
              rotate_left
              · (intro w hSw; (try dsimp only at hSw); go_simp; try with_reducible rfl)
              ((try simp only [Act.put]); (try simp only [List.setIfInBounds_toArray]); (try simp only [List.set_cons_succ]); (try simp only [List.set_cons_zero]))
              refine wpAnyH_take (i := 14) (oi := { dst := some 29, op := Op.move (Operand.tmp 0), type := 40, pos := "ref.go:202", after := #[{ on := 13, ground := Ground.guard }], guard := some (13, false) }) (v := ?_) rfl (by kernel_rfl) (by kernel_rfl) (by kernel_rfl) (fun _ _ _ h => h) (Or.inl ⟨by rfl, ?_⟩) (by assumption) ?_
              rotate_left
              · (intro w hSw; (try dsimp only at hSw); go_simp; try with_reducible rfl)
              ((try simp only [Act.put]); (try simp only [List.setIfInBounds_toArray]); (try simp only [List.set_cons_succ]); (try simp only [List.set_cons_zero]))
              refine wpAnyH_take (i := 15) (oi := { dst := some 30, op := Op.move (Operand.tmp 4), type := 3, pos := "ref.go:202", after := #[{ on := 13, ground := Ground.guard }], guard := some (13, false) }) (v := ?_) rfl (by kernel_rfl) (by kernel_rfl) (by kernel_rfl) (fun _ _ _ h => h) (Or.inl ⟨by rfl, ?_⟩) (by assumption) ?_
              rotate_left
              · (intro w hSw; (try dsimp only at hSw); go_simp; try with_reducible rfl)
              ((try simp only [Act.put]); (try simp only [List.setIfInBounds_toArray]); (try simp only [List.set_cons_succ]); (try simp only [List.set_cons_zero]))
              refine wpAnyH_take (i := 16) (oi := { dst := some 31, op := Op.binOp BinOp.add 3 (Operand.tmp 30) (Operand.const (Value.int IntKind.i64 1)) 3, type := 3, pos := "ref.go:202", after := #[{ on := 15, ground := Ground.data }, { on := 13, ground := Ground.guard }], guard := some (13, false) }) (v := ?_) rfl (by kernel_rfl) (by kernel_rfl) (by kernel_rfl) (fun _ _ _ h => h) (Or.inl ⟨by rfl, ?_⟩) (by assumption) ?_
              rotate_left
              · (intro w hSw; (try dsimp only at hSw); go_simp; try with_reducible rfl)
              ((try simp only [Act.put]); (try simp only [List.setIfInBounds_toArray]); (try simp only [List.set_cons_succ]); (try simp only [List.set_cons_zero]))
              refine wpAnyH_take (i := 17) (oi := { dst := some 32, op := Op.indexAddr 40 (Operand.tmp 29) (Operand.tmp 31), type := 0, pos := "ref.go:202", after := #[{ on := 14, ground := Ground.data }, { on := 16, ground := Ground.data }, { on := 13, ground := Ground.guard }], guard := some (13, false) }) (v := ?_) rfl (by kernel_rfl) (by kernel_rfl) (by kernel_rfl) (fun _ _ _ h => h) (Or.inl ⟨by rfl, ?_⟩) (by assumption) ?_
              rotate_left
              · (intro w hSw; (try dsimp only at hSw); go_simp; try with_reducible rfl)
              ((try simp only [Act.put]); (try simp only [List.setIfInBounds_toArray]); (try simp only [List.set_cons_succ]); (try simp only [List.set_cons_zero]))
              refine wpAnyH_take (i := 18) (oi := { dst := some 33, op := Op.fieldAddr 43 (Operand.tmp 32) 0, type := 0, pos := "ref.go:202", after := #[{ on := 17, ground := Ground.data }, { on := 13, ground := Ground.guard }], guard := some (13, false) }) (v := ?_) rfl (by kernel_rfl) (by kernel_rfl) (by kernel_rfl) (fun _ _ _ h => h) (Or.inl ⟨by rfl, ?_⟩) (by assumption) ?_
              rotate_left
              · (intro w hSw; (try dsimp only at hSw); go_simp; try with_reducible rfl)
              ((try simp only [Act.put]); (try simp only [List.setIfInBounds_toArray]); (try simp only [List.set_cons_succ]); (try simp only [List.set_cons_zero]))
              refine wpAnyH_take (i := 19) (oi := { dst := some 34, op := Op.load 3 (Operand.tmp 33), type := 3, pos := "ref.go:202", after := #[{ on := 18, ground := Ground.data }, { on := 13, ground := Ground.guard }], guard := some (13, false) }) (v := ?_) rfl (by kernel_rfl) (by kernel_rfl) (by kernel_rfl) (fun _ _ _ h => h) (Or.inl ⟨by rfl, ?_⟩) (by assumption) ?_
              rotate_left
              · (intro w hSw; (try dsimp only at hSw); go_simp; try with_reducible rfl)
              ((try simp only [Act.put]); (try simp only [List.setIfInBounds_toArray]); (try simp only [List.set_cons_succ]); (try simp only [List.set_cons_zero]))
              refine wpAnyH_take (i := 20) (oi := { dst := some 35, op := Op.move (Operand.tmp 0), type := 40, pos := "ref.go:202", after := #[{ on := 13, ground := Ground.guard }], guard := some (13, false) }) (v := ?_) rfl (by kernel_rfl) (by kernel_rfl) (by kernel_rfl) (fun _ _ _ h => h) (Or.inl ⟨by rfl, ?_⟩) (by assumption) ?_
              rotate_left
              · (intro w hSw; (try dsimp only at hSw); go_simp; try with_reducible rfl)
              ((try simp only [Act.put]); (try simp only [List.setIfInBounds_toArray]); (try simp only [List.set_cons_succ]); (try simp only [List.set_cons_zero]))
              refine wpAnyH_take (i := 21) (oi := { dst := some 36, op := Op.move (Operand.tmp 4), type := 3, pos := "ref.go:202", after := #[{ on := 13, ground := Ground.guard }], guard := some (13, false) }) (v := ?_) rfl (by kernel_rfl) (by kernel_rfl) (by kernel_rfl) (fun _ _ _ h => h) (Or.inl ⟨by rfl, ?_⟩) (by assumption) ?_
              rotate_left
              · (intro w hSw; (try dsimp only at hSw); go_simp; try with_reducible rfl)
              ((try simp only [Act.put]); (try simp only [List.setIfInBounds_toArray]); (try simp only [List.set_cons_succ]); (try simp only [List.set_cons_zero]))
              refine wpAnyH_take (i := 22) (oi := { dst := some 37, op := Op.indexAddr 40 (Operand.tmp 35) (Operand.tmp 36), type := 0, pos := "ref.go:202", after := #[{ on := 20, ground := Ground.data }, { on := 21, ground := Ground.data }, { on := 13, ground := Ground.guard }], guard := some (13, false) }) (v := ?_) rfl (by kernel_rfl) (by kernel_rfl) (by kernel_rfl) (fun _ _ _ h => h) (Or.inl ⟨by rfl, ?_⟩) (by assumption) ?_
              rotate_left
              · (intro w hSw; (try dsimp only at hSw); go_simp; try with_reducible rfl)
              ((try simp only [Act.put]); (try simp only [List.setIfInBounds_toArray]); (try simp only [List.set_cons_succ]); (try simp only [List.set_cons_zero]))
              refine wpAnyH_take (i := 23) (oi := { dst := some 38, op := Op.fieldAddr 43 (Operand.tmp 37) 0, type := 0, pos := "ref.go:202", after := #[{ on := 22, ground := Ground.data }, { on := 13, ground := Ground.guard }], guard := some (13, false) }) (v := ?_) rfl (by kernel_rfl) (by kernel_rfl) (by kernel_rfl) (fun _ _ _ h => h) (Or.inl ⟨by rfl, ?_⟩) (by assumption) ?_
              rotate_left
              · (intro w hSw; (try dsimp only at hSw); go_simp; try with_reducible rfl)
              ((try simp only [Act.put]); (try simp only [List.setIfInBounds_toArray]); (try simp only [List.set_cons_succ]); (try simp only [List.set_cons_zero]))
              refine wpAnyH_take (i := 24) (oi := { dst := some 39, op := Op.load 3 (Operand.tmp 38), type := 3, pos := "ref.go:202", after := #[{ on := 23, ground := Ground.data }, { on := 13, ground := Ground.guard }], guard := some (13, false) }) (v := ?_) rfl (by kernel_rfl) (by kernel_rfl) (by kernel_rfl) (fun _ _ _ h => h) (Or.inl ⟨by rfl, ?_⟩) (by assumption) ?_
              rotate_left
              · (intro w hSw; (try dsimp only at hSw); go_simp; try with_reducible rfl)
              ((try simp only [Act.put]); (try simp only [List.setIfInBounds_toArray]); (try simp only [List.set_cons_succ]); (try simp only [List.set_cons_zero]))
              refine wpAnyH_take (i := 25) (oi := { dst := some 40, op := Op.binOp BinOp.neq 3 (Operand.tmp 34) (Operand.tmp 39) 3, type := 4, pos := "ref.go:202", after := #[{ on := 19, ground := Ground.data }, { on := 24, ground := Ground.data }, { on := 13, ground := Ground.guard }], guard := some (13, false) }) (v := ?_) rfl (by kernel_rfl) (by kernel_rfl) (by kernel_rfl) (fun _ _ _ h => h) (Or.inl ⟨by rfl, ?_⟩) (by assumption) ?_
              rotate_left
              · (intro w hSw; (try dsimp only at hSw); go_simp; try with_reducible rfl)
              ((try simp only [Act.put]); (try simp only [List.setIfInBounds_toArray]); (try simp only [List.set_cons_succ]); (try simp only [List.set_cons_zero]))
              refine wpAnyH_take (i := 26) (oi := { dst := some 41, op := Op.pick (Operand.tmp 28) (Operand.const (Value.bool true)) (Operand.tmp 40), type := 4, pos := "ref.go:202", after := #[{ on := 13, ground := Ground.data }, { on := 25, ground := Ground.data }], guard := none }) (v := ?_) rfl (by kernel_rfl) (by kernel_rfl) (by kernel_rfl) (fun _ _ _ h => h) (Or.inl ⟨by rfl, ?_⟩) (by assumption) ?_
              rotate_left
              · (intro w hSw; (try dsimp only at hSw); go_simp; try with_reducible rfl)
              ((try simp only [Act.put]); (try simp only [List.setIfInBounds_toArray]); (try simp only [List.set_cons_succ]); (try simp only [List.set_cons_zero]))
              refine wpAnyH_done (by kernel_rfl) ?_ _
              refine NoPanic.normal ?_
              skip
              have O9 := Lib.hid (O.out.below (drew_below wr))
              have B9 := Lib.hid (B.out.trans ((drew_below wr).mono B.out.size))
              clear hHeld O B
              go_wp2_with fail
              go_roundw
              case rel => exact ⟨k + 1, HN1.out, by rw [HK1.out], by rw [TM.out, if_neg KX.out, List.append_nil]; exact O9.out, B9.out⟩
              case measure => have := HK1.out; have := HN1.out; simp only [intOf]; omega
      · obtain rfl : k = n := by omega
        have dk : decide ((k : Int) < (k : Int)) = false := decide_eq_false (by omega)
        have R := Lib.hid (show LgAt (fun j => W.heap.size ≤ j) wr sa sc kk m ∧ m.length = kk from by
          have h := O.out
          have h2 := HL.out
          rw [List.take_of_length_le (by rw [LN.out]; exact Nat.le_refl _), ← HM.out] at h h2
          exact ⟨h.at h2, h2⟩)
        clear O
        go_wp2_with fail
        go_ret
        exact ⟨sa, sc, by rw [R.out.2]; rfl, by rw [R.out.2]; exact R.out.1.mono (fun _ _ h => Or.inr h), B.out⟩

end Go.Proofs.Ytbmpeadoicjpnaa
