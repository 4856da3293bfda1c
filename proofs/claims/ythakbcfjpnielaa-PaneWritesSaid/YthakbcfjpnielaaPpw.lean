/-
  Any parts are written, and read again.
-/
import Derived.Test.YthakbcfjpnielaaPpk
namespace Go.Proofs.Ythakbcfjpnielaa
open Go.RowKit

set_option maxRecDepth 20000 in
set_option maxHeartbeats 8000000 in
theorem law_PaneWrites (l : List Prt) (ao : Option Addr) (cap : Nat) (W : World) (hs : PtAt W ao cap l) : Calls Try.prog 4 #[.slice ao l.length cap] W (Ok W) := by
  have HS := Lib.hid hs
  have hfit := hs.fit
  have hmax := hs.max
  unfold maxLen at hmax
  clear hs
  go_enter Try.func4, Try.ntmps4
  go_wp2_with fail
  refine (awake_any W).mono ?_
  rintro e w0 ⟨rfl, hb0⟩
  have B0 := Lib.hid hb0
  clear hb0
  by_cases hlen : 30 < l.length
  · go_wp2_with fail
    go_ret
    exact ⟨rfl, B0.out⟩
  · go_wp2_with fail
    refine (wnew_any w0 W.heap.size B0.out.size).mono ?_
    rintro e w1 ⟨rfl, hA, hB⟩
    obtain ⟨p, hp⟩ : ∃ p, w0.heap.size = p := ⟨_, rfl⟩
    rw [hp] at hA ⊢
    have hN1 := hA.size.1
    have hT : Two W (w1.alloc (.cells #[.slice none 0 0] 44)) W.heap.size p w1.heap.size (fun k => k = p) (fun k => k = w1.heap.size) [] [] :=
      ⟨hA.below ((Below.refl _ _).alloc (Nat.le_refl _) _), ⟨_, new_wr w1 W.heap.size hN1 _⟩, fun k f g => by have := hA.size.2.1; omega, (B0.out.trans (hB.mono B0.out.size)).trans (((Below.refl _ _).alloc (Nat.le_refl _) _).mono hN1)⟩
    have T1 := Lib.hid hT
    clear hA hB hp hT hN1
    go_wp2_with fail
    obtain ⟨q, hq⟩ : ∃ q, w1.heap.size = q := ⟨_, rfl⟩
    rw [hq] at T1 ⊢
    clear hq
    generalize (w1.alloc (.cells #[.slice none 0 0] 44)) = w2 at T1 ⊢
    go_loopw [5] (fun i wr => WriteRel W W.heap.size p q l i wr) (fun i _ => l.length - (intOf i).toNat)
    case atStart => exact ⟨0, _, _, Nat.zero_le _, rfl, T1.out, by simp⟩
    case round =>
      obtain ⟨j, F, G, hj, rfl, hT, hX⟩ := hrel
      have hl := prtL_len (l.take j) (take_ok (fun i h => (HS.out.ok i h).2.1) hX)
      rw [List.length_take] at hl
      by_cases hlt : j < l.length
      · obtain ⟨b, off, ab, cb, rfl, hab, hK⟩ := part_at HS.out hlt
        have hkr := (HS.out.ok j hlt).1
        have hnr := (HS.out.ok j hlt).2.1
        have hfr := (HS.out.ok j hlt).2.2
        have S1 := Lib.hid (prtL_take hlt)
        have S2 := Lib.hid (fun h => take_more hlt hX h)
        have T := Lib.hid hT
        have KC := Lib.hid hK
        have AB := Lib.hid hab
        have k0 := (hK wr hT.be).1
        have k3 := (hK wr hT.be).2.2.2.1
        clear hT hX hK hab
        generalize l[j] = x at *
        obtain ⟨kind, num, flt, bs⟩ := x
        simp only at hkr hnr hfr k0 k3 S2
        by_cases h100 : 100 < bs.length
        · have be := Lib.hid T.out.be
          go_wp2_with fail
          go_ret
          exact ⟨rfl, be.out⟩
        · have S3 := Lib.hid (S2.out (by omega))
          clear S2
          have split : kind = 0 ∨ kind = 1 ∨ kind = 2 ∨ (¬ kind = 0 ∧ ¬ kind = 1 ∧ ¬ kind = 2) := by omega
          rcases split with h0 | h1 | h2 | ⟨h0, h1, h2⟩
          · subst h0
            have EB := Lib.hid (prtB_num (q := ⟨0, num, flt, bs⟩) (Or.inl rfl))
            have k1 := (KC.out wr T.out.be).2.1
            go_wp2_with fail
            refine (wnum_any wr W.heap.size p F _ num T.out.a hnr (by omega)).mono ?_
            rintro e w3 hp
            obtain ⟨F3, T3'⟩ := T.out.left hp
            obtain ⟨rfl, _⟩ := hp
            have T3 := Lib.hid T3'
            obtain ⟨k0, k1, k2, k3, ks⟩ := KC.out w3 T3'.be
            simp only at k0 k1 k2 k3 ks
            have K3 := Lib.hid ks
            clear T3' ks
            go_wp2_with fail
            refine (rwnum_any w3 W.heap.size q G _ num T3.out.b hnr (by omega)).mono ?_
            rintro e w4 hp
            obtain ⟨G4, T4'⟩ := T3.out.right hp
            obtain ⟨rfl, _⟩ := hp
            have T4 := Lib.hid (show Two W w4 W.heap.size p q F3 G4 (prtL (l.take j) ++ prtB ⟨0, num, flt, bs⟩) (prtL (l.take j) ++ prtB ⟨0, num, flt, bs⟩) from by rw [EB.out]; exact T4')
            clear T4' k0 k1 k2 k3
            go_wp2_with fail
            obtain ⟨X, hX⟩ : ∃ X, X = prtL (l.take (j + 1)) := ⟨_, rfl⟩
            have T4' := T4.out
            rw [← S1.out, ← hX] at T4'
            have HX := Lib.hid hX
            have hXl : X.length ≤ 5000 := by rw [hX, S1.out, List.length_append]; have := prtB_len (q := ⟨0, num, flt, bs⟩) hnr (by simpa using h100); omega
            clear hX T4
            obtain ⟨v, hV⟩ := T4'.b
            obtain ⟨av, capv, rfl, hsv⟩ := hV.slice
            have c4 : w4.drew.cell? ⟨q, 0, none⟩ = some (.slice av X.length capv) := hV.cell
            have hdr : Below w4.heap.size w4 w4.drew := ⟨rfl, rfl, rfl, Nat.le_refl _, fun _ _ => rfl⟩
            have cv4 := conv_any (hsv.below hdr) rfl
            have T4 := Lib.hid T4'
            have V4 := Lib.hid hsv
            have VC := Lib.hid hV.cell
            have hq4 := T4'.b.size.2.1
            clear hV hsv T4' hdr
            go_region_with (go_at_call 14; refine (wdone_any w4.drew W.heap.size p _ X T4.out.a.drew (by omega)).mono ?_
                            rintro e w5 ⟨a5, cap5, rfl, hs5, hb5, _⟩
                            have hb5' : Below w4.heap.size w4 w5 := ⟨hb5.os, hb5.tape, hb5.output, hb5.size, hb5.block⟩
                            have cv5 := conv_any hs5 rfl
                            have cvv := conv_any (V4.out.below hb5') rfl
                            have c5 : w5.cell? ⟨q, 0, none⟩ = some (.slice av X.length capv) := (hb5'.cell (p := ⟨q, 0, none⟩) hq4).trans VC.out
                            have T5 := Lib.hid (T4.out.below hb5')
                            clear hs5 hb5 hb5')
            all_goals
              try go_simp
              go_wp2_with fail
              go_roundw
              case rel => exact ⟨j + 1, _, _, by omega, by go_num, by rw [← HX.out]; exact T5.out, S3.out⟩
              case measure => simp only [intOf]; omega
          · subst h1
            have EB := Lib.hid (prtB_num (q := ⟨1, num, flt, bs⟩) (Or.inr rfl))
            have k1 := (KC.out wr T.out.be).2.1
            go_wp2_with fail
            refine (wset_any wr W.heap.size p F _ num T.out.a hnr (by omega)).mono ?_
            rintro e w3 hp
            obtain ⟨F3, T3'⟩ := T.out.left hp
            obtain ⟨rfl, _⟩ := hp
            have T3 := Lib.hid T3'
            obtain ⟨k0, k1, k2, k3, ks⟩ := KC.out w3 T3'.be
            simp only at k0 k1 k2 k3 ks
            have K3 := Lib.hid ks
            clear T3' ks
            go_wp2_with fail
            refine (rwnum_any w3 W.heap.size q G _ num T3.out.b hnr (by omega)).mono ?_
            rintro e w4 hp
            obtain ⟨G4, T4'⟩ := T3.out.right hp
            obtain ⟨rfl, _⟩ := hp
            have T4 := Lib.hid (show Two W w4 W.heap.size p q F3 G4 (prtL (l.take j) ++ prtB ⟨1, num, flt, bs⟩) (prtL (l.take j) ++ prtB ⟨1, num, flt, bs⟩) from by rw [EB.out]; exact T4')
            clear T4' k0 k1 k2 k3
            go_wp2_with fail
            obtain ⟨X, hX⟩ : ∃ X, X = prtL (l.take (j + 1)) := ⟨_, rfl⟩
            have T4' := T4.out
            rw [← S1.out, ← hX] at T4'
            have HX := Lib.hid hX
            have hXl : X.length ≤ 5000 := by rw [hX, S1.out, List.length_append]; have := prtB_len (q := ⟨1, num, flt, bs⟩) hnr (by simpa using h100); omega
            clear hX T4
            obtain ⟨v, hV⟩ := T4'.b
            obtain ⟨av, capv, rfl, hsv⟩ := hV.slice
            have c4 : w4.drew.cell? ⟨q, 0, none⟩ = some (.slice av X.length capv) := hV.cell
            have hdr : Below w4.heap.size w4 w4.drew := ⟨rfl, rfl, rfl, Nat.le_refl _, fun _ _ => rfl⟩
            have cv4 := conv_any (hsv.below hdr) rfl
            have T4 := Lib.hid T4'
            have V4 := Lib.hid hsv
            have VC := Lib.hid hV.cell
            have hq4 := T4'.b.size.2.1
            clear hV hsv T4' hdr
            go_region_with (go_at_call 14; refine (wdone_any w4.drew W.heap.size p _ X T4.out.a.drew (by omega)).mono ?_
                            rintro e w5 ⟨a5, cap5, rfl, hs5, hb5, _⟩
                            have hb5' : Below w4.heap.size w4 w5 := ⟨hb5.os, hb5.tape, hb5.output, hb5.size, hb5.block⟩
                            have cv5 := conv_any hs5 rfl
                            have cvv := conv_any (V4.out.below hb5') rfl
                            have c5 : w5.cell? ⟨q, 0, none⟩ = some (.slice av X.length capv) := (hb5'.cell (p := ⟨q, 0, none⟩) hq4).trans VC.out
                            have T5 := Lib.hid (T4.out.below hb5')
                            clear hs5 hb5 hb5')
            all_goals
              try go_simp
              go_wp2_with fail
              go_roundw
              case rel => exact ⟨j + 1, _, _, by omega, by go_num, by rw [← HX.out]; exact T5.out, S3.out⟩
              case measure => simp only [intOf]; omega
          · subst h2
            have EB := Lib.hid (prtB_flt (q := ⟨2, num, flt, bs⟩) rfl)
            have k2 := (KC.out wr T.out.be).2.2.1
            go_wp2_with fail
            refine (wfloat_any wr W.heap.size p F _ flt T.out.a hfr (by omega)).mono ?_
            rintro e w3 hp
            obtain ⟨F3, T3'⟩ := T.out.left hp
            obtain ⟨rfl, _⟩ := hp
            have T3 := Lib.hid T3'
            obtain ⟨k0, k1, k2, k3, ks⟩ := KC.out w3 T3'.be
            simp only at k0 k1 k2 k3 ks
            have K3 := Lib.hid ks
            clear T3' ks
            go_wp2_with fail
            refine (rwfloat_any w3 W.heap.size q G _ flt T3.out.b hfr (by omega)).mono ?_
            rintro e w4 hp
            obtain ⟨G4, T4'⟩ := T3.out.right hp
            obtain ⟨rfl, _⟩ := hp
            have T4 := Lib.hid (show Two W w4 W.heap.size p q F3 G4 (prtL (l.take j) ++ prtB ⟨2, num, flt, bs⟩) (prtL (l.take j) ++ prtB ⟨2, num, flt, bs⟩) from by rw [EB.out]; exact T4')
            clear T4' k0 k1 k2 k3
            go_wp2_with fail
            obtain ⟨X, hX⟩ : ∃ X, X = prtL (l.take (j + 1)) := ⟨_, rfl⟩
            have T4' := T4.out
            rw [← S1.out, ← hX] at T4'
            have HX := Lib.hid hX
            have hXl : X.length ≤ 5000 := by rw [hX, S1.out, List.length_append]; have := prtB_len (q := ⟨2, num, flt, bs⟩) hnr (by simpa using h100); omega
            clear hX T4
            obtain ⟨v, hV⟩ := T4'.b
            obtain ⟨av, capv, rfl, hsv⟩ := hV.slice
            have c4 : w4.drew.cell? ⟨q, 0, none⟩ = some (.slice av X.length capv) := hV.cell
            have hdr : Below w4.heap.size w4 w4.drew := ⟨rfl, rfl, rfl, Nat.le_refl _, fun _ _ => rfl⟩
            have cv4 := conv_any (hsv.below hdr) rfl
            have T4 := Lib.hid T4'
            have V4 := Lib.hid hsv
            have VC := Lib.hid hV.cell
            have hq4 := T4'.b.size.2.1
            clear hV hsv T4' hdr
            go_region_with (go_at_call 14; refine (wdone_any w4.drew W.heap.size p _ X T4.out.a.drew (by omega)).mono ?_
                            rintro e w5 ⟨a5, cap5, rfl, hs5, hb5, _⟩
                            have hb5' : Below w4.heap.size w4 w5 := ⟨hb5.os, hb5.tape, hb5.output, hb5.size, hb5.block⟩
                            have cv5 := conv_any hs5 rfl
                            have cvv := conv_any (V4.out.below hb5') rfl
                            have c5 : w5.cell? ⟨q, 0, none⟩ = some (.slice av X.length capv) := (hb5'.cell (p := ⟨q, 0, none⟩) hq4).trans VC.out
                            have T5 := Lib.hid (T4.out.below hb5')
                            clear hs5 hb5 hb5')
            all_goals
              try go_simp
              go_wp2_with fail
              go_roundw
              case rel => exact ⟨j + 1, _, _, by omega, by go_num, by rw [← HX.out]; exact T5.out, S3.out⟩
              case measure => simp only [intOf]; omega
          · have EB := Lib.hid (prtB_bs (q := ⟨kind, num, flt, bs⟩) h0 h1 h2)
            have d0 : (kind == 0) = false := by simp; omega
            have d1 : (kind == 1) = false := by simp; omega
            have d2 : (kind == 2) = false := by simp; omega
            have K1 := Lib.hid (KC.out wr T.out.be).2.2.2.2
            go_wp2_with fail
            refine (wbytes_any wr W.heap.size p F _ bs ab cb T.out.a K1.out (fun ad e h0 f => by have := AB.out ad e h0; have := T.out.a.size.2.2 _ f; omega) (by omega) (by omega)).mono ?_
            rintro e w3 hp
            obtain ⟨F3, T3'⟩ := T.out.left hp
            obtain ⟨rfl, _⟩ := hp
            have T3 := Lib.hid T3'
            obtain ⟨k0, k1, k2, k3, ks⟩ := KC.out w3 T3'.be
            simp only at k0 k1 k2 k3 ks
            have K3 := Lib.hid ks
            clear T3' ks
            go_wp2_with fail
            refine (rwbytes_any w3 W.heap.size q G _ bs ab cb T3.out.b K3.out (fun ad e h0 f => by have := AB.out ad e h0; have := T3.out.b.size.2.2 _ f; omega) (by omega) (by omega)).mono ?_
            rintro e w4 hp
            obtain ⟨G4, T4'⟩ := T3.out.right hp
            obtain ⟨rfl, _⟩ := hp
            have T4 := Lib.hid (show Two W w4 W.heap.size p q F3 G4 (prtL (l.take j) ++ prtB ⟨kind, num, flt, bs⟩) (prtL (l.take j) ++ prtB ⟨kind, num, flt, bs⟩) from by rw [EB.out, ← List.append_assoc]; exact T4')
            clear T4' k0 k1 k2 k3
            go_wp2_with fail
            obtain ⟨X, hX⟩ : ∃ X, X = prtL (l.take (j + 1)) := ⟨_, rfl⟩
            have T4' := T4.out
            rw [← S1.out, ← hX] at T4'
            have HX := Lib.hid hX
            have hXl : X.length ≤ 5000 := by rw [hX, S1.out, List.length_append]; have := prtB_len (q := ⟨kind, num, flt, bs⟩) hnr (by simpa using h100); omega
            clear hX T4
            obtain ⟨v, hV⟩ := T4'.b
            obtain ⟨av, capv, rfl, hsv⟩ := hV.slice
            have c4 : w4.drew.cell? ⟨q, 0, none⟩ = some (.slice av X.length capv) := hV.cell
            have hdr : Below w4.heap.size w4 w4.drew := ⟨rfl, rfl, rfl, Nat.le_refl _, fun _ _ => rfl⟩
            have cv4 := conv_any (hsv.below hdr) rfl
            have T4 := Lib.hid T4'
            have V4 := Lib.hid hsv
            have VC := Lib.hid hV.cell
            have hq4 := T4'.b.size.2.1
            clear hV hsv T4' hdr
            go_region_with (go_at_call 14; refine (wdone_any w4.drew W.heap.size p _ X T4.out.a.drew (by omega)).mono ?_
                            rintro e w5 ⟨a5, cap5, rfl, hs5, hb5, _⟩
                            have hb5' : Below w4.heap.size w4 w5 := ⟨hb5.os, hb5.tape, hb5.output, hb5.size, hb5.block⟩
                            have cv5 := conv_any hs5 rfl
                            have cvv := conv_any (V4.out.below hb5') rfl
                            have c5 : w5.cell? ⟨q, 0, none⟩ = some (.slice av X.length capv) := (hb5'.cell (p := ⟨q, 0, none⟩) hq4).trans VC.out
                            have T5 := Lib.hid (T4.out.below hb5')
                            clear hs5 hb5 hb5')
            all_goals
              try go_simp
              go_wp2_with fail
              go_roundw
              case rel => exact ⟨j + 1, _, _, by omega, by go_num, by rw [← HX.out]; exact T5.out, S3.out⟩
              case measure => simp only [intOf]; omega
      · obtain rfl : j = l.length := by omega
        rw [List.take_length] at hT hX
        have hall := fun (x : Prt) (hx : x ∈ l) => hX x hx
        have hl2 : ∀ k, (prtL (l.drop k)).length ≤ 4000 := fun k => by
          have := prtL_len (l.drop k) (fun x hx => ⟨by obtain ⟨i, hi, rfl⟩ := List.getElem_of_mem (List.mem_of_mem_drop hx); exact (HS.out.ok i hi).2.1, hall x (List.mem_of_mem_drop hx)⟩)
          rw [List.length_drop] at this
          omega
        have HA := Lib.hid hT.a
        have HB := Lib.hid hT.be
        have HL2 := Lib.hid hl2
        have HALL := Lib.hid hall
        have hl0 : (prtL l).length ≤ 4000 := hl2 0
        obtain ⟨L, hL⟩ : ∃ L, L = (prtL l).length := ⟨_, rfl⟩
        rw [← hL] at hl0
        have HL := Lib.hid hL
        clear hT hX hall hl2 hL hl
        go_wp2_with fail
        refine (wdone_any wr W.heap.size p F _ HA.out (by rw [← HL.out]; omega)).mono ?_
        rintro e w3 ⟨a3, cap3, rfl, hs3, hb3, _⟩
        rw [← HL.out]
        have B3 := HB.out.trans (hb3.mono HA.out.size.1)
        have hN3 : W.heap.size ≤ w3.heap.size := Nat.le_trans HA.out.size.1 hb3.size
        go_wp2_with fail
        refine (on_rnew B3 hN3 hs3 HL.out.symm (by omega)).mono ?_
        rintro e w4 ⟨r, S, rfl, hR, _, _, _⟩
        have R4 := Lib.hid hR
        clear hR hs3 hb3 B3 hN3 HA HB HL
        go_wp2_with fail
        go_loopw [7] (fun i wr => BackRel W W.heap.size r S l i wr) (fun i _ => l.length - (intOf i).toNat)
        case atStart => exact ⟨0, Nat.zero_le _, rfl, R4.out⟩
        case round =>
          obtain ⟨j, hj, rfl, hR⟩ := hrel
          by_cases hlt : j < l.length
          · obtain ⟨b, off, ab, cb, rfl, _, hK⟩ := part_at HS.out hlt
            have hkr := (HS.out.ok j hlt).1
            have hnr := (HS.out.ok j hlt).2.1
            have hfr := (HS.out.ok j hlt).2.2
            have h100 := HALL.out l[j] (List.getElem_mem hlt)
            have S1 := Lib.hid (prtL_drop hlt)
            have hl3 := HL2.out j
            have HR := Lib.hid hR
            have HRD := Lib.hid hR.drew
            have KC := Lib.hid hK
            have k0 := (hK wr hR.2.1).1
            have KD := Lib.hid (hK wr.drew hR.drew.2.1)
            have jb : (j : Int) < (l.length : Int) := by omega
            have j0 : (0 : Int) ≤ (j : Int) := by omega
            clear hR hK
            generalize l[j] = x at *
            obtain ⟨kind, num, flt, bs⟩ := x
            simp only at hkr hnr hfr k0 h100
            have split : kind = 0 ∨ kind = 1 ∨ kind = 2 ∨ (¬ kind = 0 ∧ ¬ kind = 1 ∧ ¬ kind = 2) := by omega
            rcases split with h0 | h1 | h2 | ⟨h0, h1, h2⟩
            · subst h0
              have ER := Lib.hid (show numR 18446744073709551615 (some (prtL (l.drop j))) = (num, some (prtL (l.drop (j + 1)))) by rw [S1.out, prtB_num (Or.inl rfl)]; exact num_back hnr (by omega) _)
              have k1 : wr.drew.cell? ⟨b, off + j * 4 + 1, none⟩ = some (.int .u64 (num : Nat)) := KD.out.2.1
              go_wp2_with fail
              go_region_with (go_at_call 19; refine (on_rtop HRD.out ER.out).mono ?_
                              rintro e w5 ⟨rfl, hR5⟩
                              have k5 : w5.cell? ⟨b, off + j * 4 + 1, none⟩ = some (.int .u64 (num : Nat)) := (KC.out w5 hR5.2.1).2.1
                              have R5 := Lib.hid hR5
                              clear hR5)
              all_goals
                try go_simp
                go_wp2_with fail
                go_roundw
                case rel => exact ⟨j + 1, by omega, by go_num, R5.out⟩
                case measure => simp only [intOf]; omega
            · subst h1
              have ER := Lib.hid (show setR 18446744073709551615 (some (prtL (l.drop j))) = (num, some (prtL (l.drop (j + 1)))) by rw [S1.out, prtB_num (Or.inr rfl)]; exact set_back hnr _)
              have k1 : wr.drew.cell? ⟨b, off + j * 4 + 1, none⟩ = some (.int .u64 (num : Nat)) := KD.out.2.1
              go_wp2_with fail
              go_region_with (go_at_call 17; refine (on_rstop HRD.out ER.out).mono ?_
                              rintro e w5 ⟨rfl, hR5⟩
                              have k5 : w5.cell? ⟨b, off + j * 4 + 1, none⟩ = some (.int .u64 (num : Nat)) := (KC.out w5 hR5.2.1).2.1
                              have R5 := Lib.hid hR5
                              clear hR5)
              all_goals
                try go_simp
                go_wp2_with fail
                go_roundw
                case rel => exact ⟨j + 1, by omega, by go_num, R5.out⟩
                case measure => simp only [intOf]; omega
            · subst h2
              have ER := Lib.hid (show fltR (some (prtL (l.drop j))) = (backN flt, some (prtL (l.drop (j + 1)))) by rw [S1.out, prtB_flt rfl]; exact flt_back hfr _)
              have k1 : wr.drew.cell? ⟨b, off + j * 4 + 2, none⟩ = some (.float .f64 flt) := KD.out.2.2.1
              have SM := Lib.hid (fun w => rsame_is w (back_lt hfr) hfr (back_key flt))
              go_wp2_with fail
              go_region_with (first
                | (go_at_call 16; refine (on_rfloat HRD.out ER.out).mono ?_
                   rintro e w5 ⟨rfl, hR5⟩
                   have k5 : w5.cell? ⟨b, off + j * 4 + 2, none⟩ = some (.float .f64 flt) := (KC.out w5 hR5.2.1).2.2.1
                   have R5 := Lib.hid hR5
                   clear hR5)
                | (go_at_call 27; refine (SM.out _).mono ?_; rintro e w6 ⟨rfl, rfl⟩))
              all_goals
                try go_simp
                go_wp2_with fail
                go_roundw
                case rel => exact ⟨j + 1, by omega, by go_num, R5.out⟩
                case measure => simp only [intOf]; omega
            · have d0 : (kind == 0) = false := by simp; omega
              have d1 : (kind == 1) = false := by simp; omega
              have d2 : (kind == 2) = false := by simp; omega
              have ER := Lib.hid (show bytR 100 (some (prtL (l.drop j))) = (bs, some (prtL (l.drop (j + 1)))) by rw [S1.out, prtB_bs h0 h1 h2, List.append_assoc]; exact byt_back (bs := bs) (by omega) (by omega) _)
              have k1 : wr.drew.cell? ⟨b, off + j * 4 + 3, none⟩ = some (.slice ab bs.length cb) := KD.out.2.2.2.1
              have cv1 := conv_any KD.out.2.2.2.2 rfl
              simp only at cv1
              go_wp2_with fail
              go_region_with (go_at_call 20; refine (on_rbytes HRD.out (by decide) (by simp only [Option.getD_some]; omega) ER.out).mono ?_
                              rintro e w5 ⟨a5, cap5, rfl, hs5, hR5⟩
                              have k5 : w5.cell? ⟨b, off + j * 4 + 3, none⟩ = some (.slice ab bs.length cb) := (KC.out w5 hR5.2.1).2.2.2.1
                              have cv5 := conv_any hs5 rfl
                              have cv6 := conv_any (KC.out w5 hR5.2.1).2.2.2.2 rfl
                              simp only at cv6
                              have R5 := Lib.hid hR5
                              clear hR5 hs5)
              all_goals
                try go_simp
                go_wp2_with fail
                go_roundw
                case rel => exact ⟨j + 1, by omega, by go_num, R5.out⟩
                case measure => simp only [intOf]; omega
          · have HR := Lib.hid (show RdOn W W.heap.size r S (some []) wr by rw [List.drop_eq_nil_of_le (by omega)] at hR; exact hR)
            clear hR
            go_wp2_with (go_at_call 18; refine (on_rend (b := true) HR.out rfl).mono ?_; rintro e w' ⟨rfl, rfl⟩)
            go_ret
            exact ⟨rfl, HR.out.2.1⟩

end Go.Proofs.Ythakbcfjpnielaa
