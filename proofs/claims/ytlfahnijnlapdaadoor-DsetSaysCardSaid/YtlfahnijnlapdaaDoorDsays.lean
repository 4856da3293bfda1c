/-
  Any set, any numbers, any text: the walk of the statement.
-/
import Derived.Test.YtlfahnijnlapdaaDoorDorder
namespace Go.Proofs.YtlfahnijnlapdaaDoor
open Go.RowKit

theorem list_first {s : Nat} (hs : s < 18446744073709551616) (h0 : s ≠ 0) : ∃ h : 0 < (listN s).length, (listN s)[0] = firstN s := by
  obtain ⟨hb, hl, hf⟩ := first_bit hs h0
  have hm : firstN s ∈ listN s := mem_toN.2 ⟨hl, hb⟩
  have hlen : 0 < (listN s).length := List.length_pos_of_mem hm
  refine ⟨hlen, ?_⟩
  have h1 : firstN s ≤ (listN s)[0] := by
    have ht := (mem_toN.1 (List.getElem_mem hlen : (listN s)[0] ∈ toN s 64)).2
    rcases Nat.lt_or_ge (listN s)[0] (firstN s) with h | h
    · rw [hf _ h] at ht; cases ht
    · exact h
  obtain ⟨i, hi, e⟩ := List.getElem_of_mem hm
  have hp : (listN s).Pairwise (· < ·) := List.Pairwise.filter _ List.pairwise_lt_range
  have h2 : (listN s)[0] ≤ firstN s := by
    rw [← e]
    rcases Nat.eq_zero_or_pos i with rfl | h
    · exact Nat.le_refl _
    · exact Nat.le_of_lt (List.pairwise_iff_getElem.1 hp 0 i hlen hi h)
  omega
theorem list_zero : listN 0 = [] := by decide

/-- The two readers agree. -/
theorem sync {T : List UInt8} {u : Nat} {ok : Bool} (h1 : ok = true → u = setN T ∧ showN u = T) (h2 : ok = false → u = 0 ∧ showN (setN T) ≠ T) :
    decide (showN (readN T) = T) = ok ∧ (ok = true → readN T = u) := by
  cases ok with
  | true =>
    obtain ⟨e1, e2⟩ := h1 rfl
    have hu : u < 18446744073709551616 := by rw [e1]; exact setN_lt T
    have e3 : readN T = u := by rw [← e2]; exact read_show hu
    exact ⟨decide_eq_true (by rw [e3]; exact e2), fun _ => e3⟩
  | false =>
    obtain ⟨_, e2⟩ := h2 rfl
    refine ⟨decide_eq_false fun h => e2 ?_, fun h => by cases h⟩
    have e3 : setN T = readN T := by
      have := set_show (readN_lt T)
      rwa [h] at this
    rw [e3]; exact h

theorem rparse_is {s : ByteArray} {v : Nat} {r : Bool} {W : World} (hs : s.size ≤ 250) (hv : readN s.data.toList = v) (hr : decide (showN (readN s.data.toList) = s.data.toList) = r) :
    Calls Tryd.prog 16 #[.string s] W fun e w' => e = .returned (.tuple #[.int .u64 (v : Nat), .bool r]) ∧ Below W.heap.size W w' := by
  subst hv hr
  exact rparse_any s W hs

set_option maxRecDepth 20000 in
set_option maxHeartbeats 8000000 in
theorem law_DsetSays (s t : Nat) (l : List Int) (ao : Option Addr) (cap : Nat) (p : Int) (text : ByteArray) (W : World) (hG : Good W) (hs : s < 18446744073709551616) (ht : t < 18446744073709551616) (hsl : SlV W ao cap (l.map iV)) (hok : ∀ x ∈ l, IntOk x) (hp : IntOk p) (hsz : text.size ≤ maxLen) :
    Calls Tryd.prog 4 #[.int .u64 (s : Nat), .int .u64 (t : Nat), .slice ao l.length cap, .int .i64 p, .string text] W (OkPost W) := by
  have G := Lib.hid hG
  have S := Lib.hid hsl
  have X := Lib.hid hok
  have HP := Lib.hid hp
  have hfit := hsl.fit
  have hmax := hsl.max
  unfold maxLen at hmax hsz
  rw [List.length_map] at hfit
  clear hG hsl hok hp
  go_enter Tryd.func4, Tryd.ntmps4
  go_wp2_with fail
  refine (awake_any W G.out).mono ?_
  rintro e w0 ⟨rfl, hb0⟩
  have B0 := Lib.hid hb0
  have S0 := Lib.hid (S.out.below hb0)
  clear hb0 S
  by_cases hlen : 80 < l.length
  · go_wp2_with fail
    go_ret
    exact ⟨rfl, B0.out⟩
  by_cases htl : 250 < text.size
  · go_wp2_with fail
    go_ret
    exact ⟨rfl, B0.out⟩
  go_wp2_with fail
  obtain ⟨f, hf⟩ : ∃ f, firstN s = f := ⟨_, rfl⟩
  obtain ⟨r0, hr0⟩ : ∃ r, decide (s ≠ 0) = r := ⟨_, rfl⟩
  refine (first_is (G.out.below B0.out) hs rfl hf hr0).mono ?_
  rintro e w' ⟨rfl, rfl⟩
  go_wp2_with fail
  refine (parse_any text w0 (by omega) (G.out.below B0.out)).mono ?_
  rintro e w1 ⟨u, ok, rfl, hb1, h1, h2⟩
  obtain ⟨hy, hv⟩ := sync h1 h2
  obtain ⟨v, hve⟩ : ∃ v, readN text.data.toList = v := ⟨_, rfl⟩
  rw [hve] at hv
  have h3 : ok = false → u = 0 := fun h => (h2 h).1
  have HV := Lib.hid hv
  have H3 := Lib.hid h3
  have HE := Lib.hid hve
  have HY := Lib.hid hy
  have B1 := Lib.hid (B0.out.trans (hb1.mono B0.out.size))
  have S1 := Lib.hid (S0.out.below hb1)
  have HF := Lib.hid hf
  have HR := Lib.hid hr0
  clear h1 h2 h3 hv hve hy hb1 B0 S0 hf hr0
  go_wp2_with fail
  refine (rparse_is (by omega) HE.out HY.out).mono ?_
  rintro e w2 ⟨rfl, hb2⟩
  have B2 := Lib.hid (B1.out.trans (hb2.mono B1.out.size))
  have S2 := Lib.hid (S1.out.below hb2)
  clear hb2 B1 S1
  go_wp2_with fail
  refine (rlist_any s w2 hs).mono ?_
  rintro e w3 ⟨a, c, rfl, hl3, hb3⟩
  have B3 := Lib.hid (B2.out.trans (hb3.mono B2.out.size))
  have S3 := Lib.hid (S2.out.below hb3)
  have L3 := Lib.hid hl3
  clear hl3 hb3 B2 S2 HE HY
  have h64 := cntN_le s
  have HC := Lib.hid (fun (V : World) => count_is (W := V) hs (show cntN s = (listN s).length from rfl))
  have HI := Lib.hid (fun (V : World) (a1 : Option Addr) (c1 : Nat) (c2 : Nat) (a2 : Option Addr) (h1 : SlV V a1 c1 ((listN s).map nV)) (h2 : SlV V a2 c2 ((listN s).map nV)) => ints_is (W := V) (r := true) (by rw [nV_map] at h1; exact h1) (by rw [nV_map] at h2; exact h2) (show (List.map (fun (x : Nat) => (x : Int)) (listN s)).length = (listN s).length by simp) (show (List.map (fun (x : Nat) => (x : Int)) (listN s)).length = (listN s).length by simp) (by simp))
  have e3 : bits .andNot .u64 (s : Int) (t : Int) = ((butN s t : Nat) : Int) := u64_andNot_nat s t hs ht
  obtain ⟨r, hr⟩ : ∃ r, decide (butN s t = 0) = r := ⟨_, rfl⟩
  have hq : (((butN s t : Nat) : Int) == 0) = r := by rw [eq_word]; exact hr
  have HW := Lib.hid (fun (V : World) => within_is (W := V) hs ht hr)
  have HS := Lib.hid (fun (V : World) (hV : Good V) => show_any s V hs hV)
  have HT := Lib.hid (fun (V : World) => rshow_any s V hs)
  generalize butN s t = d at *
  clear hr
  have hsS : (⟨(showN s).toArray⟩ : ByteArray).size ≤ 1000 := by
    have h1 := join_len (listN s)
    unfold cntN at h64
    show (showN s).length ≤ 1000
    unfold showN
    simp
    omega
  generalize (⟨(showN s).toArray⟩ : ByteArray) = Z at *
  rcases Nat.eq_zero_or_pos s with h0 | h0
  · have hr : r0 = false := by rw [← HR.out, h0]; rfl
    have hf : f = 0 := by rw [← HF.out, h0]; rfl
    have hn : (listN s).length < 1 := by rw [h0, list_zero]; decide
    subst hr hf
    clear h0 HF HR
    generalize hN : (listN s).length = n at *
    have HL := Lib.hid (fun (V : World) => list_is (W := V) (z := (s : Int)) hs rfl (rfl : listN s = listN s) hN)
    clear hN
    obtain rfl : n = 0 := by omega
    clear hn
    cases ok with
    | true =>
      have hvu := HV.out rfl
      subst hvu
      clear HV H3
      go_wp2_with fail
      refine (of_end S3.out X.out rfl rfl).mono ?_
      rintro e w' ⟨rfl, rfl⟩
      have hol := ofN_lt l
      have HZ := Lib.hid (fun (V : World) (hV : SlV V ao cap (l.map iV)) => rsetOf_any l ao cap V hV X.out)
      generalize ofN l = z at *
      go_wp2_with fail
      refine (HZ.out _ S3.out).mono ?_
      rintro e w' ⟨rfl, rfl⟩
      clear HZ S3
      have HA1 := Lib.hid (fun (V : World) => all_any p V HP.out)
      have HA2 := Lib.hid (fun (V : World) => rallOf_any p V HP.out)
      generalize allN p = y at *
      go_wp2_with fail
      refine (HA1.out _).mono ?_
      rintro e w' ⟨rfl, rfl⟩
      go_wp2_with fail
      refine (HA2.out _).mono ?_
      rintro e w' ⟨rfl, rfl⟩
      clear HA1 HA2
      have HH1 := Lib.hid (fun (V : World) => has_any s p V hs HP.out)
      have HH2 := Lib.hid (fun (V : World) => in_any s p V hs HP.out)
      generalize hasN s p = x at *
      go_wp2_with fail
      refine (HH1.out _).mono ?_
      rintro e w4 ⟨rfl, hb4⟩
      have B4 := Lib.hid (B3.out.trans (hb4.mono B3.out.size))
      have L4 := Lib.hid (L3.out.below hb4)
      clear hb4 B3 L3
      go_wp2_with fail
      refine (HH2.out _).mono ?_
      rintro e w' ⟨rfl, rfl⟩
      clear HH1 HH2
      go_wp2_with fail
      refine (HL.out _).mono ?_
      rintro e w5 ⟨a5, c5, rfl, hl5, hb5⟩
      have B5 := Lib.hid (B4.out.trans (hb5.mono B4.out.size))
      have L5 := Lib.hid (L4.out.below hb5)
      have M5 := Lib.hid hl5
      clear hl5 hb5 B4 L4
      go_wp2_with fail
      refine (HI.out w5 _ _ _ _ M5.out L5.out).mono ?_
      rintro e w6 ⟨rfl, q, rfl⟩
      have B6 := Lib.hid (drewN_below B5.out q)
      clear B5 L5 M5
      generalize w5.drewN q = w6 at *
      go_wp2_with fail
      refine (HC.out _).mono ?_
      rintro e w' ⟨rfl, rfl⟩
      go_wp2_with fail
      refine (HW.out _).mono ?_
      rintro e w' ⟨rfl, rfl⟩
      go_wp2_with fail
      refine (HS.out _ (G.out.below B6.out)).mono ?_
      rintro e w7 ⟨rfl, hb7⟩
      have B7 := Lib.hid (B6.out.trans (hb7.mono B6.out.size))
      clear hb7 B6
      go_wp2_with fail
      refine (HT.out _).mono ?_
      rintro e w8 ⟨rfl, hb8⟩
      have B8 := Lib.hid (B7.out.trans (hb8.mono B7.out.size))
      clear hb8 B7
      go_wp2_with fail
      go_ret
      exact ⟨rfl, B8.out⟩
    | false =>
      have hu0 := H3.out rfl
      subst hu0
      clear HV H3
      go_wp2_with fail
      refine (of_end S3.out X.out rfl rfl).mono ?_
      rintro e w' ⟨rfl, rfl⟩
      have hol := ofN_lt l
      have HZ := Lib.hid (fun (V : World) (hV : SlV V ao cap (l.map iV)) => rsetOf_any l ao cap V hV X.out)
      generalize ofN l = z at *
      go_wp2_with fail
      refine (HZ.out _ S3.out).mono ?_
      rintro e w' ⟨rfl, rfl⟩
      clear HZ S3
      have HA1 := Lib.hid (fun (V : World) => all_any p V HP.out)
      have HA2 := Lib.hid (fun (V : World) => rallOf_any p V HP.out)
      generalize allN p = y at *
      go_wp2_with fail
      refine (HA1.out _).mono ?_
      rintro e w' ⟨rfl, rfl⟩
      go_wp2_with fail
      refine (HA2.out _).mono ?_
      rintro e w' ⟨rfl, rfl⟩
      clear HA1 HA2
      have HH1 := Lib.hid (fun (V : World) => has_any s p V hs HP.out)
      have HH2 := Lib.hid (fun (V : World) => in_any s p V hs HP.out)
      generalize hasN s p = x at *
      go_wp2_with fail
      refine (HH1.out _).mono ?_
      rintro e w4 ⟨rfl, hb4⟩
      have B4 := Lib.hid (B3.out.trans (hb4.mono B3.out.size))
      have L4 := Lib.hid (L3.out.below hb4)
      clear hb4 B3 L3
      go_wp2_with fail
      refine (HH2.out _).mono ?_
      rintro e w' ⟨rfl, rfl⟩
      clear HH1 HH2
      go_wp2_with fail
      refine (HL.out _).mono ?_
      rintro e w5 ⟨a5, c5, rfl, hl5, hb5⟩
      have B5 := Lib.hid (B4.out.trans (hb5.mono B4.out.size))
      have L5 := Lib.hid (L4.out.below hb5)
      have M5 := Lib.hid hl5
      clear hl5 hb5 B4 L4
      go_wp2_with fail
      refine (HI.out w5 _ _ _ _ M5.out L5.out).mono ?_
      rintro e w6 ⟨rfl, q, rfl⟩
      have B6 := Lib.hid (drewN_below B5.out q)
      clear B5 L5 M5
      generalize w5.drewN q = w6 at *
      go_wp2_with fail
      refine (HC.out _).mono ?_
      rintro e w' ⟨rfl, rfl⟩
      go_wp2_with fail
      refine (HW.out _).mono ?_
      rintro e w' ⟨rfl, rfl⟩
      go_wp2_with fail
      refine (HS.out _ (G.out.below B6.out)).mono ?_
      rintro e w7 ⟨rfl, hb7⟩
      have B7 := Lib.hid (B6.out.trans (hb7.mono B6.out.size))
      clear hb7 B6
      go_wp2_with fail
      refine (HT.out _).mono ?_
      rintro e w8 ⟨rfl, hb8⟩
      have B8 := Lib.hid (B7.out.trans (hb8.mono B7.out.size))
      clear hb8 B7
      go_wp2_with fail
      go_ret
      exact ⟨rfl, B8.out⟩
  · have hne : s ≠ 0 := by omega
    have hr : r0 = true := by rw [← HR.out]; exact decide_eq_true hne
    obtain ⟨hn, hfe⟩ := list_first hs hne
    obtain ⟨b, off, rfl, _, hcx⟩ := L3.out.at 0 hn
    rw [hfe, HF.out, Nat.add_zero] at hcx
    have k1 : w3.cell? ⟨b, off, none⟩ = some (.int .i64 (f : Nat)) := hcx
    subst hr
    clear hne h0 HF HR hfe hcx
    generalize hN : (listN s).length = n at *
    have HL := Lib.hid (fun (V : World) => list_is (W := V) (z := (s : Int)) hs rfl (rfl : listN s = listN s) hN)
    clear hN
    cases ok with
    | true =>
      have hvu := HV.out rfl
      subst hvu
      clear HV H3
      go_wp2_with fail
      refine (of_end S3.out X.out rfl rfl).mono ?_
      rintro e w' ⟨rfl, rfl⟩
      have hol := ofN_lt l
      have HZ := Lib.hid (fun (V : World) (hV : SlV V ao cap (l.map iV)) => rsetOf_any l ao cap V hV X.out)
      generalize ofN l = z at *
      go_wp2_with fail
      refine (HZ.out _ S3.out).mono ?_
      rintro e w' ⟨rfl, rfl⟩
      clear HZ S3
      have HA1 := Lib.hid (fun (V : World) => all_any p V HP.out)
      have HA2 := Lib.hid (fun (V : World) => rallOf_any p V HP.out)
      generalize allN p = y at *
      go_wp2_with fail
      refine (HA1.out _).mono ?_
      rintro e w' ⟨rfl, rfl⟩
      go_wp2_with fail
      refine (HA2.out _).mono ?_
      rintro e w' ⟨rfl, rfl⟩
      clear HA1 HA2
      have HH1 := Lib.hid (fun (V : World) => has_any s p V hs HP.out)
      have HH2 := Lib.hid (fun (V : World) => in_any s p V hs HP.out)
      generalize hasN s p = x at *
      go_wp2_with fail
      refine (HH1.out _).mono ?_
      rintro e w4 ⟨rfl, hb4⟩
      have B4 := Lib.hid (B3.out.trans (hb4.mono B3.out.size))
      have L4 := Lib.hid (L3.out.below hb4)
      clear hb4 B3 L3
      go_wp2_with fail
      refine (HH2.out _).mono ?_
      rintro e w' ⟨rfl, rfl⟩
      clear HH1 HH2
      go_wp2_with fail
      refine (HL.out _).mono ?_
      rintro e w5 ⟨a5, c5, rfl, hl5, hb5⟩
      have B5 := Lib.hid (B4.out.trans (hb5.mono B4.out.size))
      have L5 := Lib.hid (L4.out.below hb5)
      have M5 := Lib.hid hl5
      clear hl5 hb5 B4 L4
      go_wp2_with fail
      refine (HI.out w5 _ _ _ _ M5.out L5.out).mono ?_
      rintro e w6 ⟨rfl, q, rfl⟩
      have B6 := Lib.hid (drewN_below B5.out q)
      clear B5 L5 M5
      generalize w5.drewN q = w6 at *
      go_wp2_with fail
      refine (HC.out _).mono ?_
      rintro e w' ⟨rfl, rfl⟩
      go_wp2_with fail
      refine (HW.out _).mono ?_
      rintro e w' ⟨rfl, rfl⟩
      go_wp2_with fail
      refine (HS.out _ (G.out.below B6.out)).mono ?_
      rintro e w7 ⟨rfl, hb7⟩
      have B7 := Lib.hid (B6.out.trans (hb7.mono B6.out.size))
      clear hb7 B6
      go_wp2_with fail
      refine (HT.out _).mono ?_
      rintro e w8 ⟨rfl, hb8⟩
      have B8 := Lib.hid (B7.out.trans (hb8.mono B7.out.size))
      clear hb8 B7
      go_wp2_with fail
      go_ret
      exact ⟨rfl, B8.out⟩
    | false =>
      have hu0 := H3.out rfl
      subst hu0
      clear HV H3
      go_wp2_with fail
      refine (of_end S3.out X.out rfl rfl).mono ?_
      rintro e w' ⟨rfl, rfl⟩
      have hol := ofN_lt l
      have HZ := Lib.hid (fun (V : World) (hV : SlV V ao cap (l.map iV)) => rsetOf_any l ao cap V hV X.out)
      generalize ofN l = z at *
      go_wp2_with fail
      refine (HZ.out _ S3.out).mono ?_
      rintro e w' ⟨rfl, rfl⟩
      clear HZ S3
      have HA1 := Lib.hid (fun (V : World) => all_any p V HP.out)
      have HA2 := Lib.hid (fun (V : World) => rallOf_any p V HP.out)
      generalize allN p = y at *
      go_wp2_with fail
      refine (HA1.out _).mono ?_
      rintro e w' ⟨rfl, rfl⟩
      go_wp2_with fail
      refine (HA2.out _).mono ?_
      rintro e w' ⟨rfl, rfl⟩
      clear HA1 HA2
      have HH1 := Lib.hid (fun (V : World) => has_any s p V hs HP.out)
      have HH2 := Lib.hid (fun (V : World) => in_any s p V hs HP.out)
      generalize hasN s p = x at *
      go_wp2_with fail
      refine (HH1.out _).mono ?_
      rintro e w4 ⟨rfl, hb4⟩
      have B4 := Lib.hid (B3.out.trans (hb4.mono B3.out.size))
      have L4 := Lib.hid (L3.out.below hb4)
      clear hb4 B3 L3
      go_wp2_with fail
      refine (HH2.out _).mono ?_
      rintro e w' ⟨rfl, rfl⟩
      clear HH1 HH2
      go_wp2_with fail
      refine (HL.out _).mono ?_
      rintro e w5 ⟨a5, c5, rfl, hl5, hb5⟩
      have B5 := Lib.hid (B4.out.trans (hb5.mono B4.out.size))
      have L5 := Lib.hid (L4.out.below hb5)
      have M5 := Lib.hid hl5
      clear hl5 hb5 B4 L4
      go_wp2_with fail
      refine (HI.out w5 _ _ _ _ M5.out L5.out).mono ?_
      rintro e w6 ⟨rfl, q, rfl⟩
      have B6 := Lib.hid (drewN_below B5.out q)
      clear B5 L5 M5
      generalize w5.drewN q = w6 at *
      go_wp2_with fail
      refine (HC.out _).mono ?_
      rintro e w' ⟨rfl, rfl⟩
      go_wp2_with fail
      refine (HW.out _).mono ?_
      rintro e w' ⟨rfl, rfl⟩
      go_wp2_with fail
      refine (HS.out _ (G.out.below B6.out)).mono ?_
      rintro e w7 ⟨rfl, hb7⟩
      have B7 := Lib.hid (B6.out.trans (hb7.mono B6.out.size))
      clear hb7 B6
      go_wp2_with fail
      refine (HT.out _).mono ?_
      rintro e w8 ⟨rfl, hb8⟩
      have B8 := Lib.hid (B7.out.trans (hb8.mono B7.out.size))
      clear hb8 B7
      go_wp2_with fail
      go_ret
      exact ⟨rfl, B8.out⟩

end Go.Proofs.YtlfahnijnlapdaaDoor
