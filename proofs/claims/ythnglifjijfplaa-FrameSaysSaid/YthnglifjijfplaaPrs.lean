/-
  The document's own reader reads bytes.
-/
import Derived.Test.YthnglifjijfplaaPrr
namespace Go.Proofs.Ythnglifjijfplaa
open Go.RowKit

theorem bytR_some {most : Int} {n k : Nat} {B : List Nat} (hg : getN B = (n, k)) :
    bytR most (some B) = if k = 0 ∨ (max most 0).toNat < n ∨ B.length - k < n then ([], none) else ((B.drop k).take n, some (B.drop (k + n))) := by
  have E : numR (max most 0).toNat (some B) = if k = 0 ∨ (max most 0).toNat < n then (0, none) else (n, some (B.drop k)) := by
    show (if (getN B).2 = 0 ∨ (max most 0).toNat < (getN B).1 then _ else _) = _
    rw [hg]
  unfold bytR
  rw [E]
  by_cases h1 : k = 0 ∨ (max most 0).toNat < n
  · rw [if_pos h1, if_pos (h1.elim Or.inl (fun h => Or.inr (Or.inl h)))]
    simp
  · rw [if_neg h1]
    simp only [Option.getD_some, List.length_drop, Option.map_some, List.drop_drop]
    by_cases h2 : B.length - k < n
    · rw [if_pos h2, if_pos (Or.inr (Or.inr h2))]
    · rw [if_neg h2, if_neg (fun h => h.elim (fun h => h1 (Or.inl h)) (fun h => h.elim (fun h => h1 (Or.inr h)) h2))]

/-- What was read lies in new memory; the reader is as it was. -/
theorem app_res {W w0 w2 : World} {p n k : Nat} {S : Nat → Prop} {B : List Nat} {a a2 : Option Addr} {cap cap2 : Nat} (hV : RdV w0 p S B false a cap) (hS : ∀ k, S k → k < W.heap.size) (hk : Keep (fun k => k = p) W w0) (hp : p < W.heap.size) (hs : W.heap.size < w0.heap.size) (hlt : ∀ x ∈ (B.drop k).take n, x < 256)
    (hown : w2.ownsRow W.heap.size 5 1 (.slice a2 (0 + n) cap2) (0 + n) ([] ++ ((B.drop k).take n).map bV)) (hgr : w0.grownBy w2 (some W.heap.size)) :
    RdV w2 p S B false a cap ∧ Keep (fun k => k = p) W w2 ∧ SlAt bV 256 w2 a2 cap2 ((B.drop k).take n) ∧ ∀ ad, a2 = some ad → W.heap.size ≤ ad.block := by
  have hb : ∀ k, k < W.heap.size → w2.heap[k]? = w0.heap[k]? := fun k hk => hgr.block k (by omega) (fun e => by cases e; omega)
  refine ⟨hV.carry hgr.size (hb p hp) (fun k hl f => hb k (hS k f)), hk.grown hgr (fun k e => by cases e; exact Or.inr (Nat.le_refl _)), ?_, fun ad e => ?_⟩
  · rw [Nat.zero_add, List.nil_append] at hown
    have hown' : w2.ownsRow W.heap.size 5 1 (.slice a2 n cap2) n (((B.drop k).take n).map bV) := hown
    obtain ⟨_, a3, c3, e, h⟩ := own_sl hown' hlt
    simp only [Value.slice.injEq] at e
    obtain ⟨rfl, _, rfl⟩ := e
    exact h
  · subst e
    exact (hown.lt ad.block rfl).1

set_option maxRecDepth 20000 in
set_option maxHeartbeats 2000000 in
theorem rrbytes_any (W : World) (p : Nat) (S : Nat → Prop) (s : Option (List Nat)) (most : Int) (hA : RdAt W p S s) (hS : ∀ k, S k → k < W.heap.size) (hm : -9223372036854775808 ≤ most ∧ most ≤ 9223372036854775807) (hb : (s.getD []).length ≤ 1000000) :
    Calls Try.prog 22 #[.pointer (some ⟨p, 0, none⟩), .int .i64 most] W (BytPost W p S (bytR most s).1 (bytR most s).2) := by
  obtain ⟨i0, hi0, hz0, hz1, hz2⟩ := info_parts Try.infoB
  obtain ⟨a, cap, hV⟩ := hA
  have c0 := hV.c0
  have c1 := hV.c1
  have f0 := hV.fz 0
  have hp := hV.inP
  have hgs := getN_size (s.getD [])
  have hmax := hV.sl.max
  have hfit := hV.sl.fit
  have HV := Lib.hid hV
  have HS := Lib.hid hS
  clear hV hS
  cases s with
  | none =>
    have E2 := Lib.hid (show bytR most none = ([], none) by simp [bytR, numR])
    rw [E2.out]
    simp only [Option.getD_none, Option.isNone_none] at c0 c1 HV hfit
    go_enter Try.func22, Try.ntmps22
    go_wp2_with (first
      | (go_at_call 30; refine (rget_of' HV.out.sl rfl get_nil).mono ?_; rintro e w' ⟨rfl, rfl⟩)
      | (go_at_call 31; refine (fail_any _ p S _ _ a cap HV.out).mono ?_; rintro e w' ⟨rfl, hR⟩; have R := Lib.hid hR; clear hR))
    go_ret
    exact ⟨none, 0, rfl, SlAt.none _ _ _, R.out.1, R.out.2, fun ad e => by cases e⟩
  | some B =>
    simp only [Option.getD_some, Option.isNone_some] at c0 c1 hgs hfit HV hb
    obtain ⟨n, k, hg⟩ : ∃ n k, getN B = (n, k) := ⟨_, _, rfl⟩
    have hgl : n < 18446744073709551616 := by have := getN_lt B; rw [hg] at this; exact this
    have E := bytR_some (most := most) hg
    rw [hg] at hgs
    have HG := Lib.hid hg
    clear hg
    simp only at hgs
    by_cases hk : k = 0
    · rw [if_pos (Or.inl hk)] at E
      rw [E]
      subst hk
      clear E
      go_enter Try.func22, Try.ntmps22
      go_wp2_with (first
        | (go_at_call 30; refine (rget_of' HV.out.sl rfl HG.out).mono ?_; rintro e w' ⟨rfl, rfl⟩)
        | (go_at_call 31; refine (fail_any _ p S _ _ a cap HV.out).mono ?_; rintro e w' ⟨rfl, hR⟩; have R := Lib.hid hR; clear hR))
      go_ret
      exact ⟨none, 0, rfl, SlAt.none _ _ _, R.out.1, R.out.2, fun ad e => by cases e⟩
    · have d1 : ((k : Int) == 0) = false := by simp; omega
      have d2 : (0 : Int) < (k : Int) := by omega
      obtain ⟨L, hL⟩ : ∃ L : Nat, (B.length : Int) - (k : Int) = (L : Int) := ⟨B.length - k, by omega⟩
      have hwL := top_wrap (show L ≤ 9223372036854775807 by omega)
      by_cases hf : (max most 0).toNat < n ∨ B.length - k < n
      · rw [if_pos (Or.inr hf)] at E
        rw [E]
        clear E
        have d3 : ((n : Int) == 0) = false := by simp; omega
        rcases Int.lt_or_le most 0 with h0 | h0
        · clear hf
          go_enter Try.func22, Try.ntmps22
          go_wp2_with (first
            | (go_at_call 30; refine (rget_of' HV.out.sl rfl HG.out).mono ?_; rintro e w' ⟨rfl, rfl⟩)
            | (go_at_call 31; refine (fail_any _ p S _ _ a cap HV.out).mono ?_; rintro e w' ⟨rfl, hR⟩; have R := Lib.hid hR; clear hR))
          go_ret
          exact ⟨none, 0, rfl, SlAt.none _ _ _, R.out.1, R.out.2, fun ad e => by cases e⟩
        · obtain ⟨M, rfl⟩ : ∃ M : Nat, most = (M : Int) := ⟨most.toNat, by omega⟩
          have hwM := top_wrap (show M ≤ 9223372036854775807 by omega)
          by_cases hM : M < n
          · clear hf
            go_enter Try.func22, Try.ntmps22
            go_wp2_with (first
              | (go_at_call 30; refine (rget_of' HV.out.sl rfl HG.out).mono ?_; rintro e w' ⟨rfl, rfl⟩)
              | (go_at_call 31; refine (fail_any _ p S _ _ a cap HV.out).mono ?_; rintro e w' ⟨rfl, hR⟩; have R := Lib.hid hR; clear hR))
            go_ret
            exact ⟨none, 0, rfl, SlAt.none _ _ _, R.out.1, R.out.2, fun ad e => by cases e⟩
          · have hn : L < n := by omega
            clear hf
            go_enter Try.func22, Try.ntmps22
            go_wp2_with (first
              | (go_at_call 30; refine (rget_of' HV.out.sl rfl HG.out).mono ?_; rintro e w' ⟨rfl, rfl⟩)
              | (go_at_call 31; refine (fail_any _ p S _ _ a cap HV.out).mono ?_; rintro e w' ⟨rfl, hR⟩; have R := Lib.hid hR; clear hR))
            go_ret
            exact ⟨none, 0, rfl, SlAt.none _ _ _, R.out.1, R.out.2, fun ad e => by cases e⟩
      · rw [if_neg (fun h => h.elim hk hf)] at E
        rw [E]
        clear E
        have hnL : n ≤ L := by omega
        rcases Int.lt_or_le most 0 with h0 | h0
        · obtain rfl : n = 0 := by omega
          clear hf
          rw [Nat.add_zero]
          by_cases hcap : cap = k
          · have N1 := Lib.hid (HV.out.nextA hgs hcap)
            subst hcap
            go_enter Try.func22, Try.ntmps22
            go_wp2_with (go_at_call 30; refine (rget_of' HV.out.sl rfl HG.out).mono ?_; rintro e w' ⟨rfl, rfl⟩)
            go_ret
            exact ⟨none, 0, rfl, SlAt.none _ _ _, ⟨_, _, N1.out⟩, (Keep.refl _ _).own _ _, fun ad e => by cases e⟩
          · have N1 := Lib.hid (HV.out.nextB hgs hcap)
            go_enter Try.func22, Try.ntmps22
            go_wp2_with (go_at_call 30; refine (rget_of' HV.out.sl rfl HG.out).mono ?_; rintro e w' ⟨rfl, rfl⟩)
            go_ret
            exact ⟨none, 0, rfl, SlAt.none _ _ _, ⟨_, _, N1.out⟩, (Keep.refl _ _).own _ _, fun ad e => by cases e⟩
        · obtain ⟨M, rfl⟩ : ∃ M : Nat, most = (M : Int) := ⟨most.toNat, by omega⟩
          have hwM := top_wrap (show M ≤ 9223372036854775807 by omega)
          have hM : n ≤ M := by omega
          clear hf
          have hkn : k + n ≤ B.length := by omega
          have O := Lib.hid (World.ownsRow_lit (base := W.heap.size) (e := 5) (size := 1) W #[] 0 (Nat.le_refl _) (by unfold maxLen; omega) rfl)
          have hW0 : Below W.heap.size W (W.alloc (.cells #[] 5)) := (Below.refl _ _).alloc (Nat.le_refl _) _
          have HV0 := Lib.hid (HV.out.below hW0)
          have hn0 : n ≤ (B.drop k).length := by rw [List.length_drop]; omega
          have HS0 := Lib.hid (((HV.out.below hW0).sl.drop k hgs).take n)
          have hlen : ((B.drop k).take n).length = n := takes_len hn0
          have HL := Lib.hid hlen
          clear hn0 hlen
          have HK0 := Lib.hid (show Keep (fun k => k = p) W (W.alloc (.cells #[] 5)) from Keep.ofBelow hW0)
          by_cases hck : cap = k
          · obtain rfl : n = 0 := by omega
            rw [if_pos hck, hck, Nat.sub_self] at HS0
            subst hck
            have c0' := HV0.out.c0
            have f0' := HV0.out.fz 0
            clear hW0
            go_enter Try.func22, Try.ntmps22
            go_wp2_with (first
              | (go_at_call 30; refine (rget_of' HV.out.sl rfl HG.out).mono ?_; rintro e w' ⟨rfl, rfl⟩)
              | (at_builtin; refine wpList_append_at rfl (.tmp 70) (.tmp 80) 23 rfl W.heap.size 5 i0 (.int .u8 0) 1 1 Try.underlying23 hi0 hz0 hz1 hz2 rfl (by decide) _ _ _ rfl O.out _ 0 _ (((B.drop cap).take 0).map bV) rfl (by rw [List.length_map, HL.out]) (fun e => ⟨by have := HS0.out.empty e; have := HL.out; omega, (HS0.out.empty e).2⟩) HS0.out.news (ones_b _) (by unfold maxLen; omega) (by omega) (by simp) ?_
                 intro v2 w2 hown2 hgr2 hat2
                 obtain ⟨a2, cap2, rfl⟩ := own_form hown2
                 have R := Lib.hid (app_res HV0.out HS.out HK0.out hp (by simp) HS0.out.lt hown2 hgr2)
                 have c2 := R.out.1.c0
                 have f2 := R.out.1.fz 0
                 have hp2 := R.out.1.inP
                 clear hown2 hgr2 hat2))
            go_ret
            exact ⟨a2, cap2, (by rw [HL.out]; rfl), R.out.2.2.1.keep ((Keep.refl (fun k => k = p) w2).own 0 (.slice a 0 0)) (fun ad e _ f => by have := R.out.2.2.2 ad e; omega), ⟨_, _, R.out.1.nextA (by omega) rfl⟩, R.out.2.1.own _ _, R.out.2.2.2⟩
          · rw [if_neg hck] at HS0
            have c0' := HV0.out.c0
            have f0' := HV0.out.fz 0
            clear hW0
            by_cases hcap : cap = k + n
            · rw [show cap - k = n by omega] at HS0
              subst hcap
              go_enter Try.func22, Try.ntmps22
              go_wp2_with (first
                | (go_at_call 30; refine (rget_of' HV.out.sl rfl HG.out).mono ?_; rintro e w' ⟨rfl, rfl⟩)
                | (at_builtin; refine wpList_append_at rfl (.tmp 70) (.tmp 80) 23 rfl W.heap.size 5 i0 (.int .u8 0) 1 1 Try.underlying23 hi0 hz0 hz1 hz2 rfl (by decide) _ _ _ rfl O.out _ (k + n - k) _ (((B.drop k).take n).map bV) rfl (by rw [List.length_map, HL.out]; omega) (fun e => ⟨by have := HS0.out.empty e; have := HL.out; omega, (HS0.out.empty e).2⟩) HS0.out.news (ones_b _) (by unfold maxLen; omega) (by omega) (by simp) ?_
                   intro v2 w2 hown2 hgr2 hat2
                   rw [show k + n - k = n by omega] at hown2
                   obtain ⟨a2, cap2, rfl⟩ := own_form hown2
                   have R := Lib.hid (app_res HV0.out HS.out HK0.out hp (by simp) HS0.out.lt hown2 hgr2)
                   have c2 := R.out.1.c0
                   have f2 := R.out.1.fz 0
                   have hp2 := R.out.1.inP
                   clear hown2 hgr2 hat2))
              go_ret
              exact ⟨a2, cap2, (by rw [HL.out]; rfl), R.out.2.2.1.keep ((Keep.refl (fun k => k = p) w2).own 0 (.slice a 0 0)) (fun ad e _ f => by have := R.out.2.2.2 ad e; omega), ⟨_, _, R.out.1.nextA hkn rfl⟩, R.out.2.1.own _ _, R.out.2.2.2⟩
            · have HC := Lib.hid hcap
              go_enter Try.func22, Try.ntmps22
              go_wp2_with (first
                | (go_at_call 30; refine (rget_of' HV.out.sl rfl HG.out).mono ?_; rintro e w' ⟨rfl, rfl⟩)
                | (at_builtin; refine wpList_append_at rfl (.tmp 70) (.tmp 80) 23 rfl W.heap.size 5 i0 (.int .u8 0) 1 1 Try.underlying23 hi0 hz0 hz1 hz2 rfl (by decide) _ _ _ rfl O.out _ (k + n - k) _ (((B.drop k).take n).map bV) rfl (by rw [List.length_map, HL.out]; omega) (fun e => ⟨by have := HS0.out.empty e; have := HL.out; omega, (HS0.out.empty e).2⟩) HS0.out.news (ones_b _) (by unfold maxLen; omega) (by omega) (by simp) ?_
                   intro v2 w2 hown2 hgr2 hat2
                   rw [show k + n - k = n by omega] at hown2
                   obtain ⟨a2, cap2, rfl⟩ := own_form hown2
                   have R := Lib.hid (app_res HV0.out HS.out HK0.out hp (by simp) HS0.out.lt hown2 hgr2)
                   have c2 := R.out.1.c0
                   have f2 := R.out.1.fz 0
                   have hp2 := R.out.1.inP
                   clear hown2 hgr2 hat2))
              go_ret
              exact ⟨a2, cap2, (by rw [HL.out]; rfl), R.out.2.2.1.keep ((Keep.refl (fun k => k = p) w2).own 0 (.slice (a.map (·.add (k + n))) (B.length - (k + n)) (cap - (k + n)))) (fun ad e _ f => by have := R.out.2.2.2 ad e; omega), ⟨_, _, R.out.1.nextB hkn HC.out⟩, R.out.2.1.own _ _, R.out.2.2.2⟩

end Go.Proofs.Ythnglifjijfplaa
