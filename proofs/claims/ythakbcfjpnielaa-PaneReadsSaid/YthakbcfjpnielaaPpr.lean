/-
  Any bytes are read in any way.
-/
import Derived.Test.YthakbcfjpnielaaPpk
import Derived.Test.YthakbcfjpnielaaPrs
namespace Go.Proofs.Ythakbcfjpnielaa
open Go.RowKit

theorem drop_le (B : List Nat) (k : Nat) : (B.drop k).length ≤ B.length := by rw [List.length_drop]; omega
theorem numR_len (m : Nat) (s : Option (List Nat)) : ((numR m s).2.getD []).length ≤ (s.getD []).length := by
  cases s with
  | none => exact Nat.le_refl _
  | some B =>
    show ((if (getN B).2 = 0 ∨ m < (getN B).1 then ((0 : Nat), (none : Option (List Nat))) else ((getN B).1, some (B.drop (getN B).2))).2.getD []).length ≤ _
    by_cases h : (getN B).2 = 0 ∨ m < (getN B).1
    · rw [if_pos h]; exact Nat.zero_le _
    · rw [if_neg h]; exact drop_le B _
theorem setR_len (t : Nat) (s : Option (List Nat)) : ((setR t s).2.getD []).length ≤ (s.getD []).length := by
  unfold setR
  split
  · exact numR_len _ s
  · exact Nat.zero_le _
theorem fltR_len (s : Option (List Nat)) : ((fltR s).2.getD []).length ≤ (s.getD []).length := by
  cases s with
  | none => exact Nat.le_refl _
  | some B =>
    show ((if B.length < 8 ∨ ofB (beN B) = false then ((0 : Nat), (none : Option (List Nat))) else (ofF (beN B), some (B.drop 8))).2.getD []).length ≤ _
    by_cases h : B.length < 8 ∨ ofB (beN B) = false
    · rw [if_pos h]; exact Nat.zero_le _
    · rw [if_neg h]; exact drop_le B _
theorem bytR_len (m : Int) (s : Option (List Nat)) : ((bytR m s).2.getD []).length ≤ (s.getD []).length := by
  have h1 := numR_len (max m 0).toNat s
  unfold bytR
  generalize numR (max m 0).toNat s = x at *
  obtain ⟨n, s1⟩ := x
  simp only at h1 ⊢
  split
  · exact Nat.zero_le _
  · cases s1 with
    | none => exact Nat.zero_le _
    | some B => exact Nat.le_trans (drop_le B n) h1

theorem ofF_lt {n : Nat} (h : n < 18446744073709551616) : ofF n < 18446744073709551616 := by
  unfold ofF
  split
  · decide
  · split
    · decide
    · exact ofW_lt n h
theorem fltR_lt {s : Option (List Nat)} (hb : ∀ x ∈ s.getD [], x < 256) : (fltR s).1 < 18446744073709551616 := by
  cases s with
  | none => exact (by decide : 0 < 18446744073709551616)
  | some B =>
    show (if B.length < 8 ∨ ofB (beN B) = false then ((0 : Nat), (none : Option (List Nat))) else (ofF (beN B), some (B.drop 8))).1 < _
    by_cases h : B.length < 8 ∨ ofB (beN B) = false
    · rw [if_pos h]; exact (by decide : 0 < 18446744073709551616)
    · rw [if_neg h]
      exact ofF_lt (foldB_word (bs := B) hb (by omega) (by decide))

/-- Two readers, apart; all else below N as it was. -/
structure TwoR (W w : World) (N p q : Nat) (S T : Nat → Prop) (s t : Option (List Nat)) : Prop where
  a : RdAt w p S s
  b : RdAt w q T t
  pq : p ≠ q
  sq : ¬ S q
  tp : ¬ T p
  be : Below N W w
  np : N ≤ p
  nq : N ≤ q
  nw : N ≤ w.heap.size
theorem TwoR.below {W w w' : World} {N p q : Nat} {S T : Nat → Prop} {s t : Option (List Nat)} (h : TwoR W w N p q S T s t) (hb : Below w.heap.size w w') : TwoR W w' N p q S T s t :=
  ⟨h.a.below hb, h.b.below hb, h.pq, h.sq, h.tp, h.be.trans (hb.mono h.nw), h.np, h.nq, Nat.le_trans h.nw hb.size⟩
theorem TwoR.left {W w w' : World} {N p q : Nat} {S T : Nat → Prop} {s t s' : Option (List Nat)} (h : TwoR W w N p q S T s t) (hA : RdAt w' p S s') (hK : Keep (fun k => k = p) w w') : TwoR W w' N p q S T s' t :=
  ⟨hA, h.b.keep hK (fun e => h.pq e.symm) (fun _ f e => h.tp (e ▸ f)), h.pq, h.sq, h.tp, h.be.trans (hK.below h.nw (fun _ e => e ▸ h.np)), h.np, h.nq, Nat.le_trans h.nw hK.size⟩
theorem TwoR.right {W w w' : World} {N p q : Nat} {S T : Nat → Prop} {s t t' : Option (List Nat)} (h : TwoR W w N p q S T s t) (hA : RdAt w' q T t') (hK : Keep (fun k => k = q) w w') : TwoR W w' N p q S T s t' :=
  ⟨h.a.keep hK (fun e => h.pq e) (fun _ f e => h.sq (e ▸ f)), hA, h.pq, h.sq, h.tp, h.be.trans (hK.below h.nw (fun _ e => e ▸ h.nq)), h.np, h.nq, Nat.le_trans h.nw hK.size⟩
theorem TwoR.drew {W w : World} {N p q : Nat} {S T : Nat → Prop} {s t : Option (List Nat)} (h : TwoR W w N p q S T s t) : TwoR W w.drew N p q S T s t := h.below ⟨rfl, rfl, rfl, Nat.le_refl _, fun _ _ => rfl⟩

def ReadRel (W : World) (N p q : Nat) (S T : Nat → Prop) (l : List Prt) (i : Value) (wr : World) : Prop :=
  ∃ j s, j ≤ l.length ∧ i = .int .i64 (j : Nat) ∧ TwoR W wr N p q S T s s ∧ (s.getD []).length ≤ 200

theorem new_rr {w : World} {bs : List Nat} {a : Option Addr} {cap N : Nat} {t : TypeId} (hs : SlAt bV 256 w a cap bs) (hN : N ≤ w.heap.size) (ha : ∀ ad, a = some ad → bs ≠ [] → ad.block < N) :
    RdAt (w.alloc (.cells #[.slice a bs.length cap, .bool false] t)) w.heap.size (fun k => k < N) (some bs) :=
  ⟨a, cap, ⟨by simp, by simp, fun i => by simp, by simp, hs.below ((Below.refl _ _).alloc (Nat.le_refl _) _), ha, by omega⟩⟩

theorem RdAt.bytes {w : World} {p : Nat} {S : Nat → Prop} {s : Option (List Nat)} (h : RdAt w p S s) : ∀ x ∈ s.getD [], x < 256 := by
  obtain ⟨a, cap, hV⟩ := h
  exact hV.sl.lt

set_option maxRecDepth 20000 in
set_option maxHeartbeats 8000000 in
theorem law_PaneReads (bs : List Nat) (bo : Option Addr) (bc : Nat) (l : List Prt) (ao : Option Addr) (cap : Nat) (most : Int) (W : World) (hbs : SlAt bV 256 W bo bc bs) (hs : PtAt W ao cap l) (hm : -9223372036854775808 ≤ most ∧ most ≤ 9223372036854775807) :
    Calls Try.prog 5 #[.slice bo bs.length bc, .slice ao l.length cap, .int .i64 most] W (Ok W) := by
  have HS := Lib.hid hs
  have HBS := Lib.hid hbs
  have HM := Lib.hid hm
  have hfit := hs.fit
  have hmax := hs.max
  have hfb := hbs.fit
  have hmb := hbs.max
  unfold maxLen at hmax hmb
  clear hs hbs hm
  go_enter Try.func5, Try.ntmps5
  go_wp2_with fail
  refine (awake_any W).mono ?_
  rintro e w0 ⟨rfl, hb0⟩
  have B0 := Lib.hid hb0
  clear hb0
  by_cases hlb : 200 < bs.length
  · go_wp2_with fail
    go_ret
    exact ⟨rfl, B0.out⟩
  by_cases hlen : 30 < l.length
  · go_wp2_with fail
    go_ret
    exact ⟨rfl, B0.out⟩
  go_wp2_with fail
  have hS0 := HBS.out.below B0.out
  refine (on_rnew (Below.refl W.heap.size w0) B0.out.size hS0 rfl (by omega)).mono ?_
  rintro e w1 ⟨p, S, rfl, hR, hb1, hp1, hS1⟩
  have hsz := B0.out.size
  have hpw : p < w1.heap.size := by obtain ⟨a, c, hV⟩ := hR.1; exact hV.inP
  have hT : TwoR W (w1.alloc (.cells #[.slice bo bs.length bc, .bool false] 53)) W.heap.size p w1.heap.size S (fun k => k < W.heap.size) (some bs) (some bs) :=
    ⟨hR.1.below ((Below.refl _ _).alloc (Nat.le_refl _) _), new_rr (hS0.below hb1) hR.2.2.2 (fun ad e h0 => by obtain ⟨b, o, e2, h3, _⟩ := HBS.out.cell 0 (List.length_pos_iff.2 h0); rw [e] at e2; cases e2; exact h3), by omega, fun f => by have := (hS1 _ f).2; omega, by omega,
      (B0.out.trans (hb1.mono hsz)).trans (((Below.refl _ _).alloc (Nat.le_refl _) _).mono hR.2.2.2), hR.2.2.1, hR.2.2.2, by simp; exact Nat.le_succ_of_le hR.2.2.2⟩
  have T1 := Lib.hid hT
  clear hR hb1 hp1 hS1 hT hsz hpw hS0
  go_wp2_with fail
  obtain ⟨q, hq⟩ : ∃ q, w1.heap.size = q := ⟨_, rfl⟩
  rw [hq] at T1 ⊢
  clear hq
  generalize (w1.alloc (.cells #[.slice bo bs.length bc, .bool false] 53)) = w2 at T1 ⊢
  obtain ⟨T, hTe⟩ : ∃ T : Nat → Prop, T = fun k => k < W.heap.size := ⟨_, rfl⟩
  rw [← hTe] at T1
  have HT := Lib.hid (show ∀ k, T k → k < W.heap.size from fun k f => by rw [hTe] at f; exact f)
  clear hTe
  go_loopw [9] (fun i wr => ReadRel W W.heap.size p q S T l i wr) (fun i _ => l.length - (intOf i).toNat)
  case atStart => exact ⟨0, some bs, Nat.zero_le _, rfl, T1.out, by simp; omega⟩
  case round =>
    obtain ⟨j, s, hj, rfl, hT, hX⟩ := hrel
    by_cases hlt : j < l.length
    · obtain ⟨b, off, ab, cb, rfl, _, hK⟩ := part_at HS.out hlt
      have hnr := (HS.out.ok j hlt).2.1
      have TD := Lib.hid hT.drew
      have TT := Lib.hid hT
      have KC := Lib.hid hK
      have KD := Lib.hid (hK wr.drew hT.drew.be)
      have k0 := (hK wr hT.be).1
      have jb : (j : Int) < (l.length : Int) := by omega
      have j0 : (0 : Int) ≤ (j : Int) := by omega
      have BY := Lib.hid hT.a.bytes
      clear hT hK
      generalize l[j] = x at *
      obtain ⟨kind, num, flt, ps⟩ := x
      simp only at hnr k0
      have split : kind = 0 ∨ kind = 1 ∨ kind = 2 ∨ (¬ kind = 0 ∧ ¬ kind = 1 ∧ ¬ kind = 2) := by omega
      rcases split with h0 | h1 | h2 | ⟨h0, h1, h2⟩
      · subst h0
        have C1 := Lib.hid (fun w h => rnum_any w p S s num h)
        have C2 := Lib.hid (fun w h => rrnum_any w q T s num h)
        have LN := Lib.hid (Nat.le_trans (numR_len num s) hX)
        generalize numR num s = y at *
        obtain ⟨n, s'⟩ := y
        simp only at C1 C2 LN
        have k1 : wr.drew.cell? ⟨b, off + j * 4 + 1, none⟩ = some (.int .u64 (num : Nat)) := KD.out.2.1
        go_wp2_with fail
        go_region_with (first
          | (go_at_call 19; refine (C1.out _ TD.out.a).mono ?_
             rintro e w5 ⟨rfl, hA5, hK5⟩
             have T5 := Lib.hid (TD.out.left hA5 hK5)
             have k5 : w5.cell? ⟨b, off + j * 4 + 1, none⟩ = some (.int .u64 (num : Nat)) := (KC.out w5 T5.out.be).2.1
             clear hA5 hK5)
          | (go_at_call 28; refine (C2.out _ T5.out.b).mono ?_
             rintro e w6 ⟨rfl, hA6, hK6⟩
             have T6 := Lib.hid (T5.out.right hA6 hK6)
             clear hA6 hK6))
        all_goals
          try go_simp
          go_wp2_with (first
            | (go_at_call 18; refine (rend_any _ p S s' T6.out.a).mono ?_; rintro e w' ⟨rfl, rfl⟩)
            | (go_at_call 32; refine (rrend_any _ q T s' T6.out.b).mono ?_; rintro e w' ⟨rfl, rfl⟩))
          go_roundw
          case rel => exact ⟨j + 1, s', by omega, by go_num, T6.out, LN.out⟩
          case measure => simp only [intOf]; omega
      · subst h1
        have C1 := Lib.hid (fun w h => rset_any w p S s num h hnr)
        have C2 := Lib.hid (fun w h => rrset_any w q T s num h hnr)
        have LN := Lib.hid (Nat.le_trans (setR_len num s) hX)
        generalize setR num s = y at *
        obtain ⟨n, s'⟩ := y
        simp only at C1 C2 LN
        have k1 : wr.drew.cell? ⟨b, off + j * 4 + 1, none⟩ = some (.int .u64 (num : Nat)) := KD.out.2.1
        go_wp2_with fail
        go_region_with (first
          | (go_at_call 17; refine (C1.out _ TD.out.a).mono ?_
             rintro e w5 ⟨rfl, hA5, hK5⟩
             have T5 := Lib.hid (TD.out.left hA5 hK5)
             have k5 : w5.cell? ⟨b, off + j * 4 + 1, none⟩ = some (.int .u64 (num : Nat)) := (KC.out w5 T5.out.be).2.1
             clear hA5 hK5)
          | (go_at_call 29; refine (C2.out _ T5.out.b).mono ?_
             rintro e w6 ⟨rfl, hA6, hK6⟩
             have T6 := Lib.hid (T5.out.right hA6 hK6)
             clear hA6 hK6))
        all_goals
          try go_simp
          go_wp2_with (first
            | (go_at_call 18; refine (rend_any _ p S s' T6.out.a).mono ?_; rintro e w' ⟨rfl, rfl⟩)
            | (go_at_call 32; refine (rrend_any _ q T s' T6.out.b).mono ?_; rintro e w' ⟨rfl, rfl⟩))
          go_roundw
          case rel => exact ⟨j + 1, s', by omega, by go_num, T6.out, LN.out⟩
          case measure => simp only [intOf]; omega
      · subst h2
        have C1 := Lib.hid (fun w h => rfloat_any w p S s h)
        have C2 := Lib.hid (fun w h => rrfloat_any w q T s h)
        have LN := Lib.hid (Nat.le_trans (fltR_len s) hX)
        have hfl := fltR_lt BY.out
        generalize fltR s = y at *
        obtain ⟨f, s'⟩ := y
        simp only at C1 C2 LN hfl
        have SM := Lib.hid (fun w => rsame_is w hfl hfl rfl)
        go_wp2_with (first
          | (go_at_call 16; refine (C1.out _ TT.out.a).mono ?_
             rintro e w5 ⟨rfl, hA5, hK5⟩
             have T5 := Lib.hid (TT.out.left hA5 hK5)
             clear hA5 hK5)
          | (go_at_call 30; refine (C2.out _ T5.out.b).mono ?_
             rintro e w6 ⟨rfl, hA6, hK6⟩
             have T6 := Lib.hid (T5.out.right hA6 hK6)
             clear hA6 hK6)
          | (go_at_call 27; refine (SM.out _).mono ?_; rintro e w' ⟨rfl, rfl⟩)
          | (go_at_call 18; refine (rend_any _ p S s' T6.out.a).mono ?_; rintro e w' ⟨rfl, rfl⟩)
          | (go_at_call 32; refine (rrend_any _ q T s' T6.out.b).mono ?_; rintro e w' ⟨rfl, rfl⟩))
        go_roundw
        case rel => exact ⟨j + 1, s', by omega, by go_num, T6.out, LN.out⟩
        case measure => simp only [intOf]; omega
      · have d0 : (kind == 0) = false := by simp; omega
        have d1 : (kind == 1) = false := by simp; omega
        have d2 : (kind == 2) = false := by simp; omega
        have C1 := Lib.hid (fun w h => rbytes_any w p S s most h HM.out (by omega))
        have C2 := Lib.hid (fun w h hS => rrbytes_any w q T s most h hS HM.out (by omega))
        have LN := Lib.hid (Nat.le_trans (bytR_len most s) hX)
        generalize bytR most s = y at *
        obtain ⟨ys, s'⟩ := y
        simp only at C1 C2 LN
        go_wp2_with fail
        go_region_with (first
          | (go_at_call 20; refine (C1.out _ TD.out.a).mono ?_
             rintro e w5 ⟨a5, c5, rfl, hs5, hA5, hK5, hf5⟩
             have T5 := Lib.hid (TD.out.left hA5 hK5)
             have SL5 := Lib.hid hs5
             have HF5 := Lib.hid hf5
             have cv5 := conv_any hs5 rfl
             have hw5 := hK5.size
             clear hA5 hK5 hs5 hf5)
          | (go_at_call 31; refine (C2.out _ T5.out.b (fun k f => Nat.lt_of_lt_of_le (HT.out k f) T5.out.nw)).mono ?_
             rintro e w6 ⟨a6, c6, rfl, hs6, hA6, hK6, _⟩
             have T6 := Lib.hid (T5.out.right hA6 hK6)
             have cv6 := conv_any hs6 rfl
             have cv7 := conv_any (SL5.out.keep hK6 (fun ad e _ e2 => by have h1 := HF5.out ad e; obtain ⟨_, _, hV⟩ := TD.out.b; have h2 := hV.inP; omega)) rfl
             clear hA6 hK6 hs6))
        all_goals
          try go_simp
          go_wp2_with (first
            | (go_at_call 18; refine (rend_any _ p S s' T6.out.a).mono ?_; rintro e w' ⟨rfl, rfl⟩)
            | (go_at_call 32; refine (rrend_any _ q T s' T6.out.b).mono ?_; rintro e w' ⟨rfl, rfl⟩))
          go_roundw
          case rel => exact ⟨j + 1, s', by omega, by go_num, T6.out, LN.out⟩
          case measure => simp only [intOf]; omega
    · have be := Lib.hid hT.be
      clear hT
      go_wp2_with fail
      go_ret
      exact ⟨rfl, be.out⟩

end Go.Proofs.Ythakbcfjpnielaa
