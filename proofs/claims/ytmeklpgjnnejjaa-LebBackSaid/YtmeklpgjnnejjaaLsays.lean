/-
  Any number's bytes, any bytes' number: the walk of the statement.
-/
import Derived.Test.YtmeklpgjnnejjaaLknown
namespace Go.Proofs.Ytmeklpgjnnejjaa
open Go.RowKit

theorem rget_of {bs : List Nat} {ao : Option Addr} {len cap : Nat} {W : World} {n k : Nat} (hs : SlAt bV 256 W ao cap bs) (hl : bs.length = len) (hg : getN bs = (n, k)) :
    Calls Try.prog 14 #[.slice ao len cap] W fun e w' => e = .returned (.tuple #[.int .u64 (n : Nat), .int .i64 (k : Nat)]) ∧ W = w' := by
  subst hl
  exact rget_at hs hg

theorem drop_lt {f : Nat → Value} {M : Nat} {w : World} {a : Option Addr} {cap : Nat} {xs : List Nat} (h : SlAt f M w a cap xs) (k : Nat) (hk : k < xs.length) : SlAt f M w (a.map fun x => x.add k) (cap - k) (xs.drop k) := by
  have h2 := h.drop k (Nat.le_of_lt hk)
  have := h.fit
  rwa [if_neg (by omega)] at h2

def PutOut (W : World) (bs : List Nat) (n : Nat) (e : Ending) (w' : World) : Prop :=
  ∃ a cap, e = .returned (.slice a (bs.length + szN n) cap) ∧ SlAt bV 256 w' a cap (bs ++ lebL n) ∧ Below W.heap.size W w'
theorem made_out {W : World} {bs : List Nat} {n : Nat} {e : Ending} {w' : World} (h : MadePost bV 256 W (bs ++ lebL n) e w') : PutOut W bs n e w' := by
  obtain ⟨a, cap, rfl, hs, hb⟩ := h
  exact ⟨a, cap, by rw [List.length_append]; rfl, hs, hb⟩
theorem put_at (bs : List Nat) (ao : Option Addr) (cap n : Nat) (W : World) (hs : SlAt bV 256 W ao cap bs) (hn : n < 18446744073709551616) (hb : bs.length ≤ 1000) : Calls Try.prog 9 #[.slice ao bs.length cap, .int .u64 (n : Nat)] W (PutOut W bs n) :=
  (put_any bs ao cap n W hs hn hb).mono fun _ _ h => made_out h
theorem rput_at (bs : List Nat) (ao : Option Addr) (cap n : Nat) (W : World) (hs : SlAt bV 256 W ao cap bs) (hn : n < 18446744073709551616) (hb : bs.length ≤ 1000) : Calls Try.prog 13 #[.slice ao bs.length cap, .int .u64 (n : Nat)] W (PutOut W bs n) :=
  (rput_any bs ao cap n W hs hn hb).mono fun _ _ h => made_out h

def strB (xs : List Nat) : ByteArray := strOfNums (xs.map fun (x : Nat) => (x : Int))

theorem conv_sl {w : World} {a : Option Addr} {cap len : Nat} {xs : List Nat} (hs : SlAt bV 256 w a cap xs) (hl : xs.length = len) (h0 : 0 < xs.length) :
    (convert 23 9 (.slice a len cap)).run Try.prog w = .ok (.string (strB xs)) w := by
  subst hl
  obtain ⟨b, off, rfl, _⟩ := hs.cell 0 h0
  refine run_convert_bytes_arg w 23 5 Try.underlying23 Try.underlying5 b off xs.length cap (xs.map fun (x : Nat) => (x : Int)) (by simp) ?_ 9 Try.underlying9
  intro i hi
  obtain ⟨b', off', e, _, hc⟩ := hs.cell i hi
  cases e
  rw [hc]
  simp [bV, List.getD, List.getElem?_eq_getElem hi]

def SayRel (bs l : List Nat) (a i : Value) : Prop :=
  ∃ k o : Nat, a = .int .i64 (o : Nat) ∧ i = .int .i64 (k : Nat) ∧ k ≤ l.length ∧ o ≤ bs.length ∧ allN (bs.drop o) = some (l.drop k)

theorem say_step {bs l : List Nat} {k o : Nat} (h : allN (bs.drop o) = some (l.drop k)) (hk : k < l.length) (ho : o ≤ bs.length) :
    ∃ s, 0 < s ∧ o + s ≤ bs.length ∧ getN (bs.drop o) = (l[k], s) ∧ allN (bs.drop (o + s)) = some (l.drop (k + 1)) := by
  have hne : bs.drop o ≠ [] := by
    intro e
    rw [e, allN_nil, List.drop_eq_getElem_cons hk] at h
    cases h
  have hst := allN_step hne
  rw [h, List.drop_eq_getElem_cons hk] at hst
  obtain ⟨⟨n, s⟩, hg⟩ : ∃ x, getN (bs.drop o) = x := ⟨_, rfl⟩
  rw [hg] at hst
  have hsz := getN_size (bs.drop o)
  rw [hg] at hsz
  by_cases h0 : s = 0
  · rw [if_pos h0] at hst; cases hst
  · rw [if_neg h0, List.drop_drop] at hst
    cases hr : allN (bs.drop (o + s)) with
    | none => rw [hr] at hst; cases hst
    | some r =>
      rw [hr] at hst
      have e := Option.some.inj hst
      have e1 := (List.cons.inj e).1
      have e2 := (List.cons.inj e).2
      refine ⟨s, by omega, ?_, by rw [hg, e1], by rw [e2]; exact hr⟩
      simp at hsz
      omega

theorem say_end {bs l : List Nat} {k o : Nat} (h : allN (bs.drop o) = some (l.drop k)) (hk : ¬ k < l.length) (ho : o ≤ bs.length) : o = bs.length := by
  rw [List.drop_eq_nil_of_le (show l.length ≤ k by omega)] at h
  by_cases h0 : o = bs.length
  · exact h0
  · have hne : bs.drop o ≠ [] := by
      intro e
      have := congrArg List.length e
      simp at this
      omega
    have hst := allN_step hne
    rw [h] at hst
    by_cases h1 : (getN (bs.drop o)).2 = 0
    · rw [if_pos h1] at hst; cases hst
    · rw [if_neg h1] at hst
      cases hr : allN ((bs.drop o).drop (getN (bs.drop o)).2) with
      | none => rw [hr] at hst; cases hst
      | some r => rw [hr] at hst; cases hst

set_option maxRecDepth 20000 in
set_option maxHeartbeats 4000000 in
theorem law_LebSays (n : Nat) (bs : List Nat) (ao : Option Addr) (cap : Nat) (W : World) (hn : n < 18446744073709551616) (hs : SlAt bV 256 W ao cap bs) : Calls Try.prog 4 #[.int .u64 (n : Nat), .slice ao bs.length cap] W (LebOk W) := by
  have HS := Lib.hid hs
  have hfit := hs.fit
  have hmax := hs.max
  unfold maxLen at hmax
  clear hs
  go_enter Try.func4, Try.ntmps4
  go_wp2_with fail
  refine (awake_any W).mono ?_
  rintro e w0 ⟨rfl, hb0⟩
  have B0 := Lib.hid hb0
  have HS0 := Lib.hid (HS.out.below hb0)
  clear hb0 HS
  by_cases hlen : 100 < bs.length
  · go_wp2_with fail
    go_ret
    exact ⟨rfl, B0.out⟩
  · have h10 := szN_word hn
    have h1 := szN_pos n
    have hd : (((szN n : Nat) : Int) == ((bs.length : Nat) : Int) + ((szN n : Nat) : Int) - ((bs.length : Nat) : Int)) = true := by simp; omega
    go_wp2_with fail
    refine (put_at bs ao cap n w0 HS0.out hn (by omega)).mono ?_
    rintro e w1 ⟨a1, c1, rfl, hs1, hb1⟩
    have B1 := Lib.hid (B0.out.trans (hb1.mono B0.out.size))
    have HS1 := Lib.hid (HS0.out.below hb1)
    have P1 := Lib.hid hs1
    clear hs1 hb1 HS0 B0
    go_wp2_with fail
    refine (rput_at bs ao cap n w1 HS1.out hn (by omega)).mono ?_
    rintro e w2 ⟨a2, c2, rfl, hs2, hb2⟩
    have B2 := Lib.hid (B1.out.trans (hb2.mono B1.out.size))
    have HS2 := Lib.hid (HS1.out.below hb2)
    have P2 := Lib.hid (P1.out.below hb2)
    have Q2 := Lib.hid hs2
    clear hs2 hb2 HS1 B1 P1
    obtain ⟨⟨x, k⟩, hg⟩ : ∃ x, getN bs = x := ⟨_, rfl⟩
    have HG := Lib.hid hg
    have hk := getN_size bs
    rw [hg] at hk
    simp only at hk
    clear hg
    go_wp2_with fail
    refine (get_of HS2.out rfl HG.out).mono ?_
    rintro e w' ⟨rfl, rfl⟩
    go_wp2_with fail
    refine (rget_of HS2.out rfl HG.out).mono ?_
    rintro e w' ⟨rfl, rfl⟩
    clear HG
    go_wp2_with fail
    cases hr : allN bs with
    | none =>
      refine (all_not HS2.out rfl (by omega) hr).mono ?_
      rintro e w3 ⟨a3, c3, rfl, hb3⟩
      have B3 := Lib.hid (B2.out.trans (hb3.mono B2.out.size))
      have HS3 := Lib.hid (HS2.out.below hb3)
      have V1 := conv_sl (P2.out.below hb3) (show (bs ++ lebL n).length = bs.length + szN n by rw [List.length_append]; rfl) (by rw [List.length_append]; exact Nat.lt_of_lt_of_le (szN_pos n) (Nat.le_add_left ..))
      have V2 := conv_sl (Q2.out.below hb3) (show (bs ++ lebL n).length = bs.length + szN n by rw [List.length_append]; rfl) (by rw [List.length_append]; exact Nat.lt_of_lt_of_le (szN_pos n) (Nat.le_add_left ..))
      generalize strB (bs ++ lebL n) = S at *
      have HR := Lib.hid (show (allN bs).isSome = false by rw [hr]; rfl)
      clear hb3 HS2 B2 P2 Q2 hr
      go_wp2_with fail
      go_loop [13, 14] (fun a i => a = .int .i64 0 ∧ i = .int .i64 0) (fun _ _ => 0)
      case atStart => exact ⟨rfl, rfl⟩
      case round =>
        obtain ⟨rfl, rfl⟩ := hrel
        go_wp2_with (first
          | (go_at_call 15; refine (whole_any bs ao cap _ HS3.out).mono ?_; rw [HR.out]; rintro e w' ⟨rfl, rfl⟩)
          | (go_at_call 12; refine (size_any n _ hn).mono ?_; rintro e w' ⟨rfl, rfl⟩))
        go_ret
        exact ⟨rfl, B3.out⟩
    | some l =>
      refine (all_of HS2.out rfl (by omega) hr rfl).mono ?_
      rintro e w3 ⟨a3, c3, rfl, hs3, hb3⟩
      have B3 := Lib.hid (B2.out.trans (hb3.mono B2.out.size))
      have HS3 := Lib.hid (HS2.out.below hb3)
      have V1 := conv_sl (P2.out.below hb3) (show (bs ++ lebL n).length = bs.length + szN n by rw [List.length_append]; rfl) (by rw [List.length_append]; exact Nat.lt_of_lt_of_le (szN_pos n) (Nat.le_add_left ..))
      have V2 := conv_sl (Q2.out.below hb3) (show (bs ++ lebL n).length = bs.length + szN n by rw [List.length_append]; rfl) (by rw [List.length_append]; exact Nat.lt_of_lt_of_le (szN_pos n) (Nat.le_add_left ..))
      generalize strB (bs ++ lebL n) = S at *
      have HR := Lib.hid hr
      have L3 := Lib.hid hs3
      have hlm : l.length ≤ 9223372036854775807 := by have h1 := hs3.fit; have h2 := hs3.max; unfold maxLen at h2; omega
      clear hb3 HS2 B2 P2 Q2 hr hs3
      go_wp2_with fail
      go_loop [13, 14] (fun a i => SayRel bs l a i) (fun _ i => l.length - (intOf i).toNat)
      case atStart => exact ⟨0, 0, rfl, rfl, Nat.zero_le _, Nat.zero_le _, HR.out⟩
      case round =>
        obtain ⟨j, o, rfl, rfl, hj, ho, hrest⟩ := hrel
        by_cases hlt : j < l.length
        · obtain ⟨s, s1, s2, s3, s4⟩ := say_step hrest hlt ho
          obtain ⟨g, og, rfl, _, hcx⟩ := L3.out.cell j hlt
          have k1 : w3.cell? ⟨g, og + j, none⟩ = some (.int .u64 (l[j] : Nat)) := hcx
          have G3 := Lib.hid s3
          have D3 := Lib.hid (drop_lt HS3.out o (by omega))
          have R := Lib.hid s4
          generalize l[j] = z at *
          clear hcx hrest s3 s4
          go_wp2_with (go_at_call 14; refine (rget_of D3.out (by simp) G3.out).mono ?_; rintro e w' ⟨rfl, rfl⟩)
          go_round
          case rel => exact ⟨j + 1, o + s, by go_num, by go_num, by omega, by omega, R.out⟩
          case measure => simp [intOf]; omega
        · have e := say_end hrest hlt ho
          subst e
          clear hrest
          go_wp2_with (go_at_call 12; refine (size_any n _ hn).mono ?_; rintro e w' ⟨rfl, rfl⟩)
          go_ret
          exact ⟨rfl, B3.out⟩

end Go.Proofs.Ytmeklpgjnnejjaa
