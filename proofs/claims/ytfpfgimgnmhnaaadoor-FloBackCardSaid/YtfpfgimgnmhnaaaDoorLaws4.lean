/-
  That keys and texts tell a number again, walked.
-/
import Derived.Test.YtfpfgimgnmhnaaaDoorPar2
import Derived.Test.YtfpfgimgnmhnaaaDoorLaws2
namespace Go.Proofs.YtfpfgimgnmhnaaaDoor
open Go.RowKit

theorem of_key (a : Nat) (ha : a < 18446744073709551616) : ofB (keyN a) = true := by
  unfold ofB
  cases hl : lastB (keyN a)
  · rw [Bool.false_or, Bool.not_eq_true']
    unfold lastB at hl
    have hl := of_decide_eq_false hl
    cases hn : nanB a
    · have hk := keyN_of a hn
      have : ofW (keyN a) = a := by
        unfold ofW topB
        rw [hk]
        by_cases h1 : 9223372036854775808 ≤ a
        · rw [if_pos h1, if_neg (by simp; omega)]; omega
        · rw [if_neg h1, if_pos (by simp)]; omega
      rw [this]; exact hn
    · exfalso; apply hl; unfold keyN; rw [hn]; rfl
  · rfl

theorem key_back (a : Nat) (ha : a < 18446744073709551616) : keyN (ofF (keyN a)) = keyN a := key_of _ (keyN_lt a ha) (of_key a ha)
theorem key_read (a : Nat) : keyN (if nanB a then nanW else a) = keyN a := by
  cases hn : nanB a
  · simp
  · simp only [if_true]
    have e : keyN a = 18446744073709551615 := by unfold keyN; rw [hn]; rfl
    rw [e]; decide +kernel

theorem parse_show (a : Nat) (w : World) (ht : Tab w) (hy : Syn w) (ha : a < 18446744073709551616) :
    Calls Tryd.prog 15 #[.string ⟨(showL a).toArray⟩] w fun e w' => e = .returned (.tuple #[.float .f64 (if nanB a then nanW else a), .bool true]) ∧ Below w.heap.size w w' :=
  (parse_any _ w ht hy).mono fun e w' ⟨h, hb⟩ => ⟨by
    unfold Pout at h
    rw [ByteArray.toList_eq] at h
    simp only at h
    rw [par_show a ha] at h
    exact h, hb⟩

set_option maxHeartbeats 4000000 in
theorem law_FloBack (a key : Nat) (w : World) (ht : Tab w) (hy : Syn w) (ha : a < 18446744073709551616) (hk : key < 18446744073709551616) :
    Calls Tryd.prog 6 #[.float .f64 a, .int .u64 key] w fun e w' => e = .returned (.bool true) ∧ Below w.heap.size w w' := by
  have hka := keyN_lt a ha
  have O := Lib.hid (of_key a ha)
  have hx := ofF_lt (keyN a) hka
  have hz := ofF_lt key hk
  have hyl : (if nanB a then nanW else a) < 18446744073709551616 := by split; decide; exact ha
  have S1 := Lib.hid (fun wx => same_yes (ofF (keyN a)) a wx hx ha (key_back a ha))
  have S2 := Lib.hid (fun wx => same_yes (if nanB a then nanW else a) a wx hyl ha (key_read a))
  have PS := Lib.hid (fun wx h1 h2 => parse_show a wx h1 h2 ha)
  generalize hyy : (if nanB a then nanW else a) = y at *
  clear hyy
  have KO := Lib.hid (fun h => key_of key hk h)
  have K1 := Lib.hid (fun wx => (of_any (keyN a) wx hka))
  rw [of_key a ha] at K1
  cases e1 : ofB key
  · go_enter Tryd.func6, Tryd.ntmps6
    go_wp2_with fail
    refine (awake_any _ ht).mono ?_
    rintro e w1 ⟨rfl, hb1⟩
    go_wp2_with fail
    refine (key_any a _ ha).mono ?_
    rintro e w' ⟨rfl, rfl⟩
    go_wp2_with fail
    refine (K1.out _).mono ?_
    rintro e w' ⟨rfl, rfl⟩
    go_wp2_with fail
    refine (show_any a _ (ht.below hb1) ha).mono ?_
    rintro e w2 ⟨rfl, hb2⟩
    have hb12 := hb1.trans (hb2.mono hb1.size)
    go_wp2_with fail
    refine (PS.out _ (ht.below hb12) (hy.below hb12)).mono ?_
    rintro e w3 ⟨rfl, hb3⟩
    have hb13 := hb12.trans (hb3.mono hb12.size)
    go_wp2_with fail
    refine (S1.out _).mono ?_
    rintro e w' ⟨rfl, rfl⟩
    go_wp2_with fail
    refine (S2.out _).mono ?_
    rintro e w' ⟨rfl, rfl⟩
    go_wp2_with fail
    refine (of_any key _ hk).mono ?_
    rintro e w' ⟨rfl, rfl⟩
    go_wp2
    go_ret
    exact ⟨rfl, hb13⟩
  · have K := KO.out e1
    have KK := Lib.hid (fun wx => key_any (ofF key) wx hz)
    rw [K] at KK
    clear K
    go_enter Tryd.func6, Tryd.ntmps6
    go_wp2_with fail
    refine (awake_any _ ht).mono ?_
    rintro e w1 ⟨rfl, hb1⟩
    go_wp2_with fail
    refine (key_any a _ ha).mono ?_
    rintro e w' ⟨rfl, rfl⟩
    go_wp2_with fail
    refine (K1.out _).mono ?_
    rintro e w' ⟨rfl, rfl⟩
    go_wp2_with fail
    refine (show_any a _ (ht.below hb1) ha).mono ?_
    rintro e w2 ⟨rfl, hb2⟩
    have hb12 := hb1.trans (hb2.mono hb1.size)
    go_wp2_with fail
    refine (PS.out _ (ht.below hb12) (hy.below hb12)).mono ?_
    rintro e w3 ⟨rfl, hb3⟩
    have hb13 := hb12.trans (hb3.mono hb12.size)
    go_wp2_with fail
    refine (S1.out _).mono ?_
    rintro e w' ⟨rfl, rfl⟩
    go_wp2_with fail
    refine (S2.out _).mono ?_
    rintro e w' ⟨rfl, rfl⟩
    go_wp2_with fail
    refine (of_any key _ hk).mono ?_
    rintro e w' ⟨rfl, rfl⟩
    go_wp2_with fail
    refine (KK.out _).mono ?_
    rintro e w' ⟨rfl, rfl⟩
    go_wp2
    go_ret
    exact ⟨rfl, hb13⟩

end Go.Proofs.YtfpfgimgnmhnaaaDoor
