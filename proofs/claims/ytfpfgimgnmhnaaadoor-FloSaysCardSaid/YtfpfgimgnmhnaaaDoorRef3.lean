/-
  The reference's reading.
-/
import Derived.Test.YtfpfgimgnmhnaaaDoorRef2
namespace Go.Proofs.YtfpfgimgnmhnaaaDoor
open Go.RowKit

theorem digR_lt (c d : Nat) (h : digR c = some d) : d < 16 := by
  unfold digR at h
  split at h
  · cases h; omega
  · split at h
    · cases h; omega
    · cases h

/-- The loop's end: all sixteen letters are digits. -/
def RdOut (s : ByteArray) (e : Ending) : Prop := e = .returned (.tuple #[.float .f64 ((parO s.toList).getD 0), .bool (parO s.toList).isSome])

theorem shl_or (u d : Nat) (hu : u < 1152921504606846976) (hd : d < 16) : bits .or .u64 ((16 * u : Nat) : Int) (d : Int) = ((16 * u + d : Nat) : Int) := by
  have e := u64_or_nat (16 * u) d (by omega) (by omega)
  rw [e, nat_join 4 (16 * u) d (by omega) (by omega)]

set_option maxRecDepth 100000 in
set_option maxHeartbeats 4000000 in
theorem rparse_16 (s : ByteArray) (w : World) (h16 : s.size = 16) (h1 : (s.toList == nanS) = false) (h2 : (s.toList == infS) = false) (h3 : (s.toList == ninS) = false) :
    Calls Tryd.prog 25 #[.string s] w fun e w' => RdOut s e ∧ w = w' := by
  have hl : s.toList.length = 16 := by rw [size_len]; exact h16
  have hp := par_ref s.toList
  rw [if_neg (by simpa using h1), if_neg (by simpa using h2), if_neg (by simpa using h3), if_pos hl] at hp
  unfold nanS at h1
  unfold infS at h2
  unfold ninS at h3
  have HP := Lib.hid hp
  have t1 : ((s.size : Int) != 16) = false := by rw [h16]; rfl
  have hs1 : s.size ≤ 16 := by omega
  have hs2 : 16 ≤ s.size := by omega
  have HL := Lib.hid hl
  have hn := f64frombits_run
  clear hp hl h16
  go_enter Tryd.func25, Tryd.ntmps25
  go_wp2
  go_loop [4, 5] (fun n i => ∃ k u : Nat, k ≤ 16 ∧ u < 16 ^ k ∧ i = .int .i64 k ∧ n = .int .u64 u ∧ Hid (valR (s.toList.drop k) u = valR s.toList 0)) (fun _ i => 16 - (intOf i).toNat)
  case atStart => exact ⟨0, 0, by omega, by omega, rfl, rfl, rfl⟩
  case round =>
    obtain ⟨k, u, hk, hu, rfl, rfl, hr⟩ := hrel
    by_cases hlt : k < 16
    · have hl : k < s.toList.length := by rw [HL.out]; exact hlt
      have R := Lib.hid (hr.out.symm.trans (valR_step _ k u hl))
      have hu2 : u < 1152921504606846976 := by
        have : 16 ^ k ≤ 16 ^ 15 := Nat.pow_le_pow_right (by omega) (by omega)
        rw [show (16 : Nat) ^ 15 = 1152921504606846976 from by decide] at this
        omega
      have hk : k < s.size := by omega
      have hx : s.toList[k] = s[k] := by
        have : s.toList = s.data.toList := ByteArray.toList_eq s
        simp only [this]; rfl
      have hR := R.out
      rw [hx] at hR
      by_cases a1 : 48 ≤ s[k].toNat ∧ s[k].toNat ≤ 57
      · obtain ⟨a1, a2⟩ := a1
        have hd : digR s[k].toNat = some (s[k].toNat - 48) := by unfold digR; rw [if_pos ⟨a1, a2⟩]
        rw [hd] at hR
        have hO : Hid (bits .or .u64 ((u : Int) * 16) ((s[k].toNat : Int) - 48) = ((16 * u + (s[k].toNat - 48) : Nat) : Int)) := by
          have := shl_or u (s[k].toNat - 48) hu2 (by omega)
          rw [show ((u : Int) * 16) = ((16 * u : Nat) : Int) by omega, show ((s[k].toNat : Int) - 48) = ((s[k].toNat - 48 : Nat) : Int) by omega]
          exact this
        have HP2 : Hid (16 * u + (s[k].toNat - 48) < 16 ^ (k + 1)) := by unfold Hid; rw [Nat.pow_succ]; omega
        have HR := Lib.hid hR.symm
        clear hR hd hx R hr hu
        go_wp2
        go_round
        case rel => exact ⟨k + 1, _, by omega, HP2.out, by go_num, by rw [hO.out], HR.out⟩
        case measure => simp [intOf]; omega
      · by_cases b1 : 97 ≤ s[k].toNat ∧ s[k].toNat ≤ 102
        · obtain ⟨b1, b2⟩ := b1
          have hd : digR s[k].toNat = some (s[k].toNat - 87) := by unfold digR; rw [if_neg a1, if_pos ⟨b1, b2⟩]
          rw [hd] at hR
          have hO : Hid (bits .or .u64 ((u : Int) * 16) ((s[k].toNat : Int) - 97 + 10) = ((16 * u + (s[k].toNat - 87) : Nat) : Int)) := by
            have := shl_or u (s[k].toNat - 87) hu2 (by omega)
            rw [show ((u : Int) * 16) = ((16 * u : Nat) : Int) by omega, show ((s[k].toNat : Int) - 97 + 10) = ((s[k].toNat - 87 : Nat) : Int) by omega]
            exact this
          have HP2 : Hid (16 * u + (s[k].toNat - 87) < 16 ^ (k + 1)) := by unfold Hid; rw [Nat.pow_succ]; omega
          have HR := Lib.hid hR.symm
          have c1 : 57 < s[k].toNat := by omega
          clear hR hd hx R hr hu a1
          go_wp2
          go_round
          case rel => exact ⟨k + 1, _, by omega, HP2.out, by go_num, by rw [hO.out], HR.out⟩
          case measure => simp [intOf]; omega
        · have hd : digR s[k].toNat = none := by unfold digR; rw [if_neg a1, if_neg b1]
          rw [hd] at hR
          have HE : Hid (RdOut s (.returned (.tuple #[.float .f64 0, .bool false]))) := by
            have h := HP.out
            rw [hR] at h
            unfold Hid RdOut
            rw [h]; rfl
          have q1 : s[k].toNat < 48 ∨ (48 ≤ s[k].toNat ∧ 57 < s[k].toNat) := by omega
          have q2 : s[k].toNat < 97 ∨ (97 ≤ s[k].toNat ∧ 102 < s[k].toNat) := by omega
          clear hR hd hx R hr hu a1 b1
          rcases q1 with q1 | ⟨q1, q3⟩ <;> rcases q2 with q2 | ⟨q2, q4⟩
          all_goals first
            | (exfalso; omega)
            | (go_wp2
               go_ret2
               exact ⟨HE.out, rfl⟩)
    · obtain rfl : k = 16 := by omega
      have HN : some u = valR s.toList 0 := by
        have := hr.out
        rw [List.drop_of_length_le (by rw [HL.out]; omega)] at this
        exact this
      have hub : u < 18446744073709551616 := hu
      have h := HP.out
      rw [← HN] at h
      simp only at h
      have C := Lib.hid (fun wx => rshow_any u wx hub)
      clear hr hu HN hub
      cases hs : (showL u == s.toList)
      · rw [if_neg (by simpa using hs)] at h
        have HE : Hid (RdOut s (.returned (.tuple #[.float .f64 0, .bool false]))) := by unfold Hid RdOut; rw [h]; rfl
        clear h
        go_wp2_with (go_at_call 30; refine (C.out _).mono ?_; rintro e w' ⟨rfl, rfl⟩)
        go_ret2
        exact ⟨HE.out, rfl⟩
      · rw [if_pos (by simpa using hs)] at h
        have HE : Hid (RdOut s (.returned (.tuple #[.float .f64 u, .bool true]))) := by unfold Hid RdOut; rw [h]; rfl
        clear h
        go_wp2_with (go_at_call 30; refine (C.out _).mono ?_; rintro e w' ⟨rfl, rfl⟩)
        go_ret2
        exact ⟨HE.out, rfl⟩

set_option maxHeartbeats 4000000 in
theorem rparse_any (s : ByteArray) (w : World) :
    Calls Tryd.prog 25 #[.string s] w fun e w' => RdOut s e ∧ w = w' := by
  have hl := size_len s
  cases h1 : (s.toList == nanS)
  · cases h2 : (s.toList == infS)
    · cases h3 : (s.toList == ninS)
      · by_cases h16 : s.size = 16
        · exact rparse_16 s w h16 h1 h2 h3
        · have HE : Hid (RdOut s (.returned (.tuple #[.float .f64 0, .bool false]))) := by
            have hp := par_ref s.toList
            rw [if_neg (by simpa using h1), if_neg (by simpa using h2), if_neg (by simpa using h3), if_neg (by omega)] at hp
            unfold Hid RdOut; rw [hp]; rfl
          have t1 : ((s.size : Int) != 16) = true := by simp; omega
          unfold nanS at h1
          unfold infS at h2
          unfold ninS at h3
          clear hl h16
          go_enter Tryd.func25, Tryd.ntmps25
          go_wp2
          go_ret2
          exact ⟨HE.out, rfl⟩
      · have HE : Hid (RdOut s (.returned (.tuple #[.float .f64 18442240474082181120, .bool true]))) := by
          have e : s.toList = ninS := by simpa using h3
          unfold Hid RdOut; rw [e]; rfl
        unfold nanS at h1
        unfold infS at h2
        unfold ninS at h3
        clear hl
        go_enter Tryd.func25, Tryd.ntmps25
        go_wp2_with (go_at_call 12; refine (inf_neg _).mono ?_; rintro e w' ⟨rfl, rfl⟩)
        go_ret2
        exact ⟨HE.out, rfl⟩
    · have HE : Hid (RdOut s (.returned (.tuple #[.float .f64 9218868437227405312, .bool true]))) := by
        have e : s.toList = infS := by simpa using h2
        unfold Hid RdOut; rw [e]; rfl
      unfold nanS at h1
      unfold infS at h2
      clear hl
      go_enter Tryd.func25, Tryd.ntmps25
      go_wp2_with (go_at_call 12; refine (inf_pos _).mono ?_; rintro e w' ⟨rfl, rfl⟩)
      go_ret2
      exact ⟨HE.out, rfl⟩
  · have HE : Hid (RdOut s (.returned (.tuple #[.float .f64 nanW, .bool true]))) := by
      have e : s.toList = nanS := by simpa using h1
      unfold Hid RdOut; rw [e]; rfl
    unfold nanS at h1
    clear hl
    go_enter Tryd.func25, Tryd.ntmps25
    go_wp2_with (go_at_call 11; refine (nan_any _).mono ?_; rintro e w' ⟨rfl, rfl⟩)
    go_ret2
    exact ⟨HE.out, rfl⟩

end Go.Proofs.YtfpfgimgnmhnaaaDoor
