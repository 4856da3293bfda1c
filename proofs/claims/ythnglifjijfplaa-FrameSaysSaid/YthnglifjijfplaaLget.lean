/-
  What is read: the program's own reader.
-/
import Derived.Test.YthnglifjijfplaaLmem
namespace Go.Proofs.Ythnglifjijfplaa
open Go.RowKit

def GotPost (W : World) (x : Nat × Nat) (e : Ending) (w' : World) : Prop :=
  e = .returned (.tuple #[.int .u64 (x.1 : Nat), .int .i64 (x.2 : Nat)]) ∧ W = w'

theorem not_more (c : Nat) (h : c < 256) : bits .andNot .u8 (c : Int) 128 = ((c % 128 : Nat) : Int) := by
  have e := u8_andNot_nat c 128 h (by decide)
  rw [show ((128 : Nat) : Int) = 128 from rfl] at e
  rw [e]
  congr 1
  exact Nat.and_two_pow_sub_one_eq_mod c 7

theorem pow_seven {k s : Nat} (h : (k : Int) * 7 = (s : Int)) : 2 ^ s = 128 ^ k := by
  obtain rfl : s = 7 * k := by omega
  rw [Nat.pow_mul]

theorem wrap_word {n : Nat} : IntKind.u64.wrap (n : Int) = ((n % 18446744073709551616 : Nat) : Int) := by
  rw [IntKind.wrap_u64]; simp

theorem cast_shift (c s : Nat) : (c : Int) % 128 * 2 ^ s = ((c % 128 * 2 ^ s : Nat) : Int) := by simp

theorem room_word {c k : Nat} (h : k < 9 ∨ (k = 9 ∧ c % 128 < 2)) : c % 128 * 128 ^ k < 18446744073709551616 := by
  have e9 : (128 : Nat) ^ 9 = 9223372036854775808 := by decide
  rcases h with h | ⟨rfl, h⟩
  · have hp : (128 : Nat) ^ (k + 1) ≤ 128 ^ 9 := Nat.pow_le_pow_right (by decide) (by omega)
    have hq : c % 128 * 128 ^ k ≤ 127 * 128 ^ k := Nat.mul_le_mul_right _ (by omega)
    rw [Nat.pow_succ] at hp
    omega
  · have hq : c % 128 * 128 ^ 9 ≤ 1 * 128 ^ 9 := Nat.mul_le_mul_right _ (by omega)
    rw [e9] at hq ⊢
    omega

theorem shift_room {c k s : Nat} (hs : (k : Int) * 7 = (s : Int)) (h : k < 9 ∨ (k = 9 ∧ c % 128 < 2)) :
    ∃ G : Nat, IntKind.u64.wrap ((c : Int) % 128 * 2 ^ s) = (G : Int) ∧ G = c % 128 * 128 ^ k ∧ ((G : Int) / 2 ^ s != (c : Int) % 128) = false := by
  have e := pow_seven hs
  have hw := room_word h
  refine ⟨c % 128 * 128 ^ k, ?_, rfl, ?_⟩
  · rw [cast_shift, wrap_word, e, Nat.mod_eq_of_lt hw]
  · have h1 : ((c % 128 * 128 ^ k : Nat) : Int) / 2 ^ s = ((c % 128 : Nat) : Int) := by
      rw [show ((2 : Int) ^ s) = ((2 ^ s : Nat) : Int) by simp, ← Int.natCast_ediv, e, Nat.mul_div_cancel _ (Nat.pow_pos (by decide))]
    rw [h1]; simp

theorem shift_none {c k s : Nat} (hs : (k : Int) * 7 = (s : Int)) (h : k = 9) (h2 : 2 ≤ c % 128) :
    ∃ G : Nat, IntKind.u64.wrap ((c : Int) % 128 * 2 ^ s) = (G : Int) ∧ ((G : Int) / 2 ^ s != (c : Int) % 128) = true := by
  have e := pow_seven hs
  subst h
  have e9 : (128 : Nat) ^ 9 = 9223372036854775808 := by decide
  refine ⟨c % 128 * 128 ^ 9 % 18446744073709551616, ?_, ?_⟩
  · rw [cast_shift, wrap_word, e]
  · rw [show ((2 : Int) ^ s) = ((2 ^ s : Nat) : Int) by simp, ← Int.natCast_ediv, e, e9]
    have h3 : c % 128 * 9223372036854775808 % 18446744073709551616 / 9223372036854775808 ≠ c % 128 := by omega
    simp
    omega

theorem or_group {acc G k s g : Nat} (hs : (k : Int) * 7 = (s : Int)) (ha : acc < 128 ^ k) (hG : G = g * 128 ^ k) (hw : acc < 18446744073709551616) (hw2 : G < 18446744073709551616) : bits .or .u64 (acc : Int) (G : Int) = ((acc + G : Nat) : Int) := by
  have e := pow_seven hs
  rw [u64_or_nat acc G hw hw2, Nat.or_comm, nat_join s G acc (by rw [hG, e]; exact Nat.mul_mod_left ..) (by rw [e]; exact ha), Nat.add_comm]

theorem sum_word {acc c k : Nat} (ha : acc < 128 ^ k) (h : k < 9 ∨ (k = 9 ∧ c % 128 < 2)) : acc + c % 128 * 128 ^ k < 18446744073709551616 := by
  have e9 : (128 : Nat) ^ 9 = 9223372036854775808 := by decide
  rcases h with h | ⟨rfl, h⟩
  · have hp : (128 : Nat) ^ (k + 1) ≤ 128 ^ 9 := Nat.pow_le_pow_right (by decide) (by omega)
    have hq : c % 128 * 128 ^ k ≤ 127 * 128 ^ k := Nat.mul_le_mul_right _ (by omega)
    rw [Nat.pow_succ] at hp
    omega
  · have hq : c % 128 * 128 ^ 9 ≤ 1 * 128 ^ 9 := Nat.mul_le_mul_right _ (by omega)
    rw [e9] at hq ha ⊢
    omega

theorem short_last {bs : List Nat} {k acc : Nat} (h : SeenN bs k acc) (hk : k < bs.length) (hc : bs[k] < 128) (h9 : k < 9 ∨ (k = 9 ∧ bs[k] < 2)) : shortN (acc + bs[k] * 128 ^ k) (k + 1) = getN bs := by
  rw [seen_last h hk hc h9]
  generalize bs[k] = c at *
  unfold shortN
  by_cases hz : 0 < k ∧ c = 0
  · rw [if_pos hz]
    have := seen_short h.2 hz.1
    have h0 : shortN acc (k + 1) = (0, 0) := by unfold shortN; rw [if_neg (by omega)]
    unfold shortN at h0
    rw [hz.2, Nat.zero_mul]
    exact h0
  · rw [if_neg hz, if_pos (seen_size h.2 hc hz).symm]

set_option maxRecDepth 20000 in
set_option maxHeartbeats 2000000 in
theorem get_any (bs : List Nat) (ao : Option Addr) (cap : Nat) (W : World) (hs : SlAt bV 256 W ao cap bs) :
    Calls Try.prog 27 #[.slice ao bs.length cap] W (GotPost W (getN bs)) := by
  have hfit := hs.fit
  have hmax := hs.max
  unfold maxLen at hmax
  have S := Lib.hid hs
  clear hs
  go_enter Try.func27, Try.ntmps27
  go_wp2_with fail
  all_goals
    obtain ⟨L, hL⟩ : ∃ L, L = min bs.length 10 := ⟨_, rfl⟩
    try rw [show max (10 : Int) 0 = 10 by decide]
    go_loop [2, 14] (fun n i => ∃ k acc : Nat, k ≤ L ∧ acc < 18446744073709551616 ∧ n = .int .u64 (acc : Nat) ∧ i = .int .i64 (k : Nat) ∧ Hid (SeenN bs k acc)) (fun _ i => L - (intOf i).toNat)
    case atStart => exact ⟨0, 0, Nat.zero_le _, by decide, rfl, rfl, seen_zero bs⟩
    case round =>
      obtain ⟨k, acc, hk, hacc, rfl, rfl, hs⟩ := hrel
      by_cases hlt : k < L
      · have hkb : k < bs.length := by omega
        obtain ⟨b, off, rfl, hbW, hcx⟩ := S.out.cell k hkb
        have hc := S.out.lt bs[k] (List.getElem_mem hkb)
        have k1 : W.cell? ⟨b, off + k, none⟩ = some (.int .u8 (bs[k] : Nat)) := hcx
        clear hcx
        have S1 := Lib.hid (fun (h : ¬ bs[k] < 128) => seen_next hs.out hkb h)
        have S2 := Lib.hid (fun (h : bs[k] < 128) (h9 : k < 9 ∨ (k = 9 ∧ bs[k] < 2)) => short_last hs.out hkb h h9)
        have S3 := Lib.hid (fun (h : 2 ≤ bs[k] % 128) (h9 : k = 9) => seen_much hs.out (Or.inr ⟨h9, hkb, Or.inl h⟩))
        generalize hq : bs[k] = c at *
        clear hq
        have ha := hs.out.2
        have hno := not_more c hc
        obtain ⟨s, hs7⟩ : ∃ s : Nat, (k : Int) * 7 = (s : Int) := ⟨k * 7, by simp⟩
        have hs63 : s ≤ 63 := by omega
        by_cases hroom : k < 9 ∨ (k = 9 ∧ c % 128 < 2)
        · obtain ⟨G, g1, g2, g3⟩ := shift_room hs7 hroom
          have hG : G < 18446744073709551616 := by rw [g2]; exact room_word hroom
          have hor := or_group hs7 ha g2 hacc hG
          have hN9 : acc + G < 18446744073709551616 := by rw [g2]; exact sum_word ha hroom
          obtain ⟨N, hN⟩ : ∃ N, N = acc + G := ⟨_, rfl⟩
          rw [← hN] at hor hN9
          by_cases h128 : c < 128
          · have hmod : c % 128 = c := Nat.mod_eq_of_lt h128
            have R := Lib.hid (S2.out h128 (by rw [hmod] at hroom; exact hroom))
            rw [hmod] at g2
            rw [← g2, ← hN] at R
            have hcm : (c : Int) % 128 = (c : Int) := by omega
            have g1' := g1
            have g3' := g3
            rw [hcm] at g1' g3'
            clear hcm hmod
            clear ha S1 S2 S3 g2 hroom hN
            go_wp2_with (go_at_call 33; refine (short_any N (k + 1) _ hN9 (by omega)).mono ?_; rintro e w' ⟨rfl, rfl⟩)
            go_ret2
            exact ⟨by rw [← R.out]; rfl, rfl⟩
          · have R := Lib.hid (S1.out h128)
            rw [← g2, ← hN] at R
            clear ha S1 S2 S3 g2 hroom hN
            go_wp2_with fail
            go_round
            case rel => exact ⟨k + 1, N, by omega, hN9, rfl, by go_num, R⟩
            case measure => simp only [intOf]; omega
        · have h9 : k = 9 := by omega
          have R := Lib.hid (S3.out (by omega) h9)
          obtain ⟨G, g1, g3⟩ := shift_none hs7 h9 (show 2 ≤ c % 128 by omega)
          clear ha S1 S2 S3 hroom h9
          by_cases h128 : c < 128
          · have hcm : (c : Int) % 128 = (c : Int) := by omega
            have g1' := g1
            have g3' := g3
            rw [hcm] at g1' g3'
            clear hcm
            go_wp2_with fail
            go_ret2
            exact ⟨by rw [R.out]; rfl, rfl⟩
          · go_wp2_with fail
            go_ret2
            exact ⟨by rw [R.out]; rfl, rfl⟩
      · have R : Hid (getN bs = (0, 0)) := by
          by_cases h10 : bs.length ≤ k
          · exact seen_over hs.out h10
          · exact seen_much hs.out (Or.inl (by omega))
        go_wp2_with fail
        go_ret2
        exact ⟨by rw [R.out]; rfl, rfl⟩

end Go.Proofs.Ythnglifjijfplaa
