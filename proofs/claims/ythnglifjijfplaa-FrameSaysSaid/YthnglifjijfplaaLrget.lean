/-
  What the document's own reader reads.
-/
import Derived.Test.YthnglifjijfplaaLget
namespace Go.Proofs.Ythnglifjijfplaa
open Go.RowKit

theorem and_low (c : Nat) (h : c < 256) : bits .and .u8 (c : Int) 127 = ((c % 128 : Nat) : Int) := by
  have e := u8_and_nat c 127 h (by decide)
  rw [show ((127 : Nat) : Int) = 127 from rfl] at e
  rw [e]
  congr 1
  exact Nat.and_two_pow_sub_one_eq_mod c 7

set_option maxRecDepth 20000 in
set_option maxHeartbeats 2000000 in
theorem rget_any (bs : List Nat) (ao : Option Addr) (cap : Nat) (W : World) (hs : SlAt bV 256 W ao cap bs) :
    Calls Try.prog 30 #[.slice ao bs.length cap] W (GotPost W (getN bs)) := by
  have hfit := hs.fit
  have hmax := hs.max
  unfold maxLen at hmax
  have S := Lib.hid hs
  clear hs
  go_enter Try.func30, Try.ntmps30
  go_wp2_with fail
  go_loop [4, 5] (fun n i => ∃ k acc : Nat, k ≤ 10 ∧ acc < 18446744073709551616 ∧ n = .int .u64 (acc : Nat) ∧ i = .int .i64 (k : Nat) ∧ Hid (SeenN bs k acc)) (fun _ i => 10 - (intOf i).toNat)
  case atStart => exact ⟨0, 0, Nat.zero_le _, by decide, rfl, rfl, seen_zero bs⟩
  case round =>
    obtain ⟨k, acc, hk, hacc, rfl, rfl, hs⟩ := hrel
    by_cases hkb : k < bs.length
    · by_cases h10 : k < 10
      · obtain ⟨b, off, rfl, hbW, hcx⟩ := S.out.cell k hkb
        have hc := S.out.lt bs[k] (List.getElem_mem hkb)
        have k1 : W.cell? ⟨b, off + k, none⟩ = some (.int .u8 (bs[k] : Nat)) := hcx
        clear hcx
        have S1 := Lib.hid (fun (h : ¬ bs[k] < 128) => seen_next hs.out hkb h)
        have S2 := Lib.hid (fun (h : bs[k] < 128) (h9 : k < 9 ∨ (k = 9 ∧ bs[k] < 2)) => seen_last hs.out hkb h h9)
        have S3 := Lib.hid (fun (h : 2 ≤ bs[k]) (h9 : k = 9) => seen_much hs.out (Or.inr ⟨h9, hkb, show 2 ≤ bs[k] % 128 ∨ 128 ≤ bs[k] by omega⟩))
        generalize hq : bs[k] = c at *
        clear hq
        have ha := hs.out.2
        have hno := and_low c hc
        obtain ⟨s, hs7⟩ : ∃ s : Nat, (k : Int) * 7 = (s : Int) := ⟨k * 7, by simp⟩
        have hs7' : 7 * (k : Int) = (s : Int) := by omega
        have hs63 : s ≤ 63 := by omega
        by_cases hout : k = 9 ∧ 2 ≤ c
        · have R := Lib.hid (S3.out hout.2 hout.1)
          have d1 : ((k : Int) == 9) = true := by simp; omega
          have d2 : (1 : Int) < (c : Int) := by omega
          clear ha S1 S2 S3 hout
          go_wp2_with fail
          go_ret2
          exact ⟨by rw [R.out]; rfl, rfl⟩
        · have hroom : k < 9 ∨ (k = 9 ∧ c % 128 < 2) := by omega
          obtain ⟨G, g1, g2, g3⟩ := shift_room hs7 hroom
          have hG : G < 18446744073709551616 := by rw [g2]; exact room_word hroom
          have hor := or_group hs7 ha g2 hacc hG
          have hN9 : acc + G < 18446744073709551616 := by rw [g2]; exact sum_word ha hroom
          obtain ⟨N, hN⟩ : ∃ N, N = acc + G := ⟨_, rfl⟩
          rw [← hN] at hor hN9
          by_cases h128 : c < 128
          · have hmod : c % 128 = c := Nat.mod_eq_of_lt h128
            have R := Lib.hid (S2.out h128 (by rw [hmod] at hroom; exact hroom))
            rw [hmod] at g2
            rw [← g2, ← hN] at R
            have hcm : (c : Int) % 128 = (c : Int) := by omega
            have g1' := g1
            rw [hcm] at g1'
            clear hcm hmod g3
            clear ha S1 S2 S3 g2 hN
            by_cases hz : 0 < k ∧ c = 0
            · have e := Lib.hid (show getN bs = (0, 0) by rw [R.out, if_pos hz])
              have hz1 := hz.1
              have hz2 : c < 1 := by omega
              have d2 : ((c : Int) == 0) = true := by simp; omega
              clear hz R
              by_cases h9 : 8 < k
              · have d1 : ((k : Int) == 9) = true := by simp; omega
                go_wp2_with fail
                go_ret2
                exact ⟨by rw [e.out]; rfl, rfl⟩
              · have d1 : ((k : Int) == 9) = false := by simp; omega
                go_wp2_with fail
                go_ret2
                exact ⟨by rw [e.out]; rfl, rfl⟩
            · have e := Lib.hid (show getN bs = (N, k + 1) by rw [R.out, if_neg hz])
              have fin : ∀ {x y : Value}, x = .int .u64 (N : Nat) → y = .int .i64 ((k : Int) + 1) → Ending.returned (.tuple #[x, y]) = .returned (.tuple #[.int .u64 ((getN bs).1 : Nat), .int .i64 ((getN bs).2 : Nat)]) := by
                intro x y hx hy
                rw [e.out, hx, hy]
                simp
              by_cases h9 : 8 < k
              · have d1 : ((k : Int) == 9) = true := by simp; omega
                have d2 : ((c : Int) == 0) = false := by simp; omega
                have d3 : (c : Int) ≤ 1 := by omega
                go_wp2_with fail
                go_ret2
                exact ⟨fin rfl rfl, rfl⟩
              · have d1 : ((k : Int) == 9) = false := by simp; omega
                by_cases h0 : c < 1
                · have d2 : ((c : Int) == 0) = true := by simp; omega
                  have d3 : (k : Int) ≤ 0 := by omega
                  go_wp2_with fail
                  go_ret2
                  exact ⟨fin rfl rfl, rfl⟩
                · have d2 : ((c : Int) == 0) = false := by simp; omega
                  go_wp2_with fail
                  go_ret2
                  exact ⟨fin rfl rfl, rfl⟩
          · have R := Lib.hid (S1.out h128)
            rw [← g2, ← hN] at R
            clear ha S1 S2 S3 g2 hroom hN g3
            go_wp2_with fail
            go_round
            case rel => exact ⟨k + 1, N, by omega, hN9, rfl, by go_num, R⟩
            case measure => simp only [intOf]; omega
      · have R := Lib.hid (seen_much hs.out (Or.inl (show k = 10 by omega)))
        go_wp2_with fail
        go_ret2
        exact ⟨by rw [R.out]; rfl, rfl⟩
    · have R := Lib.hid (seen_over hs.out (Nat.le_of_not_lt hkb))
      go_wp2_with fail
      go_ret2
      exact ⟨by rw [R.out]; rfl, rfl⟩

end Go.Proofs.Ythnglifjijfplaa
