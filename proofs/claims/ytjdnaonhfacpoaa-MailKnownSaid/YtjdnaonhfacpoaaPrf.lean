/-
  A float is read; a reader begins.
-/
import Derived.Test.YtjdnaonhfacpoaaPrb
namespace Go.Proofs.Ytjdnaonhfacpoaa
open Go.RowKit

def foldB (bs : List Nat) : Nat := bs.foldl (fun a b => a * 256 + b) 0
/-- The word of the first eight bytes. -/
def beN (bs : List Nat) : Nat := foldB (bs.take 8)
def fltR : Option (List Nat) → Nat × Option (List Nat)
  | none => (0, none)
  | some B => if B.length < 8 ∨ ofB (beN B) = false then (0, none) else (ofF (beN B), some (B.drop 8))

theorem foldB_snoc (bs : List Nat) (c : Nat) : foldB (bs ++ [c]) = foldB bs * 256 + c := by unfold foldB; rw [List.foldl_append]; rfl
theorem foldB_take {bs : List Nat} {j : Nat} (h : j < bs.length) : foldB (bs.take (j + 1)) = foldB (bs.take j) * 256 + bs[j] := by
  rw [List.take_succ_eq_append_getElem h, foldB_snoc]
theorem foldB_lt {bs : List Nat} (hb : ∀ x ∈ bs, x < 256) : ∀ j, j ≤ bs.length → foldB (bs.take j) < 256 ^ j
  | 0, _ => by simp [foldB]
  | j + 1, h => by
    have h1 := foldB_lt hb j (by omega)
    have h2 := hb bs[j] (List.getElem_mem (by omega))
    rw [foldB_take (by omega), Nat.pow_succ]
    omega
theorem foldB_word {bs : List Nat} (hb : ∀ x ∈ bs, x < 256) {j : Nat} (h : j ≤ bs.length) (h8 : j ≤ 8) : foldB (bs.take j) < 18446744073709551616 :=
  Nat.lt_of_lt_of_le (foldB_lt hb j h) (Nat.le_trans (Nat.pow_le_pow_right (by decide) h8) (by decide))
theorem foldB_room {bs : List Nat} (hb : ∀ x ∈ bs, x < 256) {j : Nat} (h : j ≤ bs.length) (h8 : j ≤ 7) : foldB (bs.take j) < 72057594037927936 :=
  Nat.lt_of_lt_of_le (foldB_lt hb j h) (Nat.le_trans (Nat.pow_le_pow_right (by decide) h8) (by decide))

theorem or_byte {K c : Nat} (hK : K < 72057594037927936) (hc : c < 256) : bits .or .u64 ((K : Int) * 256) (c : Int) = ((K * 256 + c : Nat) : Int) := by
  have e := u64_or_nat (K * 256) c (by omega) (by omega)
  rw [show ((K * 256 : Nat) : Int) = (K : Int) * 256 by simp] at e
  rw [e]
  have := nat_join 8 (K * 256) c (by omega) hc
  omega

theorem fltR_bad {s : Option (List Nat)} (h : (s.getD []).length < 8 ∨ ofB (beN (s.getD [])) = false) : fltR s = (0, none) := by
  cases s with
  | none => rfl
  | some B => exact if_pos h
theorem fltR_ok {s : Option (List Nat)} (h1 : ¬ (s.getD []).length < 8) (h2 : ofB (beN (s.getD [])) = true) : ∃ B, s = some B ∧ fltR s = (ofF (beN B), some (B.drop 8)) := by
  cases s with
  | none => exact absurd (show 0 < 8 by decide) h1
  | some B => exact ⟨B, rfl, if_neg (fun e => e.elim h1 (fun e => by rw [show ofB (beN B) = true from h2] at e; cases e))⟩

theorem fof_of {n x : Nat} {b : Bool} (w : World) (h : n < 18446744073709551616) (hx : ofF n = x) (hb : ofB n = b) :
    Calls Try.prog 70 #[.int .u64 n] w fun e w' => e = .returned (.tuple #[.float .f64 x, .bool b]) ∧ w = w' := by
  subst hx hb
  exact fof_any n w h

set_option maxRecDepth 20000 in
set_option maxHeartbeats 2000000 in
theorem rfloat_any (W : World) (p : Nat) (S : Nat → Prop) (s : Option (List Nat)) (hA : RdAt W p S s) :
    Calls Try.prog 56 #[.pointer (some ⟨p, 0, none⟩)] W (RdPost W p S (.float .f64 (fltR s).1) (fltR s).2) := by
  obtain ⟨a, cap, hV⟩ := hA
  have c0 := hV.c0
  have f0 := hV.fz 0
  have hp := hV.inP
  have hfit := hV.sl.fit
  have HV := Lib.hid hV
  clear hV
  by_cases h8 : (s.getD []).length < 8
  · rw [fltR_bad (Or.inl h8)]
    go_enter Try.func56, Try.ntmps56
    go_wp2_with (go_at_call 69; refine (spoil_any _ p S _ _ a cap HV.out).mono ?_; rintro e w' ⟨rfl, hR⟩; have R := Lib.hid hR; clear hR)
    go_ret
    exact ⟨rfl, R.out⟩
  · have R1 := Lib.hid (fun h => fltR_bad (s := s) (Or.inr h))
    have R2 := Lib.hid (fun h => fltR_ok (s := s) h8 h)
    have HR : Hid (fltR s = fltR s) := rfl
    generalize hbs : s.getD [] = bs at *
    have HBS := Lib.hid hbs
    clear hbs
    obtain ⟨b, off, rfl, hb, _⟩ := HV.out.sl.cell 0 (by omega)
    go_enter Try.func56, Try.ntmps56
    go_wp2_with fail
    go_loop [3, 22] (fun key i => ∃ j K : Nat, j ≤ 8 ∧ key = .int .u64 (K : Nat) ∧ i = .int .i64 (j : Nat) ∧ Hid (K = foldB (bs.take j))) (fun _ i => 8 - (intOf i).toNat)
    case atStart => exact ⟨0, 0, by decide, rfl, rfl, rfl⟩
    case round =>
      obtain ⟨j, K, hj, rfl, rfl, hK⟩ := hrel
      by_cases hlt : j < 8
      · obtain ⟨b2, off2, e2, _, hc⟩ := HV.out.sl.cell j (by omega)
        cases e2
        have k1 : W.cell? ⟨b, off + j, none⟩ = some (.int .u8 (bs[j] : Nat)) := hc
        have hcb := HV.out.sl.lt bs[j] (List.getElem_mem (by omega))
        have S1 := Lib.hid (foldB_take (bs := bs) (j := j) (by omega))
        have hroom : K < 72057594037927936 := by rw [hK.out]; exact foldB_room HV.out.sl.lt (by omega) (by omega)
        clear hc
        generalize bs[j] = c at *
        have hor := or_byte hroom hcb
        have R : Hid (K * 256 + c = foldB (bs.take (j + 1))) := by
          show _ = _
          rw [S1.out, hK.out]
        generalize K * 256 + c = K2 at *
        go_wp2_with fail
        go_round
        case rel => exact ⟨j + 1, K2, by omega, rfl, by go_num, R⟩
        case measure => simp only [intOf]; omega
      · obtain rfl : j = 8 := by omega
        have hKl : K < 18446744073709551616 := by rw [hK.out]; exact foldB_word HV.out.sl.lt (by omega) (by decide)
        have EK : Hid (K = beN bs) := hK
        cases hof : ofB (beN bs)
        · have R3 := Lib.hid (R1.out hof)
          have F := Lib.hid (fun w => fof_of w hKl (x := ofF K) (b := false) rfl (by rw [EK.out]; exact hof))
          clear R1 R2 hof
          go_wp2_with (first
            | (go_at_call 70; refine (F.out _).mono ?_; rintro e w' ⟨rfl, rfl⟩)
            | (go_at_call 69; refine (spoil_any _ p S _ _ _ cap HV.out).mono ?_; rintro e w' ⟨rfl, hR⟩; have R := Lib.hid hR; clear hR))
          go_ret
          rw [R3.out]
          exact ⟨rfl, R.out⟩
        · obtain ⟨B, rfl, hR⟩ := R2.out hof
          obtain rfl : B = bs := HBS.out
          have R3 := Lib.hid hR
          have F := Lib.hid (fun w => fof_of w hKl (x := ofF (beN B)) (b := true) (by rw [EK.out]) (by rw [EK.out]; exact hof))
          clear R1 R2 hof hR HR
          by_cases hcap : cap = 8
          · have N1 := Lib.hid (HV.out.nextA (k := 8) (by omega) hcap)
            subst hcap
            go_wp2_with (go_at_call 70; refine (F.out _).mono ?_; rintro e w' ⟨rfl, rfl⟩)
            go_ret
            rw [R3.out]
            exact ⟨rfl, ⟨_, _, N1.out⟩, (Keep.refl _ _).own _ _⟩
          · have N1 := Lib.hid (HV.out.nextB (k := 8) (by omega) hcap)
            simp only [Option.map_some, add_spot] at N1
            go_wp2_with (go_at_call 70; refine (F.out _).mono ?_; rintro e w' ⟨rfl, rfl⟩)
            go_ret
            rw [R3.out]
            exact ⟨rfl, ⟨_, _, N1.out⟩, (Keep.refl _ _).own _ _⟩

def NewRdPost (W : World) (bs : List Nat) (e : Ending) (w' : World) : Prop :=
  ∃ p S, e = .returned (.pointer (some ⟨p, 0, none⟩)) ∧ RdAt w' p S (some bs) ∧ Below W.heap.size W w' ∧ W.heap.size ≤ p ∧ ∀ k, S k → W.heap.size ≤ k ∧ k < p

theorem new_rd {W w1 : World} {bs : List Nat} {a : Option Addr} {cap : Nat} {t : TypeId} (hs : SlAt bV 256 w1 a cap bs) (hb : Below W.heap.size W w1) (hf : ∀ ad, a = some ad → W.heap.size ≤ ad.block ∧ ad.block < w1.heap.size) :
    NewRdPost W bs (.returned (.pointer (some ⟨w1.heap.size, 0, none⟩))) (w1.alloc (.cells #[.slice a bs.length cap, .bool false] t)) := by
  refine ⟨w1.heap.size, fun k => W.heap.size ≤ k ∧ k < w1.heap.size, rfl, ⟨a, cap, ?_⟩, hb.alloc hb.size _, hb.size, fun k h => h⟩
  exact ⟨by simp, by simp, fun i => by simp, by simp, hs.below ((Below.refl _ _).alloc (Nat.le_refl _) _), (fun ad e _ => hf ad e), fun h => by omega⟩

set_option maxHeartbeats 2000000 in
theorem rnew_any (W : World) (bs : List Nat) (ao : Option Addr) (cap : Nat) (hs : SlAt bV 256 W ao cap bs) (hl : bs.length ≤ 2000000) :
    Calls Try.prog 31 #[.slice ao bs.length cap] W (NewRdPost W bs) := by
  have HS := Lib.hid hs
  clear hs
  go_enter Try.func31, Try.ntmps31
  go_wp2_with fail
  refine (clone_any bs ao cap W HS.out hl).mono ?_
  rintro e w1 ⟨a1, cap1, rfl, hs1, hb1, hf1⟩
  have R := Lib.hid (new_rd (t := 81) hs1 hb1 hf1)
  clear hs1 hb1 hf1
  go_wp2_with fail
  go_ret
  exact R.out

end Go.Proofs.Ytjdnaonhfacpoaa
