/-
  What is read in base sixteen.
-/
import Derived.Test.YtfpfgimgnmhnaaaDoorAwak
import Derived.Test.YtfpfgimgnmhnaaaDoorShelf
import Derived.Lib.ConvBytes
import Derived.Lib.AtoiErrMem
namespace Go.Proofs.YtfpfgimgnmhnaaaDoor
open Go.RowKit

def lowN (c : Nat) : Nat := c ||| 32
def digP (c : Nat) : Option Nat :=
  if 48 ≤ c ∧ c ≤ 57 then some (c - 48) else if 97 ≤ lowN c ∧ lowN c ≤ 102 then some (lowN c - 87) else none
def valP : List UInt8 → Nat → Option Nat
  | [], n => some n
  | c :: r, n => match digP c.toNat with
    | none => none
    | some d => valP r (16 * n + d)

theorem valP_step (l : List UInt8) (k n : Nat) (h : k < l.length) : valP (l.drop k) n = match digP l[k].toNat with | none => none | some d => valP (l.drop (k + 1)) (16 * n + d) := by
  rw [List.drop_eq_getElem_cons h]; rfl

theorem lower_any (c : Nat) (w : World) (h : c < 256) : Calls Tryd.prog 51 #[.int .u8 c] w fun e w' => e = .returned (.int .u8 (lowN c : Nat)) ∧ w = w' :=
  (Tryd.internal_strconv_lower c w).mono fun _ _ ⟨he, hw⟩ => ⟨he.trans (ret_int (by
    have e := u8_or_nat c 32 h (by omega)
    rw [show ((32 : Nat) : Int) = 32 from rfl] at e
    rw [e]; rfl)), hw.symm⟩

def Puts (s : ByteArray) (e : Ending) : Prop :=
  match valP s.data.toList 0 with
  | some u => e = .returned (.tuple #[.int .u64 u, .nilIface])
  | none => e = .returned (.tuple #[.int .u64 0, .iface 69 (.int .i64 2)])

def maxU : Int := 18446744073709551615

theorem digP_lt (c d : Nat) (h : digP c = some d) : d < 16 := by
  unfold digP at h
  split at h
  · cases h; omega
  · split at h
    · cases h; omega
    · cases h

theorem low_all : ∀ c : Fin 256, lowN c.val < 256 ∧ (97 ≤ lowN c.val → lowN c.val ≤ 122 → 58 ≤ c.val ∧ c.val ≠ 95) := by decide +kernel
theorem low_lt (c : Nat) (h : c < 256) : lowN c < 256 := (low_all ⟨c, h⟩).1
theorem low_c (c : Nat) (h : c < 256) (h1 : 97 ≤ lowN c) (h2 : lowN c ≤ 122) : 58 ≤ c ∧ c ≠ 95 := (low_all ⟨c, h⟩).2 h1 h2
theorem low_b (c : Nat) (h : c < 256) (h1 : 97 ≤ lowN c) (h2 : lowN c ≤ 102) : 58 ≤ c ∧ c ≠ 95 := low_c c h h1 (by omega)

/-- What a round reckons, in the walk's own words. -/
theorem round_sums (u d : Nat) (hu : u < 1152921504606846976) (hd : d < 16) :
    decide ((1152921504606846976 : Int) ≤ (u : Int)) = false ∧ IntKind.u64.wrap ((u : Int) * 16) = ((16 * u : Nat) : Int) ∧ IntKind.u64.wrap (d : Int) = (d : Int) ∧
    IntKind.u64.wrap (((16 * u : Nat) : Int) + (d : Int)) = ((16 * u + d : Nat) : Int) ∧ decide (((16 * u + d : Nat) : Int) < ((16 * u : Nat) : Int)) = false ∧ decide (maxU < ((16 * u + d : Nat) : Int)) = false ∧
    decide ((16 : Int) ≤ (d : Int)) = false ∧ decide (16 * u + d < 16 * u) = false := by
  refine ⟨by simp; omega, by rw [IntKind.wrap_u64]; omega, by rw [IntKind.wrap_u64]; omega, by rw [IntKind.wrap_u64]; omega, by simp; omega, by unfold maxU; simp; omega, by simp; omega, by simp⟩

set_option maxRecDepth 100000 in
set_option maxHeartbeats 4000000 in
theorem pin_any (s : ByteArray) (w : World) (hs : s.size = 16) :
    Calls Tryd.prog 41 #[.string s, .int .i64 16, .int .i64 64] w fun e w' => Puts s e ∧ Below w.heap.size w w' := by
  have hcv := fun wx => Lib.run_convert_string_bytes (P := Tryd.prog) wx 9 61 5 s Tryd.underlying9 Tryd.underlying61 Tryd.underlying5
  have hmax : IntKind.u64.wrap (IntKind.u64.wrap 18446744073709551616 - 1) = maxU := by decide
  have hl : s.data.toList.length = 16 := by rw [← hs]; rfl
  have hne : s.toList.isEmpty = false := by
    cases h : s.toList with
    | nil =>
      have := congrArg List.length h
      rw [ByteArray.toList_eq, hl] at this
      simp at this
    | cons => rfl
  have HS := Lib.hid hs
  have hs1 : s.size ≤ 16 := by omega
  have hs2 : 16 ≤ s.size := by omega
  have HL := Lib.hid hl
  clear hl hs
  go_enter Tryd.func41, Tryd.ntmps41
  have HB := Lib.bytesWorld_below w 5 s
  have HCell := Lib.hid (fun k (h : k < s.size) => Lib.bytesWorld_cell w 5 s k h)
  go_wp2
  clear hcv
  generalize Lib.bytesWorld w 5 s = wb at *
  go_loop [12, 13, 101] (fun z n i => z = .bool false ∧ ∃ k u : Nat, k ≤ 16 ∧ u < 16 ^ k ∧ i = .int .i64 k ∧ n = .int .u64 u ∧ Hid (valP (s.data.toList.drop k) u = valP s.data.toList 0)) (fun _ _ i => 16 - (intOf i).toNat)
  case atStart => exact ⟨rfl, 0, 0, by omega, by omega, rfl, rfl, rfl⟩
  case round =>
    obtain ⟨rfl, k, u, hk, hu, rfl, rfl, hr⟩ := hrel
    by_cases hlt : k < 16
    · have hl : k < s.data.toList.length := by rw [HL.out]; exact hlt
      have hc := HCell.out k (by omega)
      have hg : s.data.toList.getD k 0 = s.data.toList[k] := by rw [List.getD_eq_getElem?_getD, List.getElem?_eq_getElem hl]; rfl
      have R := Lib.hid (hr.out.symm.trans (valP_step _ k u hl))
      rw [hg] at hc
      have hcb : s.data.toList[k].toNat < 256 := UInt8.toNat_lt _
      generalize hq : s.data.toList[k].toNat = c at *
      clear hq hg hr hl
      have hu2 : u < 1152921504606846976 := by
        have : 16 ^ k ≤ 16 ^ 15 := Nat.pow_le_pow_right (by omega) (by omega)
        rw [show (16 : Nat) ^ 15 = 1152921504606846976 from by decide] at this
        omega
      have HU := Lib.hid hu
      clear hu
      by_cases a1 : 48 ≤ c ∧ c ≤ 57
      · have q1 : decide ((48:Int) ≤ (c : Int)) = true := by simp; omega
        have q2 : decide ((c : Int) ≤ 57) = true := by simp; omega
        have q3 : ((c : Int) == 95) = false := by simp; omega
        have q4 : IntKind.u8.wrap ((c : Int) - 48) = ((c - 48 : Nat) : Int) := by rw [IntKind.wrap_u8']; omega
        have hd : Hid (digP c = some (c - 48)) := by unfold Hid digP; rw [if_pos a1]
        have hd16 : c - 48 < 16 := by omega
        have HP : Hid (16 * u + (c - 48) < 16 ^ (k + 1)) := by have := HU.out; unfold Hid; rw [Nat.pow_succ]; omega
        generalize hdd : c - 48 = d at *
        obtain ⟨s1, s2, s3, s4, s5, s6, s7, s8⟩ := round_sums u d hu2 hd16
        have hr2 : Hid (valP (s.data.toList.drop (k + 1)) (16 * u + d) = valP s.data.toList 0) := by have := R.out; rw [hd.out] at this; exact this.symm
        clear hmax HB HU hd R HCell HL HS hne hdd a1 hcb hu2 hd16
        generalize 16 * u + d = n1 at *
        generalize 16 * u = u6 at *
        go_wp2
        go_round
        case rel => exact ⟨rfl, k + 1, n1, by omega, HP.out, by go_num, rfl, hr2⟩
        case measure => simp [intOf]; omega
      · by_cases b1 : 97 ≤ lowN c ∧ lowN c ≤ 102
        · obtain ⟨f1, f2⟩ := low_b c hcb b1.1 b1.2
          have q1 : decide ((48:Int) ≤ (c : Int)) = true := by simp; omega
          have q2 : decide ((c : Int) ≤ 57) = false := by simp; omega
          have q3 : ((c : Int) == 95) = false := by simp; omega
          have q4 : IntKind.u8.wrap ((lowN c : Int) - 97) = ((lowN c - 97 : Nat) : Int) := by rw [IntKind.wrap_u8']; omega
          have q5 : IntKind.u8.wrap (((lowN c - 97 : Nat) : Int) + 10) = ((lowN c - 87 : Nat) : Int) := by rw [IntKind.wrap_u8']; omega
          have q6 : decide ((97:Int) ≤ (lowN c : Int)) = true := by simp; omega
          have q7 : decide ((lowN c : Int) ≤ 122) = true := by simp; omega
          have hd : Hid (digP c = some (lowN c - 87)) := by unfold Hid digP; rw [if_neg a1, if_pos b1]
          have hd16 : lowN c - 87 < 16 := by omega
          have HP : Hid (16 * u + (lowN c - 87) < 16 ^ (k + 1)) := by have := HU.out; unfold Hid; rw [Nat.pow_succ]; omega
          have HLo := Lib.hid (fun wx => lower_any c wx hcb)
          generalize hdd : lowN c - 87 = d at *
          generalize hd7 : lowN c - 97 = d7 at *
          generalize hdl : lowN c = lo at *
          obtain ⟨s1, s2, s3, s4, s5, s6, s7, s8⟩ := round_sums u d hu2 hd16
          have hr2 : Hid (valP (s.data.toList.drop (k + 1)) (16 * u + d) = valP s.data.toList 0) := by have := R.out; rw [hd.out] at this; exact this.symm
          clear hmax HB HU hd R HCell HL HS hne hdd hd7 hdl a1 b1 hcb hu2 hd16 f1 f2
          generalize 16 * u + d = n1 at *
          generalize 16 * u = u6 at *
          go_wp2_with (go_at_call 51; refine (HLo.out _).mono ?_; rintro e w' ⟨rfl, rfl⟩)
          go_round
          case rel => exact ⟨rfl, k + 1, n1, by omega, HP.out, by go_num, rfl, hr2⟩
          case measure => simp [intOf]; omega
        · have hd : Hid (digP c = none) := by unfold Hid digP; rw [if_neg a1, if_neg b1]
          have HN : Hid (valP s.data.toList 0 = none) := by have := R.out; rw [hd.out] at this; exact this
          have HE : Hid (Puts s (.returned (.tuple #[.int .u64 0, .iface 69 (.int .i64 2)]))) := by unfold Hid Puts; rw [HN.out]
          have HLo := Lib.hid (fun wx => lower_any c wx hcb)
          have hbnd : Hid (lowN c < 256) := low_lt c hcb
          by_cases c1 : 97 ≤ lowN c ∧ lowN c ≤ 122
          · obtain ⟨f1, f2⟩ := low_c c hcb c1.1 c1.2
            have q1 : decide ((48:Int) ≤ (c : Int)) = true := by simp; omega
            have q2 : decide ((c : Int) ≤ 57) = false := by simp; omega
            have q3 : ((c : Int) == 95) = false := by simp; omega
            have q4 : IntKind.u8.wrap ((lowN c : Int) - 97) = ((lowN c - 97 : Nat) : Int) := by rw [IntKind.wrap_u8']; omega
            have q5 : IntKind.u8.wrap (((lowN c - 97 : Nat) : Int) + 10) = ((lowN c - 87 : Nat) : Int) := by rw [IntKind.wrap_u8']; omega
            have q6 : decide ((97:Int) ≤ (lowN c : Int)) = true := by simp; omega
            have q7 : decide ((lowN c : Int) ≤ 122) = true := by simp; omega
            have q8 : decide ((16:Int) ≤ ((lowN c - 87 : Nat) : Int)) = true := by simp; omega
            generalize hdd : lowN c - 87 = d at *
            generalize hd7 : lowN c - 97 = d7 at *
            generalize hdl : lowN c = lo at *
            clear hmax HU hd R HCell HL HS hne hdd hd7 hdl a1 b1 c1 hcb hu2 f1 f2 hbnd HN
            have HB := Lib.hid HB
            go_wp2_with (go_at_call 51; refine (HLo.out _).mono ?_; rintro e w' ⟨rfl, rfl⟩)
            go_ret2
            exact ⟨HE.out, HB.out⟩
          · have qx : decide ((48:Int) ≤ (c : Int)) = false ∨ (decide ((48:Int) ≤ (c : Int)) = true ∧ decide ((c : Int) ≤ 57) = false) := by
              by_cases z : 48 ≤ c
              · right; exact ⟨by simp; omega, by simp; omega⟩
              · left; simp; omega
            have qy : decide ((97:Int) ≤ (lowN c : Int)) = false ∨ (decide ((97:Int) ≤ (lowN c : Int)) = true ∧ decide ((lowN c : Int) ≤ 122) = false) := by
              by_cases z : 97 ≤ lowN c
              · right; exact ⟨by simp; omega, by simp; omega⟩
              · left; simp; omega
            generalize hdl : lowN c = lo at *
            have HB := Lib.hid HB
            clear hmax HU hd R HCell HL HS hne hdl a1 b1 c1 hcb hu2 hbnd HN
            cases q3 : ((c : Int) == 95) <;> rcases qx with q1 | ⟨q1, q2⟩ <;> rcases qy with q6 | ⟨q6, q7⟩
            all_goals
              go_wp2_with (go_at_call 51; refine (HLo.out _).mono ?_; rintro e w' ⟨rfl, rfl⟩)
              go_ret2
              exact ⟨HE.out, HB.out⟩
    · obtain rfl : k = 16 := by omega
      have HN : Hid (some u = valP s.data.toList 0) := by
        have := hr.out
        rw [List.drop_of_length_le (by rw [HL.out]; omega)] at this
        exact this
      have HE : Hid (Puts s (.returned (.tuple #[.int .u64 u, .nilIface]))) := by unfold Hid Puts; rw [← HN.out]
      have HB := Lib.hid HB
      clear hmax hr HCell HL HS hne HN hu
      go_wp2
      go_ret2
      exact ⟨HE.out, HB.out⟩

end Go.Proofs.YtfpfgimgnmhnaaaDoor
