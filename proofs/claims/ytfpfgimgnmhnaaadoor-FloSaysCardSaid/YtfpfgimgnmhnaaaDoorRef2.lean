/-
  The reference's texts.
-/
import Derived.Test.YtfpfgimgnmhnaaaDoorRefs
namespace Go.Proofs.YtfpfgimgnmhnaaaDoor
open Go.RowKit

def strK (b j : Nat) : ByteArray := ⟨((hex16 b).take j).toArray⟩

theorem nib_at (b j : Nat) (h : j < 16) : b / 2 ^ (60 - 4 * j) = b / 16 ^ (15 - j) := by
  rw [show (16 : Nat) = 2 ^ 4 from rfl, ← Nat.pow_mul, show 4 * (15 - j) = 60 - 4 * j by omega]

theorem nib_and (b j : Nat) (hb : b < 18446744073709551616) : bits .and .u64 ((b : Int) / 2 ^ (60 - 4 * j)) 15 = ((b / 2 ^ (60 - 4 * j) % 16 : Nat) : Int) := by
  have e : ((b : Int) / 2 ^ (60 - 4 * j)) = ((b / 2 ^ (60 - 4 * j) : Nat) : Int) := by rw [Int.natCast_ediv, Int.natCast_pow]; rfl
  rw [e]
  exact mask15 _ (Nat.lt_of_le_of_lt (Nat.div_le_self _ _) hb)

def digS : ByteArray := ⟨#[48, 49, 50, 51, 52, 53, 54, 55, 56, 57, 97, 98, 99, 100, 101, 102]⟩
theorem dig_one (q : Nat) (h : q < 16) : digS.extract q (q + 1) = ⟨#[hexU q]⟩ := by
  rcases q with _|_|_|_|_|_|_|_|_|_|_|_|_|_|_|_|q <;> first | omega | kernel_rfl

theorem strK_succ (b j : Nat) (h : j < 16) : strK b (j + 1) = strK b j ++ digS.extract (b / 2 ^ (60 - 4 * j) % 16) (b / 2 ^ (60 - 4 * j) % 16 + 1) := by
  rw [dig_one _ (Nat.mod_lt _ (by omega)), nib_at b j h]
  unfold strK
  have hl : (hex16 b).length = 16 := by simp [hex16, hexK]
  rw [List.take_succ_eq_append_getElem (by omega)]
  have : (hex16 b)[j]'(by omega) = hexU (b / 16 ^ (15 - j) % 16) := by simp only [hex16, hexK, List.getElem_map, List.getElem_range]
  rw [this]
  apply ByteArray.ext
  simp

set_option maxHeartbeats 1000000 in
theorem rshow_any (b : Nat) (w : World) (hb : b < 18446744073709551616) :
    Calls Tryd.prog 30 #[.float .f64 b] w fun e w' => e = .returned (.string ⟨(showL b).toArray⟩) ∧ w = w' := by
  have hn := f64bits_run
  cases h1 : nanB b
  · cases h2 : infNB b
    · cases h3 : infPB b
      · obtain ⟨c1, c2, c3⟩ := cls_mid b h1 h2 h3
        have E : Hid (showL b = hex16 b) := by unfold Hid showL; simp [h1, h2, h3]
        clear h1 h2 h3
        go_enter Tryd.func30, Tryd.ntmps30
        go_wp2_with (go_at_call 26; refine (rclass_any b _ hb).mono ?_; rintro e w' ⟨rfl, rfl⟩)
        go_loop [5, 6] (fun s i => ∃ j : Nat, j ≤ 16 ∧ i = .int .i64 j ∧ s = .string (strK b j)) (fun _ i => 16 - (intOf i).toNat)
        case atStart => exact ⟨0, by omega, rfl, rfl⟩
        case round =>
          obtain ⟨j, hj, rfl, rfl⟩ := hrel
          by_cases hlt : j < 16
          · have M := nib_and b j hb
            have SS := Lib.hid (strK_succ b j hlt)
            have hq : b / 2 ^ (60 - 4 * j) % 16 < 16 := Nat.mod_lt _ (by omega)
            unfold digS at SS
            generalize b / 2 ^ (60 - 4 * j) % 16 = q at *
            have hs : ¬ 9223372036854775807 < (strK b j).size + (min (q + 1) 16 - q) := by
              have : (strK b j).size ≤ 16 := by show ((hex16 b).take j).toArray.size ≤ 16; simp; omega
              omega
            go_wp2
            go_round
            case rel => exact ⟨j + 1, by omega, by go_num, by rw [SS.out]⟩
            case measure => simp [intOf]; omega
          · obtain rfl : j = 16 := by omega
            have HE : Hid (strK b 16 = ⟨(showL b).toArray⟩) := by
              unfold Hid strK
              rw [E.out, List.take_of_length_le (by simp [hex16, hexK])]
            go_wp2
            go_ret
            exact ⟨ret_str HE.out, rfl⟩
      · have c := cls_six b h1 h2 h3
        have E : Hid (showL b = [105, 110, 102]) := by unfold Hid showL; simp [h1, h2, h3]
        clear h1 h2 h3
        go_enter Tryd.func30, Tryd.ntmps30
        go_wp2_with (go_at_call 26; refine (rclass_any b _ hb).mono ?_; rintro e w' ⟨rfl, rfl⟩)
        go_ret
        exact ⟨ret_str (by rw [E.out]), rfl⟩
    · have c := cls_one b h1 h2
      have E : Hid (showL b = [45, 105, 110, 102]) := by unfold Hid showL; simp [h1, h2]
      clear h1 h2
      go_enter Tryd.func30, Tryd.ntmps30
      go_wp2_with (go_at_call 26; refine (rclass_any b _ hb).mono ?_; rintro e w' ⟨rfl, rfl⟩)
      go_ret
      exact ⟨ret_str (by rw [E.out]), rfl⟩
  · have c : cls b = 0 := by simp [cls, h1]
    have E : Hid (showL b = [110, 97, 110]) := by unfold Hid showL; simp [h1]
    clear h1
    go_enter Tryd.func30, Tryd.ntmps30
    go_wp2_with (go_at_call 26; refine (rclass_any b _ hb).mono ?_; rintro e w' ⟨rfl, rfl⟩)
    go_ret
    exact ⟨ret_str (by rw [E.out]), rfl⟩

/-- The reference's digits: no great letters. -/
def digR (c : Nat) : Option Nat :=
  if 48 ≤ c ∧ c ≤ 57 then some (c - 48) else if 97 ≤ c ∧ c ≤ 102 then some (c - 87) else none
def valR : List UInt8 → Nat → Option Nat
  | [], n => some n
  | c :: r, n => match digR c.toNat with
    | none => none
    | some d => valR r (16 * n + d)
theorem valR_step (l : List UInt8) (k n : Nat) (h : k < l.length) : valR (l.drop k) n = match digR l[k].toNat with | none => none | some d => valR (l.drop (k + 1)) (16 * n + d) := by
  rw [List.drop_eq_getElem_cons h]; rfl

theorem dig_same : ∀ c : Fin 256, (∀ d, digR c.val = some d → digP c.val = some d) ∧ (digR c.val = none → ∀ q : Fin 16, (hexU q.val).toNat ≠ c.val) := by decide +kernel

theorem valR_P : ∀ (l : List UInt8) (n u : Nat), valR l n = some u → valP l n = some u
  | [], _, _, h => h
  | c :: r, n, u, h => by
    unfold valR at h
    cases hd : digR c.toNat with
    | none => rw [hd] at h; cases h
    | some d =>
      rw [hd] at h
      unfold valP
      rw [(dig_same ⟨c.toNat, UInt8.toNat_lt _⟩).1 d hd]
      exact valR_P r _ _ h
theorem valR_none : ∀ (l : List UInt8) (n : Nat), valR l n = none → ∃ c ∈ l, ∀ q, q < 16 → hexU q ≠ c
  | [], _, h => by cases h
  | c :: r, n, h => by
    unfold valR at h
    cases hd : digR c.toNat with
    | none =>
      refine ⟨c, by simp, fun q hq e => ?_⟩
      exact (dig_same ⟨c.toNat, UInt8.toNat_lt _⟩).2 hd ⟨q, hq⟩ (by rw [e])
    | some d =>
      rw [hd] at h
      obtain ⟨x, hx, hn⟩ := valR_none r _ h
      exact ⟨x, by simp [hx], hn⟩

/-- What the reference reads is what the program reads. -/
theorem par_ref (l : List UInt8) : parO l = if l = nanS then some nanW else if l = infS then some 9218868437227405312 else if l = ninS then some 18442240474082181120 else
  if l.length = 16 then match valR l 0 with
    | none => none
    | some u => if showL u = l then some u else none
  else none := by
  unfold parO
  split
  · rfl
  · split
    · rfl
    · split
      · rfl
      · split
        · rename_i n1 n2 n3 hl
          cases hv : valR l 0 with
          | some u => rw [valR_P l 0 u hv]
          | none =>
            simp only
            cases hp : valP l 0 with
            | none => rfl
            | some u =>
              simp only
              rw [if_neg]
              intro e
              obtain ⟨c, hc, hn⟩ := valR_none l 0 hv
              have hs : showL u = hex16 u := by
                rw [e]
                unfold showL at e
                split at e
                · exact absurd e.symm n1
                · split at e
                  · exact absurd e.symm n3
                  · split at e
                    · exact absurd e.symm n2
                    · exact e.symm
              rw [← e, hs] at hc
              obtain ⟨j, _, rfl⟩ := List.mem_map.1 hc
              exact hn _ (Nat.mod_lt _ (by omega)) rfl
        · rfl

end Go.Proofs.YtfpfgimgnmhnaaaDoor
