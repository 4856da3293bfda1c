/-
  What numbers are told as in base sixteen.
-/
import Derived.Test.YtfpfgimgnmhnaaaDoorScal
import Derived.Lib.Hide
namespace Go.Proofs.YtfpfgimgnmhnaaaDoor
open Go.RowKit

set_option maxHeartbeats 400000 in
theorem pow2_16 (w : World) : Calls Tryd.prog 72 #[.int .i64 16] w fun e w' => e = .returned (.bool true) ∧ w = w' := by
  go_enter Tryd.func72, Tryd.ntmps72
  go_wp2
  go_ret
  exact ⟨rfl, rfl⟩

def Tab (w : World) : Prop := w.cell? ⟨6, 15, none⟩ = some (.int .u8 4)

open Lib in
theorem Tab.alloc {w : World} (h : Tab w) (o : Obj) : Tab (w.alloc o) := Lib.cell?_alloc_some o h
theorem Tab.below {w w' : World} (h : Tab w) (hb : Below w.heap.size w w') : Tab w' := cell_later hb h

set_option maxHeartbeats 400000 in
theorem tz64_16 (w : World) (h : Tab w) : Calls Tryd.prog 78 #[.int .u64 16] w fun e w' => e = .returned (.int .i64 4) ∧ w = w' := by
  unfold Tab at h
  have hx : IntKind.u64.wrap (bits BinOp.and IntKind.u64 16 (IntKind.u64.wrap (-16)) * 285870213051353865) / 288230376151711744 = 15 := by decide
  go_enter Tryd.func78, Tryd.ntmps78
  go_wp2
  go_ret
  exact ⟨rfl, rfl⟩

set_option maxHeartbeats 400000 in
theorem tz_16 (w : World) (h : Tab w) : Calls Tryd.prog 73 #[.int .u64 16] w fun e w' => e = .returned (.int .i64 4) ∧ w = w' := by
  go_enter Tryd.func73, Tryd.ntmps73
  go_wp2_with (first | (go_at_call 78; refine (tz64_16 _ h).mono ?_; rintro e w' ⟨rfl, rfl⟩))
  go_ret
  exact ⟨rfl, rfl⟩

def hexD (n : Nat) : Int := if n < 10 then 48 + n else 87 + n

theorem mask15 (v : Nat) (h : v < 18446744073709551616) : bits .and .u64 (v : Int) 15 = ((v % 16 : Nat) : Int) := by
  have e := u64_and_nat v 15 h (by omega)
  rw [show ((15 : Nat) : Int) = 15 from rfl] at e
  rw [e, show (15 : Nat) = 2 ^ 4 - 1 from rfl, Nat.and_two_pow_sub_one_eq_mod]

theorem digit_at (n : Nat) (h : n < 16) (hn : n < (⟨#[48, 49, 50, 51, 52, 53, 54, 55, 56, 57, 97, 98, 99, 100, 101, 102, 103, 104, 105, 106, 107, 108, 109, 110, 111, 112, 113, 114, 115, 116, 117, 118, 119, 120, 121, 122]⟩ : ByteArray).size) :
    (((⟨#[48, 49, 50, 51, 52, 53, 54, 55, 56, 57, 97, 98, 99, 100, 101, 102, 103, 104, 105, 106, 107, 108, 109, 110, 111, 112, 113, 114, 115, 116, 117, 118, 119, 120, 121, 122]⟩ : ByteArray)[n]).toNat : Int) = hexD n := by
  rcases n with _|_|_|_|_|_|_|_|_|_|_|_|_|_|_|_|n <;> first | rfl | omega

theorem pow16_15 (u : Nat) (h : u < 18446744073709551616) : u / 16 ^ 15 < 16 := by
  rw [show (16 : Nat) ^ 15 = 1152921504606846976 from by decide]; omega

theorem pow16_lt (u k : Nat) (h : u < 18446744073709551616) : u / 16 ^ k < 18446744073709551616 :=
  Nat.lt_of_le_of_lt (Nat.div_le_self _ _) h

theorem pow16_succ (u k : Nat) : u / 16 ^ (k + 1) = u / 16 ^ k / 16 := by rw [Nat.pow_succ, Nat.div_div_eq_div_mul]

/-- What the array holds behind k digits. -/
def Dig (u k : Nat) (C : Array Value) : Prop := C.size = 65 ∧ ∀ t, t < k → C[64 - t]? = some (.int .u8 (hexD (u / 16 ^ t % 16)))

theorem dig_zero (u : Nat) (C : Array Value) (h : C.size = 65) : Dig u 0 C := ⟨h, fun t ht => by omega⟩

theorem dig_succ (u k : Nat) (C : Array Value) (h : Dig u k C) (hk : k ≤ 15) (x : Int) (hx : x = hexD (u / 16 ^ k % 16)) : Dig u (k + 1) (C.setIfInBounds (65 - k - 1) (.int .u8 x)) := by
  obtain ⟨h1, h2⟩ := h
  refine ⟨by simp [h1], fun t ht => ?_⟩
  by_cases e : t = k
  · subst e
    rw [show 65 - t - 1 = 64 - t by omega, Array.getElem?_setIfInBounds_self_of_lt (by omega), hx]
  · rw [Array.getElem?_setIfInBounds_ne (by omega)]
    exact h2 t (by omega)

def hexU (n : Nat) : UInt8 := UInt8.ofNat (if n < 10 then 48 + n else 87 + n)
theorem hexU_nat (n : Nat) (h : n < 16) : ((hexU n).toNat : Int) = hexD n := by
  rcases n with _|_|_|_|_|_|_|_|_|_|_|_|_|_|_|_|n <;> first | rfl | omega
def hexK (u k : Nat) : List UInt8 := (List.range (k + 1)).map fun j => hexU (u / 16 ^ (k - j) % 16)

theorem slice65 (a : Nat) (i : Int) (k : Nat) (hi : i = ((65 - k : Nat) : Int) - 1) (hk : k ≤ 15) (wx : World) :
    (Instr.sliceAt 94 (.pointer (some ⟨a, 0, none⟩)) (some (.int .i64 i)) none none).run Tryd.prog wx = .ok (.slice (some ⟨a, 64 - k, none⟩) (k + 1) (k + 1)) wx := by
  have hal : Tryd.prog.arrayLen 94 = 65 := by kernel_rfl
  have hs : (sizeOf (Tryd.prog.elem 94)).run Tryd.prog wx = .ok 1 wx := by kernel_rfl
  have hi' : i = ((64 - k : Nat) : Int) := by omega
  rw [run_sliceAt_array_l wx 94 ⟨a, 0, none⟩ (by kernel_rfl) .i64 i (by omega) (by rw [hal]; omega), hs]
  simp only [Result.andThen, slicedAt, hal, hi', Int.toNat_natCast]
  rw [if_neg (by omega)]
  simp only [Addr.add, Nat.mul_one, Nat.zero_add]
  rw [show 65 - (64 - k) = k + 1 by omega, if_neg (by omega)]

theorem tail65 (u k : Nat) (w : World) (C : Array Value) (hk : k ≤ 15) (h : Dig u (k + 1) C) :
    (convert 61 9 (.slice (some ⟨w.heap.size, 64 - k, none⟩) (k + 1) (k + 1))).run Tryd.prog (w.alloc (.cells C 94 (0, 0))) = .ok (.string ⟨(hexK u k).toArray⟩) (w.alloc (.cells C 94 (0, 0))) := by
  have hl : (hexK u k).length = k + 1 := by simp [hexK]
  have := run_convert_bytes_back (P := Tryd.prog) (w.alloc (.cells C 94 (0, 0))) 61 9 5 ⟨w.heap.size, 64 - k, none⟩ (k + 1) (hexK u k) (by kernel_rfl) (by kernel_rfl) (by kernel_rfl) (by
    intro j hj
    have hp : (⟨w.heap.size, 64 - k, none⟩ : Addr).add j = ⟨w.heap.size, 64 - k + j, none⟩ := by unfold Addr.add; split <;> simp_all
    rw [hp]
    rw [hl] at hj
    have := h.2 (k - j) (by omega)
    rw [show 64 - (k - j) = 64 - k + j by omega] at this
    rw [World.cell?_alloc_at _ _ _ _ rfl, this, ← hexU_nat _ (by omega)]
    simp [hexK])
  rw [hl] at this
  exact this

set_option maxRecDepth 100000 in
set_option maxHeartbeats 1000000 in
theorem fmtBits_16 (u : Nat) (w : World) (h : Tab w) (hu : u < 18446744073709551616) :
   Calls Tryd.prog 60 #[.slice none 0 0, .int .u64 u, .int .i64 16, .bool false, .bool false] w fun e w' => (∃ k, k ≤ 15 ∧ u / 16 ^ k < 16 ∧ e = .returned (.tuple #[.slice none 0 0, .string ⟨(hexK u k).toArray⟩])) ∧ Below w.heap.size w w' := by
  have ht : ∀ o, Tab (w.alloc o) := fun o => h.alloc o
  go_enter Tryd.func60, Tryd.ntmps60
  go_wp2_with (first | (go_at_call 72; refine (pow2_16 _).mono ?_; rintro e w' ⟨rfl, rfl⟩) | (go_at_call 73; refine (tz_16 _ (ht _)).mono ?_; rintro e w' ⟨rfl, rfl⟩))
  go_loopw [1, 13] (fun a i wr => ∃ k : Nat, k ≤ 15 ∧ a = .int .u64 ((u / 16 ^ k : Nat) : Int) ∧ i = .int .i64 ((65 - k : Nat) : Int) ∧ ∃ C : Array Value, Dig u k C ∧ wr = w.alloc (.cells C 94 (0, 0)))
    (fun a _ _ => (intOf a).toNat)
  case atStart =>
    refine ⟨0, by omega, ?_, rfl, Tryd.zeroCells94, dig_zero _ _ (by kernel_rfl), rfl⟩
    rw [Nat.pow_zero, Nat.div_one]
  case round =>
    obtain ⟨k, hk, rfl, rfl, C, hC, rfl⟩ := hrel
    have H := Lib.hid (dig_succ u k C hC hk)
    have P1 := Lib.hid (pow16_succ u k)
    have hC1 := hC.1
    have hvb := pow16_lt u k hu
    have h15 := pow16_15 u hu
    have hk' : 16 ≤ u / 16 ^ k → k < 15 := by
      intro h1
      by_cases e : k = 15
      · subst e; omega
      · omega
    clear hC
    have PV := Lib.hid (rfl : u / 16 ^ k = u / 16 ^ k)
    generalize hv : u / 16 ^ k = v at *
    have hm := mask15 v hvb
    have hold : C[65 - k - 1]? = some C[65 - k - 1] := Array.getElem?_eq_getElem (by omega)
    by_cases hlt : 16 ≤ v
    · have hk' := hk' hlt
      clear hv h15
      have D := digit_at (v % 16) (by omega)
      go_wp2
      go_roundw
      case rel => exact ⟨k + 1, by omega, by rw [P1.out]; rfl, by congr 1; omega, _, H.out _ rfl, rfl⟩
      case measure => simp [intOf]; omega
    · have D := digit_at v (by omega)
      have DG := Lib.hid (H.out (hexD v) (by rw [Nat.mod_eq_of_lt (by omega)]))
      have PW := Lib.hid hv
      clear hk' hv h15 H
      have S := slice65 w.heap.size (((65 - k : Nat) : Int) - 1) k rfl hk
      have T := tail65 u k w _ hk DG.out
      go_wp2
      go_ret2
      exact ⟨⟨k, hk, by rw [PW.out]; omega, rfl⟩, (Below.refl _ _).alloc (Nat.le_refl _) _⟩


set_option maxHeartbeats 1000000 in
theorem fmtIn_16 (u : Nat) (w : World) (h : Tab w) (hu : u < 18446744073709551616) :
   Calls Tryd.prog 44 #[.int .u64 u, .int .i64 16] w fun e w' => (∃ k, k ≤ 15 ∧ u / 16 ^ k < 16 ∧ e = .returned (.string ⟨(hexK u k).toArray⟩)) ∧ Below w.heap.size w w' := by
  go_enter Tryd.func44, Tryd.ntmps44
  go_wp2_with (go_at_call 60; refine (fmtBits_16 u _ h hu).mono ?_; rintro e w' ⟨⟨k, hk, hd, rfl⟩, hb⟩)
  go_ret
  exact ⟨⟨k, hk, hd, rfl⟩, hb⟩

set_option maxHeartbeats 1000000 in
theorem fmt_16 (u : Nat) (w : World) (h : Tab w) (hu : u < 18446744073709551616) :
   Calls Tryd.prog 38 #[.int .u64 u, .int .i64 16] w fun e w' => (∃ k, k ≤ 15 ∧ u / 16 ^ k < 16 ∧ e = .returned (.string ⟨(hexK u k).toArray⟩)) ∧ Below w.heap.size w w' := by
  go_enter Tryd.func38, Tryd.ntmps38
  go_wp2_with (go_at_call 44; refine (fmtIn_16 u _ h hu).mono ?_; rintro e w' ⟨⟨k, hk, hd, rfl⟩, hb⟩)
  go_ret
  exact ⟨⟨k, hk, hd, rfl⟩, hb⟩

theorem and32 (v : Nat) (h : v < 4294967296) : bits .and .u64 (v : Int) 4294967295 = (v : Int) := by
  have e := u64_and_nat v 4294967295 (by omega) (by omega)
  rw [show ((4294967295 : Nat) : Int) = 4294967295 from rfl] at e
  rw [e, show (4294967295 : Nat) = 2 ^ 32 - 1 from rfl, Nat.and_two_pow_sub_one_eq_mod, Nat.mod_eq_of_lt (by omega)]

set_option maxHeartbeats 1000000 in
theorem mul64_1 (n : Nat) (w : World) (hn : n ≤ 15) :
   Calls Tryd.prog 62 #[.int .u64 1, .int .u64 n] w fun e w' => e = .returned (.tuple #[.int .u64 0, .int .u64 n]) ∧ w = w' := by
  have h1 : bits .and .u64 (1 : Int) 4294967295 = 1 := by decide
  have h4 : bits .and .u64 (0 : Int) 4294967295 = 0 := by decide
  have h2 := and32 n (by omega)
  have h3 : (n : Int) / 4294967296 = 0 := by omega
  go_enter Tryd.func62, Tryd.ntmps62
  go_wp2
  go_ret2
  exact ⟨rfl, rfl⟩

set_option maxHeartbeats 1000000 in
theorem mul_1 (n : Nat) (w : World) (hn : n ≤ 15) :
   Calls Tryd.prog 45 #[.int .u64 1, .int .u64 n] w fun e w' => e = .returned (.tuple #[.int .u64 0, .int .u64 n]) ∧ w = w' := by
  go_enter Tryd.func45, Tryd.ntmps45
  go_wp2_with (go_at_call 62; refine (mul64_1 n _ hn).mono ?_; rintro e w' ⟨rfl, rfl⟩)
  go_ret2
  exact ⟨rfl, rfl⟩

def pre0 (s : ByteArray) : Bool := (s.extract 0 1).toList == [48]

set_option maxHeartbeats 1000000 in
theorem hpIn_any (s : ByteArray) (w : World) (h1 : 1 ≤ s.size) (h2 : s.size ≤ 1000) :
   Calls Tryd.prog 63 #[.string s, .string ⟨#[48]⟩] w fun e w' => e = .returned (.bool (pre0 s)) ∧ w = w' := by
  go_enter Tryd.func63, Tryd.ntmps63
  go_wp2
  go_ret
  exact ⟨rfl, rfl⟩

set_option maxHeartbeats 1000000 in
theorem hp_yes (s : ByteArray) (w : World) (h1 : 1 ≤ s.size) (h2 : s.size ≤ 1000) (h : pre0 s = true) :
   Calls Tryd.prog 46 #[.string s, .string ⟨#[48]⟩] w fun e w' => e = .returned (.bool true) ∧ w = w' := by
  go_enter Tryd.func46, Tryd.ntmps46
  go_wp2_with (go_at_call 63; refine (hpIn_any s _ h1 h2).mono ?_; rintro e w' ⟨rfl, rfl⟩)
  go_ret
  exact ⟨rfl, rfl⟩
set_option maxHeartbeats 1000000 in
theorem hp_no (s : ByteArray) (w : World) (h1 : 1 ≤ s.size) (h2 : s.size ≤ 1000) (h : pre0 s = false) :
   Calls Tryd.prog 46 #[.string s, .string ⟨#[48]⟩] w fun e w' => e = .returned (.bool false) ∧ w = w' := by
  go_enter Tryd.func46, Tryd.ntmps46
  go_wp2_with (go_at_call 63; refine (hpIn_any s _ h1 h2).mono ?_; rintro e w' ⟨rfl, rfl⟩)
  go_ret
  exact ⟨rfl, rfl⟩

theorem ret_str {a b : ByteArray} (h : a = b) : Ending.returned (.string a) = .returned (.string b) := by rw [h]

set_option maxRecDepth 100000 in
set_option maxHeartbeats 2000000 in
theorem rep_0 (n : Nat) (w : World) (hn : n ≤ 15) (h2 : 2 ≤ n) :
   Calls Tryd.prog 39 #[.string ⟨#[48]⟩, .int .i64 n] w fun e w' => e = .returned (.string ⟨(List.replicate n 48).toArray⟩) ∧ w = w' := by
  have t0 : ((n : Int) == 0) = false := by simp; omega
  have t1 : ((n : Int) == 1) = false := by simp; omega
  go_enter Tryd.func39, Tryd.ntmps39
  go_wp2_with (go_at_call 45; refine (mul_1 n _ hn).mono ?_; rintro e w' ⟨rfl, rfl⟩)
  all_goals try contradiction
  refine (hp_no _ _ (by decide +kernel) (by decide +kernel) (by decide +kernel)).mono ?_
  rintro e w' ⟨rfl, rfl⟩
  go_wp2_with fail
  refine (hp_no _ _ (by decide +kernel) (by decide +kernel) (by decide +kernel)).mono ?_
  rintro e w' ⟨rfl, rfl⟩
  go_wp2_with fail
  refine (hp_yes _ _ (by decide +kernel) (by decide +kernel) (by decide +kernel)).mono ?_
  rintro e w' ⟨rfl, rfl⟩
  go_wp2_with fail
  go_ret
  refine ⟨ret_str ?_, rfl⟩
  rcases n with _|_|_|_|_|_|_|_|_|_|_|_|_|_|_|_|n <;> first | omega | kernel_rfl

set_option maxRecDepth 100000 in
set_option maxHeartbeats 2000000 in
theorem rep_any (n : Nat) (w : World) (hn : n ≤ 15) :
   Calls Tryd.prog 39 #[.string ⟨#[48]⟩, .int .i64 n] w fun e w' => e = .returned (.string ⟨(List.replicate n 48).toArray⟩) ∧ w = w' := by
  by_cases h2 : 2 ≤ n
  · exact rep_0 n w hn h2
  · obtain rfl | rfl : n = 0 ∨ n = 1 := by omega
    · go_enter Tryd.func39, Tryd.ntmps39
      go_wp2
      go_ret
      exact ⟨rfl, rfl⟩
    · go_enter Tryd.func39, Tryd.ntmps39
      go_wp2
      go_ret
      exact ⟨rfl, rfl⟩

def hex16 (b : Nat) : List UInt8 := hexK b 15
def showL (b : Nat) : List UInt8 := if nanB b then [110, 97, 110] else if infNB b then [45, 105, 110, 102] else if infPB b then [105, 110, 102] else hex16 b

theorem div_small (b k j : Nat) (hd : b / 16 ^ k < 16) (hk : k < j) : b / 16 ^ j = 0 := by
  obtain ⟨d, rfl⟩ : ∃ d, j = k + 1 + d := ⟨j - (k + 1), by omega⟩
  rw [Nat.pow_add, Nat.pow_add, ← Nat.div_div_eq_div_mul, ← Nat.div_div_eq_div_mul, Nat.pow_one, Nat.div_eq_of_lt hd, Nat.zero_div]

theorem hex_pad (b k : Nat) (hk : k ≤ 15) (hd : b / 16 ^ k < 16) : List.replicate (15 - k) 48 ++ hexK b k = hex16 b := by
  apply List.ext_getElem
  · simp [hexK, hex16]; omega
  · intro i h1 h2
    simp [hexK] at h1
    by_cases hi : i < 15 - k
    · rw [List.getElem_append_left (by simpa using hi)]
      simp only [List.getElem_replicate, hex16, hexK, List.getElem_map, List.getElem_range]
      rw [div_small b k (15 - i) hd (by omega)]; rfl
    · rw [List.getElem_append_right (by simp; omega)]
      simp only [List.length_replicate, hex16, hexK, List.getElem_map, List.getElem_range]
      rw [show k - (i - (15 - k)) = 15 - i by omega]

theorem str_join (b k : Nat) (hk : k ≤ 15) (hd : b / 16 ^ k < 16) : (⟨(List.replicate (15 - k) 48).toArray⟩ : ByteArray) ++ ⟨(hexK b k).toArray⟩ = ⟨(hex16 b).toArray⟩ := by
  rw [← hex_pad b k hk hd]
  apply ByteArray.ext
  simp

theorem hexK_len (b k : Nat) : (⟨(hexK b k).toArray⟩ : ByteArray).size = k + 1 := by
  show (hexK b k).toArray.size = _
  simp [hexK]

theorem cls_one (b : Nat) (h1 : nanB b = false) (h2 : infNB b = true) : cls b = 1 := by simp [cls, h1, h2]
theorem cls_six (b : Nat) (h1 : nanB b = false) (h2 : infNB b = false) (h3 : infPB b = true) : cls b = 6 := by simp [cls, h1, h2, h3]
theorem cls_mid (b : Nat) (h1 : nanB b = false) (h2 : infNB b = false) (h3 : infPB b = false) : (cls b == 0) = false ∧ (cls b == 1) = false ∧ (cls b == 6) = false := by
  unfold cls
  rw [h1, h2, h3]
  simp only [Bool.false_eq_true, if_false]
  repeat' split
  all_goals decide

set_option maxHeartbeats 1000000 in
theorem show_any (b : Nat) (w : World) (h : Tab w) (hb : b < 18446744073709551616) :
    Calls Tryd.prog 21 #[.float .f64 b] w fun e w' => e = .returned (.string ⟨(showL b).toArray⟩) ∧ Below w.heap.size w w' := by
  have hn := f64bits_run
  cases h1 : nanB b
  · cases h2 : infNB b
    · cases h3 : infPB b
      · obtain ⟨c1, c2, c3⟩ := cls_mid b h1 h2 h3
        have E : Hid (showL b = hex16 b) := by unfold Hid showL; simp [h1, h2, h3]
        clear h1 h2 h3
        go_enter Tryd.func21, Tryd.ntmps21
        go_wp2_with (go_at_call 16; refine (class_any b _ hb).mono ?_; rintro e w' ⟨rfl, rfl⟩)
        refine (fmt_16 b _ h hb).mono ?_
        rintro e w' ⟨⟨k, hk, hd, rfl⟩, hbel⟩
        have hl := hexK_len b k
        have hk2 : (16 : Int) - ((k : Int) + 1) = ((15 - k : Nat) : Int) := by omega
        have J := Lib.hid (str_join b k hk hd)
        go_wp2_with fail
        refine (rep_any (15 - k) _ (by omega)).mono ?_
        rintro e w'' ⟨rfl, rfl⟩
        go_wp2
        go_ret
        exact ⟨ret_str (by rw [E.out]; exact J.out), hbel⟩
      · have c := cls_six b h1 h2 h3
        have E : Hid (showL b = [105, 110, 102]) := by unfold Hid showL; simp [h1, h2, h3]
        clear h1 h2 h3
        go_enter Tryd.func21, Tryd.ntmps21
        go_wp2_with (go_at_call 16; refine (class_any b _ hb).mono ?_; rintro e w' ⟨rfl, rfl⟩)
        go_ret
        exact ⟨ret_str (by rw [E.out]), Below.refl _ _⟩
    · have c := cls_one b h1 h2
      have E : Hid (showL b = [45, 105, 110, 102]) := by unfold Hid showL; simp [h1, h2]
      clear h1 h2
      go_enter Tryd.func21, Tryd.ntmps21
      go_wp2_with (go_at_call 16; refine (class_any b _ hb).mono ?_; rintro e w' ⟨rfl, rfl⟩)
      go_ret
      exact ⟨ret_str (by rw [E.out]), Below.refl _ _⟩
  · have c : cls b = 0 := by simp [cls, h1]
    have E : Hid (showL b = [110, 97, 110]) := by unfold Hid showL; simp [h1]
    clear h1
    go_enter Tryd.func21, Tryd.ntmps21
    go_wp2_with (go_at_call 16; refine (class_any b _ hb).mono ?_; rintro e w' ⟨rfl, rfl⟩)
    go_ret
    exact ⟨ret_str (by rw [E.out]), Below.refl _ _⟩

end Go.Proofs.YtfpfgimgnmhnaaaDoor
