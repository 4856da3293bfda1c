/-
  How many bits, as the library counts them.
-/
import Derived.Test.YtfiamomadicbpaaDnum
namespace Go.Proofs.Ytfiamomadicbpaa

def repN (m : Nat) : Nat → Nat
  | 0 => 0
  | n + 1 => m + 256 * repN m n
def one1 (n x : Nat) : Nat := ((x / 2) &&& repN 85 n) + (x &&& repN 85 n)
def two2 (n x : Nat) : Nat := ((one1 n x / 4) &&& repN 51 n) + (one1 n x &&& repN 51 n)
def fou4 (n x : Nat) : Nat := (two2 n x / 16 + two2 n x) &&& repN 15 n

def c1 (b : Nat) : Nat := ((b / 2) &&& 85) + (b &&& 85)
def c2 (b : Nat) : Nat := ((c1 b / 4) &&& 51) + (c1 b &&& 51)
def cnt8 (b : Nat) : Nat := ((List.range 8).filter fun i => b.testBit i).length

theorem and_parts (d r m M : Nat) (hd : d < 256) (hm : m < 256) : (d + 256 * r) &&& (m + 256 * M) = (d &&& m) + 256 * (r &&& M) := by
  have h1 := Nat.and_div_two_pow (a := d + 256 * r) (b := m + 256 * M) (n := 8)
  have h2 := Nat.and_mod_two_pow (a := d + 256 * r) (b := m + 256 * M) (n := 8)
  rw [show (2 : Nat) ^ 8 = 256 by decide] at h1 h2
  rw [show (d + 256 * r) / 256 = r by omega, show (m + 256 * M) / 256 = M by omega] at h1
  rw [show (d + 256 * r) % 256 = d by omega, show (m + 256 * M) % 256 = m by omega] at h2
  generalize (d + 256 * r) &&& (m + 256 * M) = X at *
  generalize d &&& m = Y at *
  generalize r &&& M = Z at *
  omega

theorem all_two {p : Nat → Nat → Bool} {m n : Nat} (h : ((List.range m).all fun a => (List.range n).all fun b => p a b) = true) {a b : Nat} (ha : a < m) (hb : b < n) : p a b = true :=
  List.all_eq_true.1 (List.all_eq_true.1 h a (by simpa using ha)) b (by simpa using hb)

theorem one_byte {b e : Nat} (hb : b < 256) (he : e < 2) : (b / 2 + 128 * e) &&& 85 = (b / 2) &&& 85 ∧ b / 2 + 128 * e < 256 := by
  have key : ((List.range 256).all fun b => (List.range 2).all fun e => decide ((b / 2 + 128 * e) &&& 85 = (b / 2) &&& 85 ∧ b / 2 + 128 * e < 256)) = true := by decide +kernel
  exact of_decide_eq_true (all_two key hb he)
theorem two_byte {b e : Nat} (hb : b < 256) (he : e < 4) : (b / 4 + 64 * e) &&& 51 = (b / 4) &&& 51 ∧ b / 4 + 64 * e < 256 := by
  have key : ((List.range 256).all fun b => (List.range 4).all fun e => decide ((b / 4 + 64 * e) &&& 51 = (b / 4) &&& 51 ∧ b / 4 + 64 * e < 256)) = true := by decide +kernel
  exact of_decide_eq_true (all_two key hb he)
theorem fou_byte {b e : Nat} (hb : b < 256) (he : e < 5) : (c2 b / 16 + c2 b + 16 * e) &&& 15 = cnt8 b ∧ c2 b / 16 + c2 b + 16 * e < 256 ∧ c1 b < 256 ∧ c2 b < 256 ∧ c2 b % 16 < 5 ∧ cnt8 b ≤ 8 := by
  have key : ((List.range 256).all fun b => (List.range 5).all fun e => decide ((c2 b / 16 + c2 b + 16 * e) &&& 15 = cnt8 b ∧ c2 b / 16 + c2 b + 16 * e < 256 ∧ c1 b < 256 ∧ c2 b < 256 ∧ c2 b % 16 < 5 ∧ cnt8 b ≤ 8)) = true := by decide +kernel
  exact of_decide_eq_true (all_two key hb he)

theorem one_step (n b r : Nat) (hb : b < 256) : one1 (n + 1) (b + 256 * r) = c1 b + 256 * one1 n r := by
  unfold one1 c1
  have h := one_byte hb (show r % 2 < 2 by omega)
  rw [show (b + 256 * r) / 2 = (b / 2 + 128 * (r % 2)) + 256 * (r / 2) by omega]
  show ((b / 2 + 128 * (r % 2)) + 256 * (r / 2) &&& (85 + 256 * repN 85 n)) + ((b + 256 * r) &&& (85 + 256 * repN 85 n)) = _
  rw [and_parts _ _ _ _ h.2 (by decide), and_parts _ _ _ _ hb (by decide), h.1]
  omega
theorem two_step (n b r : Nat) (hb : b < 256) : two2 (n + 1) (b + 256 * r) = c2 b + 256 * two2 n r := by
  have hf := fou_byte hb (show 0 < 5 by decide)
  unfold two2 c2
  rw [one_step n b r hb]
  generalize one1 n r = x
  have hc : c1 b < 256 := hf.2.2.1
  generalize c1 b = c at *
  have h := two_byte hc (show x % 4 < 4 by omega)
  rw [show (c + 256 * x) / 4 = (c / 4 + 64 * (x % 4)) + 256 * (x / 4) by omega]
  show ((c / 4 + 64 * (x % 4)) + 256 * (x / 4) &&& (51 + 256 * repN 51 n)) + ((c + 256 * x) &&& (51 + 256 * repN 51 n)) = _
  rw [and_parts _ _ _ _ h.2 (by decide), and_parts _ _ _ _ hc (by decide), h.1]
  omega
theorem two_low : ∀ (n r : Nat), r < 256 ^ n → two2 n r % 16 < 5
  | 0, r, _ => by simp [two2, repN]
  | n + 1, r, _ => by
    have h := two_step n (r % 256) (r / 256) (by omega)
    rw [show r % 256 + 256 * (r / 256) = r by omega] at h
    rw [h]
    have := (fou_byte (show r % 256 < 256 by omega) (show 0 < 5 by decide)).2.2.2.2.1
    omega
theorem fou_step (n b r : Nat) (hb : b < 256) (hr : r < 256 ^ n) : fou4 (n + 1) (b + 256 * r) = cnt8 b + 256 * fou4 n r := by
  unfold fou4
  rw [two_step n b r hb]
  have hl := two_low n r hr
  have hf := fou_byte hb hl
  generalize two2 n r = x at *
  obtain ⟨h1, h2, _, _, _, _⟩ := hf
  rw [show (c2 b + 256 * x) / 16 + (c2 b + 256 * x) = (c2 b / 16 + c2 b + 16 * (x % 16)) + 256 * (x / 16 + x) by omega]
  show (c2 b / 16 + c2 b + 16 * (x % 16)) + 256 * (x / 16 + x) &&& (15 + 256 * repN 15 n) = _
  rw [and_parts _ _ _ _ h2 (by decide), h1]

/-- The counts of the bytes, in bytes. -/
def pcs : Nat → Nat → Nat
  | 0, _ => 0
  | n + 1, x => cnt8 (x % 256) + 256 * pcs n (x / 256)
theorem fou_all : ∀ (n x : Nat), x < 256 ^ n → fou4 n x = pcs n x
  | 0, x, _ => by simp [fou4, pcs, repN]
  | n + 1, x, h => by
    have hq : x / 256 < 256 ^ n := Nat.div_lt_of_lt_mul (by rw [Nat.pow_succ, Nat.mul_comm] at h; exact h)
    have e := fou_step n (x % 256) (x / 256) (by omega) hq
    rw [show x % 256 + 256 * (x / 256) = x by omega] at e
    rw [e, fou_all n _ hq]; rfl
def sums : Nat → Nat → Nat
  | 0, _ => 0
  | n + 1, x => cnt8 (x % 256) + sums n (x / 256)

theorem cnt_le (x : Nat) : cnt8 (x % 256) ≤ 8 := (fou_byte (show x % 256 < 256 by omega) (show 0 < 5 by decide)).2.2.2.2.2

theorem cnt_split (s k : Nat) : (toN s (8 + k)).length = cnt8 (s % 256) + (toN (s / 256) k).length := by
  unfold toN cnt8
  rw [List.range_add, List.filter_append, List.length_append, List.filter_map, List.length_map]
  congr 2
  · apply List.filter_congr
    intro i hi
    have hi := List.mem_range.1 hi
    have h := Nat.testBit_mod_two_pow s 8 i
    rw [show (2 : Nat) ^ 8 = 256 by decide, decide_eq_true hi, Bool.true_and] at h
    exact h.symm
  · apply List.filter_congr
    intro i _
    have h := Nat.testBit_shiftRight (i := 8) (j := i) s
    rw [Nat.shiftRight_eq_div_pow, show (2 : Nat) ^ 8 = 256 by decide] at h
    exact h.symm
theorem sums_all : ∀ (n s : Nat), (toN s (8 * n)).length = sums n s
  | 0, _ => rfl
  | n + 1, s => by
    rw [show 8 * (n + 1) = 8 + 8 * n by omega, cnt_split, sums_all n]; rfl

theorem div_b {p Y X : Nat} (h : p < 256) (e : X = p + 256 * Y) : X / 256 = Y := by omega
theorem div_w {p Y X : Nat} (h : p < 65536) (e : X = p + 65536 * Y) : X / 65536 = Y := by omega
theorem div_d {p Y X : Nat} (h : p < 4294967296) (e : X = p + 4294967296 * Y) : X / 4294967296 = Y := by omega
theorem mix_b (p0 p1 p2 p3 p4 p5 p6 p7 : Nat) : (p0 + 256 * (p1 + 256 * (p2 + 256 * (p3 + 256 * (p4 + 256 * (p5 + 256 * (p6 + 256 * p7))))))) + (p1 + 256 * (p2 + 256 * (p3 + 256 * (p4 + 256 * (p5 + 256 * (p6 + 256 * p7))))))
    = (p0 + p1 + 256 * (p1 + p2)) + 65536 * ((p2 + p3 + 256 * (p3 + p4)) + 65536 * ((p4 + p5 + 256 * (p5 + p6)) + 65536 * (p6 + p7 + 256 * p7))) := by omega
theorem mix_w (A0 A1 A2 A3 : Nat) : (A0 + 65536 * (A1 + 65536 * (A2 + 65536 * A3))) + (A1 + 65536 * (A2 + 65536 * A3)) = (A0 + A1 + 65536 * (A1 + A2)) + 4294967296 * (A2 + A3 + 65536 * A3) := by omega
theorem mix_d (p0 p1 p2 p3 p4 p5 p6 p7 Z : Nat) : (p0 + p1 + 256 * (p1 + p2)) + (p2 + p3 + 256 * (p3 + p4)) + ((p4 + p5 + 256 * (p5 + p6)) + (p6 + p7 + 256 * p7)) + 128 * Z = (p0 + (p1 + (p2 + (p3 + (p4 + (p5 + (p6 + p7))))))) + 128 * (2 * (p1 + p2 + p3 + p4 + p5 + p6 + p7) + Z) := by omega
theorem mix_e (A0 A1 A2 A3 : Nat) : (A0 + A1 + 65536 * (A1 + A2)) + 4294967296 * (A2 + A3 + 65536 * A3) + (A2 + A3 + 65536 * A3) = (A0 + A1 + (A2 + A3)) + 128 * (512 * (A1 + A2) + 33554432 * (A2 + A3 + 65536 * A3) + 512 * A3) := by omega
theorem low_7 {a b : Nat} (h : a ≤ 64) : (a + 128 * b) % 128 = a := by omega
theorem lt_nest {p0 p1 p2 p3 p4 p5 p6 p7 : Nat} (h0 : p0 ≤ 8) (h1 : p1 ≤ 8) (h2 : p2 ≤ 8) (h3 : p3 ≤ 8) (h4 : p4 ≤ 8) (h5 : p5 ≤ 8) (h6 : p6 ≤ 8) (h7 : p7 ≤ 8) :
    (p0 + 256 * (p1 + 256 * (p2 + 256 * (p3 + 256 * (p4 + 256 * (p5 + 256 * (p6 + 256 * p7))))))) < 18446744073709551616 := by omega

/-- The library's last steps. -/
def EndSum (X S : Nat) : Prop := ∃ a b c : Nat, X + X / 256 = a ∧ a + a / 65536 = b ∧ b + b / 4294967296 = c ∧ a < 18446744073709551616 ∧ b < 18446744073709551616 ∧ c < 9223372036854775808 ∧ c % 128 = S ∧ X < 18446744073709551616

theorem lt_four {A0 A1 A2 A3 : Nat} (h0 : A0 < 65536) (h1 : A1 < 65536) (h2 : A2 < 65536) (h3 : A3 < 65535) : A0 + 65536 * (A1 + 65536 * (A2 + 65536 * A3)) < 18446462598732840960 := by omega
theorem lt_two {a b : Nat} (h0 : a < 4294967296) (h1 : b < 275300000) : a + 4294967296 * b < 4611686018427387904 := by omega

theorem end_two {A0 A1 A2 A3 S T X a : Nat} (h0 : A0 < 4200) (h1 : A1 < 4200) (h2 : A2 < 4200) (h3 : A3 < 4200) (hS : S ≤ 64) (hm : ∀ Z, A0 + A1 + (A2 + A3) + 128 * Z = S + 128 * (2 * T + Z))
    (hX : X < 18446744073709551616) (ha : X + X / 256 = a) (e : a = A0 + 65536 * (A1 + 65536 * (A2 + 65536 * A3))) : EndSum X S := by
  have d1 : a / 65536 = A1 + 65536 * (A2 + 65536 * A3) := div_w (by omega) e
  have d2 : a + a / 65536 = (A0 + A1 + 65536 * (A1 + A2)) + 4294967296 * (A2 + A3 + 65536 * A3) := by rw [d1, e, mix_w]
  have d3 : ((A0 + A1 + 65536 * (A1 + A2)) + 4294967296 * (A2 + A3 + 65536 * A3)) / 4294967296 = A2 + A3 + 65536 * A3 := div_d (by omega) rfl
  have l1 := lt_four (A0 := A0) (A1 := A1) (A2 := A2) (A3 := A3) (by omega) (by omega) (by omega) (by omega)
  have l2 := lt_two (a := A0 + A1 + 65536 * (A1 + A2)) (b := A2 + A3 + 65536 * A3) (by omega) (by omega)
  have l3 : A2 + A3 + 65536 * A3 < 4294967296 := by omega
  have d4 := mix_e A0 A1 A2 A3
  rw [← e] at l1
  rw [hm] at d4
  generalize hU : (A0 + A1 + 65536 * (A1 + A2)) + 4294967296 * (A2 + A3 + 65536 * A3) = U at *
  generalize A2 + A3 + 65536 * A3 = V at *
  clear e d1 hm h0 h1 h2 h3 hU
  refine ⟨a, U, U + V, ha, d2, by rw [d3], by omega, by omega, by omega, ?_, hX⟩
  rw [d4]
  exact low_7 hS

theorem end_sum (p0 p1 p2 p3 p4 p5 p6 p7 : Nat) (h0 : p0 ≤ 8) (h1 : p1 ≤ 8) (h2 : p2 ≤ 8) (h3 : p3 ≤ 8) (h4 : p4 ≤ 8) (h5 : p5 ≤ 8) (h6 : p6 ≤ 8) (h7 : p7 ≤ 8) :
    EndSum (p0 + 256 * (p1 + 256 * (p2 + 256 * (p3 + 256 * (p4 + 256 * (p5 + 256 * (p6 + 256 * p7))))))) (p0 + (p1 + (p2 + (p3 + (p4 + (p5 + (p6 + p7))))))) := by
  have b0 : p0 + p1 + 256 * (p1 + p2) < 4200 := by omega
  have b1 : p2 + p3 + 256 * (p3 + p4) < 4200 := by omega
  have b2 : p4 + p5 + 256 * (p5 + p6) < 4200 := by omega
  have b3 : p6 + p7 + 256 * p7 < 4200 := by omega
  have b4 : p0 + (p1 + (p2 + (p3 + (p4 + (p5 + (p6 + p7)))))) ≤ 64 := by omega
  have b5 : p0 < 256 := by omega
  refine end_two b0 b1 b2 b3 b4 (mix_d p0 p1 p2 p3 p4 p5 p6 p7) (lt_nest h0 h1 h2 h3 h4 h5 h6 h7) rfl ?_
  rw [← mix_b p0 p1 p2 p3 p4 p5 p6 p7]
  congr 1
  exact div_b b5 rfl

theorem pcs_succ (n x : Nat) : pcs (n + 1) x = cnt8 (x % 256) + 256 * pcs n (x / 256) := rfl
theorem sums_succ (n x : Nat) : sums (n + 1) x = cnt8 (x % 256) + sums n (x / 256) := rfl
theorem fold_sum (x : Nat) : EndSum (pcs 8 x) (sums 8 x) := by
  have h := end_sum _ _ _ _ _ _ _ _ (cnt_le x) (cnt_le (x / 256)) (cnt_le (x / 256 / 256)) (cnt_le (x / 256 / 256 / 256)) (cnt_le (x / 256 / 256 / 256 / 256)) (cnt_le (x / 256 / 256 / 256 / 256 / 256)) (cnt_le (x / 256 / 256 / 256 / 256 / 256 / 256)) (cnt_le (x / 256 / 256 / 256 / 256 / 256 / 256 / 256))
  rw [pcs_succ 7, pcs_succ 6, pcs_succ 5, pcs_succ 4, pcs_succ 3, pcs_succ 2, pcs_succ 1, pcs_succ 0, sums_succ 7, sums_succ 6, sums_succ 5, sums_succ 4, sums_succ 3, sums_succ 2, sums_succ 1, sums_succ 0, show ∀ x, pcs 0 x = 0 from fun _ => rfl, show ∀ x, sums 0 x = 0 from fun _ => rfl, Nat.mul_zero, Nat.add_zero]
  exact h

theorem rep_85 : repN 85 8 = 6148914691236517205 := by decide
theorem rep_51 : repN 51 8 = 3689348814741910323 := by decide
theorem rep_15 : repN 15 8 = 1085102592571150095 := by decide

/-- The whole of it. -/
theorem pop_word {x : Nat} (h : x < 18446744073709551616) : fou4 8 x = pcs 8 x ∧ sums 8 x = cntN x := by
  refine ⟨fou_all 8 x (Nat.lt_of_lt_of_le h (by decide)), ?_⟩
  exact (sums_all 8 x).symm

end Go.Proofs.Ytfiamomadicbpaa
