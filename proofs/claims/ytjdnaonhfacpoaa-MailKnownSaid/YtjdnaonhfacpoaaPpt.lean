/-
  Parts in memory; what is written is read again.
-/
import Derived.Test.YtjdnaonhfacpoaaPrw
namespace Go.Proofs.Ytjdnaonhfacpoaa
open Go.RowKit

def fV (x : Nat) : Value := .float .f64 x

/-- A part: its kind, its number, its float, its bytes. -/
structure Prt where
  kind : Int
  num : Nat
  flt : Nat
  bs : List Nat

structure PtAt (w : World) (a : Option Addr) (cap : Nat) (l : List Prt) : Prop where
  fit : l.length ≤ cap
  max : cap ≤ maxLen
  nil : a = none → cap = 0
  cell : ∀ i (h : i < l.length), ∃ b off ab cb, a = some ⟨b, off, none⟩ ∧ b < w.heap.size ∧ w.cell? ⟨b, off + i * 4, none⟩ = some (.int .i64 l[i].kind) ∧ w.cell? ⟨b, off + i * 4 + 1, none⟩ = some (.int .u64 (l[i].num : Nat)) ∧
    w.cell? ⟨b, off + i * 4 + 2, none⟩ = some (.float .f64 l[i].flt) ∧ w.cell? ⟨b, off + i * 4 + 3, none⟩ = some (.slice ab l[i].bs.length cb) ∧ SlAt bV 256 w ab cb l[i].bs
  ok : ∀ i (h : i < l.length), (-9223372036854775808 ≤ l[i].kind ∧ l[i].kind ≤ 9223372036854775807) ∧ l[i].num < 18446744073709551616 ∧ l[i].flt < 18446744073709551616

theorem PtAt.below {w w' : World} {a : Option Addr} {cap : Nat} {l : List Prt} (h : PtAt w a cap l) (hb : Below w.heap.size w w') : PtAt w' a cap l :=
  ⟨h.fit, h.max, h.nil, fun i hi => by
    obtain ⟨b, off, ab, cb, e, hl, h0, h1, h2, h3, hs⟩ := h.cell i hi
    exact ⟨b, off, ab, cb, e, Nat.lt_of_lt_of_le hl hb.size, (hb.cell (p := ⟨b, off + i * 4, none⟩) hl).trans h0, (hb.cell (p := ⟨b, off + i * 4 + 1, none⟩) hl).trans h1, (hb.cell (p := ⟨b, off + i * 4 + 2, none⟩) hl).trans h2, (hb.cell (p := ⟨b, off + i * 4 + 3, none⟩) hl).trans h3, hs.below hb⟩, h.ok⟩

/-! A float's eight bytes, read again. -/
theorem div_mod {a b : Nat} (h : b / 256 = a) : a * 256 + b % 256 = b := by omega
theorem be_fold {k : Nat} (h : k < 18446744073709551616) : foldB (beL k) = k := by
  have e : beL k = [beB k 0, beB k 1, beB k 2, beB k 3, beB k 4, beB k 5, beB k 6, beB k 7] := rfl
  have p0 : beB k 0 = k / 72057594037927936 % 256 := rfl
  have p1 : beB k 1 = k / 281474976710656 % 256 := rfl
  have p2 : beB k 2 = k / 1099511627776 % 256 := rfl
  have p3 : beB k 3 = k / 4294967296 % 256 := rfl
  have p4 : beB k 4 = k / 16777216 % 256 := rfl
  have p5 : beB k 5 = k / 65536 % 256 := rfl
  have p6 : beB k 6 = k / 256 % 256 := rfl
  have p7 : beB k 7 = k / 1 % 256 := rfl
  rw [e, p0, p1, p2, p3, p4, p5, p6, p7]
  have q1 : k / 281474976710656 / 256 = k / 72057594037927936 := by rw [Nat.div_div_eq_div_mul]
  have q2 : k / 1099511627776 / 256 = k / 281474976710656 := by rw [Nat.div_div_eq_div_mul]
  have q3 : k / 4294967296 / 256 = k / 1099511627776 := by rw [Nat.div_div_eq_div_mul]
  have q4 : k / 16777216 / 256 = k / 4294967296 := by rw [Nat.div_div_eq_div_mul]
  have q5 : k / 65536 / 256 = k / 16777216 := by rw [Nat.div_div_eq_div_mul]
  have q6 : k / 256 / 256 = k / 65536 := by rw [Nat.div_div_eq_div_mul]
  have q0 : k / 72057594037927936 < 256 := by omega
  rw [Nat.div_one]
  show ((((((((0 * 256 + _) * 256 + _) * 256 + _) * 256 + _) * 256 + _) * 256 + _) * 256 + _) * 256 + _) = k
  generalize k / 72057594037927936 = a0 at *
  generalize k / 281474976710656 = a1 at *
  generalize k / 1099511627776 = a2 at *
  generalize k / 4294967296 = a3 at *
  generalize k / 16777216 = a4 at *
  generalize k / 65536 = a5 at *
  generalize h6 : k / 256 = a6 at *
  have e0 : a0 % 256 = a0 := Nat.mod_eq_of_lt q0
  have s1 : a0 * 256 + a1 % 256 = a1 := div_mod q1
  have s2 : a1 * 256 + a2 % 256 = a2 := div_mod q2
  have s3 : a2 * 256 + a3 % 256 = a3 := div_mod q3
  have s4 : a3 * 256 + a4 % 256 = a4 := div_mod q4
  have s5 : a4 * 256 + a5 % 256 = a5 := div_mod q5
  have s6 : a5 * 256 + a6 % 256 = a6 := div_mod q6
  have s7 : a6 * 256 + k % 256 = k := div_mod h6
  rw [Nat.zero_mul, Nat.zero_add, e0, s1, s2, s3, s4, s5, s6, s7]

theorem be_read {k : Nat} (h : k < 18446744073709551616) (r : List Nat) : beN (beL k ++ r) = k := by
  unfold beN
  rw [List.take_left' (beL_len k), be_fold h]

theorem nan_w : nanB nanW = true := by decide +kernel
theorem key_nan {x : Nat} (h : nanB x = true) : keyN x = 18446744073709551615 := by unfold keyN; rw [h]; rfl

/-- What is read of a float that was written. -/
def backN (x : Nat) : Nat := if nanB x then nanW else x
theorem key_back {x : Nat} (hx : x < 18446744073709551616) : ofB (keyN x) = true ∧ ofF (keyN x) = backN x := by
  unfold backN
  cases hn : nanB x
  · have hk : keyN x = if sgnB x then 18446744073709551615 - x else x + 9223372036854775808 := by unfold keyN; rw [hn]; rfl
    have hne : keyN x ≠ 18446744073709551615 ∧ ofW (keyN x) = x := by
      rw [hk]
      cases hs : sgnB x
      · have := (sgnB_no x).1 hs
        simp only [Bool.false_eq_true, if_false]
        have ht : topB (x + 9223372036854775808) = true := by unfold topB; simp
        have hf : x ≠ 9223372036854775807 := fun e => by
          rw [e] at hn
          exact absurd hn (by decide +kernel)
        refine ⟨by omega, ?_⟩
        unfold ofW
        rw [ht, if_pos rfl]
        omega
      · have := (sgnB_iff x).1 hs
        simp only [if_true]
        have ht : topB (18446744073709551615 - x) = false := by unfold topB; simp; omega
        refine ⟨by omega, ?_⟩
        unfold ofW
        rw [ht, if_neg (by decide)]
        omega
    have hl : lastB (keyN x) = false := by unfold lastB; simp [hne.1]
    refine ⟨?_, ?_⟩
    · unfold ofB
      rw [hl, hne.2, hn]; rfl
    · unfold ofF
      rw [hl, hne.2, hn]; rfl
  · rw [key_nan hn]
    rw [if_pos rfl]
    refine ⟨by decide +kernel, by decide +kernel⟩

theorem back_lt {x : Nat} (hx : x < 18446744073709551616) : backN x < 18446744073709551616 := by
  unfold backN
  split
  · decide
  · exact hx
theorem back_key (x : Nat) : keyN (backN x) = keyN x := by
  unfold backN
  cases hn : nanB x
  · rfl
  · simp only [if_true]
    rw [key_nan hn, key_nan nan_w]

theorem flt_back {x : Nat} (hx : x < 18446744073709551616) (r : List Nat) : fltR (some (beL (keyN x) ++ r)) = (backN x, some r) := by
  obtain ⟨h1, h2⟩ := key_back hx
  show (if (beL (keyN x) ++ r).length < 8 ∨ ofB (beN (beL (keyN x) ++ r)) = false then _ else _) = _
  rw [be_read (key_lt x hx), if_neg (fun e => e.elim (fun e => by rw [List.length_append, beL_len] at e; omega) (fun e => by rw [h1] at e; cases e)), h2, List.drop_left' (beL_len _)]

theorem num_back {n most : Nat} (hn : n < 18446744073709551616) (hm : n ≤ most) (r : List Nat) : numR most (some (lebL n ++ r)) = (n, some r) := by
  show (if (getN (lebL n ++ r)).2 = 0 ∨ most < (getN (lebL n ++ r)).1 then _ else _) = _
  rw [getN_lebL hn]
  have := szN_pos n
  rw [if_neg (by simp only; omega)]
  show (n, some ((lebL n ++ r).drop (szN n))) = _
  rw [show szN n = (lebL n).length from rfl, List.drop_left' rfl]

theorem byt_back {bs : List Nat} {most : Int} (hm : (bs.length : Int) ≤ most) (hb : bs.length < 18446744073709551616) (r : List Nat) : bytR most (some (lebL bs.length ++ (bs ++ r))) = (bs, some r) := by
  have e := num_back (most := (max most 0).toNat) hb (by omega) (bs ++ r)
  unfold bytR
  rw [e]
  simp only [Option.getD_some, List.length_append]
  rw [if_neg (by omega), List.take_left' rfl]
  simp [List.drop_left' rfl]

theorem set_back {n : Nat} (hn : n < 18446744073709551616) (r : List Nat) : setR 18446744073709551615 (some (lebL n ++ r)) = (n, some r) := by
  unfold setR
  rw [num_back hn (by omega) r]
  simp

end Go.Proofs.Ytjdnaonhfacpoaa
