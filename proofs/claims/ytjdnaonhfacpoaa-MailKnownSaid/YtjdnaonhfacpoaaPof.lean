/-
  Sets out of written lists.
-/
import Derived.Test.YtjdnaonhfacpoaaPon
namespace Go.Proofs.Ytjdnaonhfacpoaa
open Go.RowKit

/-- The set of a list of processes. -/
def ofL (l : List Nat) : Nat := l.foldl (fun a p => a ||| 2 ^ p) 0
theorem ofL_snoc (l : List Nat) (p : Nat) : ofL (l ++ [p]) = ofL l ||| 2 ^ p := by unfold ofL; rw [List.foldl_append]; rfl
theorem ofL_take {l : List Nat} {k : Nat} (h : k < l.length) : ofL (l.take (k + 1)) = ofL (l.take k) ||| 2 ^ l[k] := by
  rw [List.take_succ_eq_append_getElem h, ofL_snoc]
theorem pow_lt {k : Nat} (h : k < 64) : 2 ^ k < 18446744073709551616 :=
  Nat.lt_of_lt_of_le (Nat.pow_lt_pow_right (by decide) h) (by decide)
theorem or_word {a b : Nat} (ha : a < 18446744073709551616) (hb : b < 18446744073709551616) : a ||| b < 18446744073709551616 := Nat.or_lt_two_pow (n := 64) ha hb
theorem fold_word : ∀ (l : List Nat) (a : Nat), (∀ x ∈ l, x < 64) → a < 18446744073709551616 → l.foldl (fun a p => a ||| 2 ^ p) a < 18446744073709551616
  | [], _, _, h => h
  | p :: r, _, hl, h => fold_word r _ (fun x hx => hl x (List.mem_cons_of_mem _ hx)) (or_word h (pow_lt (hl p (List.mem_cons_self ..))))
theorem ofL_lt {l : List Nat} (h : ∀ x ∈ l, x < 64) : ofL l < 18446744073709551616 := fold_word l 0 h (by decide)

theorem shl_one {p : Nat} (h : p < 64) : IntKind.u64.wrap (2 ^ min p 64) = ((2 ^ p : Nat) : Int) := by
  have hw := pow_lt h
  rw [IntKind.wrap_u64, show ((2 : Int) ^ min p 64) = ((2 ^ min p 64 : Nat) : Int) by simp, show min p 64 = p by omega]
  generalize 2 ^ p = G at *
  omega
theorem shl_two {p : Nat} (h : p < 64) : IntKind.u64.wrap (2 ^ p) = ((2 ^ p : Nat) : Int) := by
  have hw := pow_lt h
  rw [IntKind.wrap_u64, show ((2 : Int) ^ p) = ((2 ^ p : Nat) : Int) by simp]
  generalize 2 ^ p = G at *
  omega

set_option maxRecDepth 20000 in
set_option maxHeartbeats 2000000 in
theorem dof_any (xs : List Nat) (ao : Option Addr) (cap len s : Nat) (W : World) (hs : SlAt lenV 64 W ao cap xs) (hl : xs.length = len) (hv : ofL xs = s) :
    Calls Try.prog 64 #[.slice ao len cap] W fun e w' => e = .returned (.int .u64 (s : Nat)) ∧ W = w' := by
  subst hl hv
  have hfit := hs.fit
  have hmax := hs.max
  unfold maxLen at hmax
  have S := Lib.hid hs
  clear hs
  go_enter Try.func64, Try.ntmps64
  go_wp2_with fail
  go_loop [3, 8] (fun s i => ∃ (k : Nat) (c : Nat), k ≤ xs.length ∧ s = .int .u64 (c : Nat) ∧ i = .int .i64 (k : Nat) ∧ Hid (c = ofL (xs.take k))) (fun _ i => xs.length - (intOf i).toNat)
  case atStart => exact ⟨0, 0, Nat.zero_le _, rfl, rfl, rfl⟩
  case round =>
    obtain ⟨k, c, hk, rfl, rfl, hc⟩ := hrel
    by_cases hlt : k < xs.length
    · obtain ⟨b, off, rfl, hbW, hcx⟩ := S.out.cell k hlt
      have hr := S.out.lt xs[k] (List.getElem_mem hlt)
      have k1 : W.cell? ⟨b, off + k, none⟩ = some (.int .i64 (xs[k] : Nat)) := hcx
      clear hcx
      have S1 := Lib.hid (ofL_take hlt)
      have hcl : c < 18446744073709551616 := by rw [hc.out]; exact ofL_lt (fun x hx => S.out.lt x (List.mem_of_mem_take hx))
      generalize xs[k] = p at *
      have e1 := shl_one hr
      have e3 := shl_two hr
      have e2 := u64_or_nat c (2 ^ p) hcl (pow_lt hr)
      have R := Lib.hid (show c ||| 2 ^ p = ofL (xs.take (k + 1)) by rw [S1.out, ← hc.out])
      generalize c ||| 2 ^ p = d at *
      generalize 2 ^ p = g at *
      go_wp2_with fail
      go_round
      case rel => exact ⟨k + 1, d, by omega, rfl, by go_num, R⟩
      case measure => simp only [intOf]; omega
    · have R : c = ofL xs := by rw [hc.out, List.take_of_length_le (by omega)]
      go_wp2_with fail
      go_ret
      exact ⟨by rw [← R]; rfl, rfl⟩

end Go.Proofs.Ytjdnaonhfacpoaa
