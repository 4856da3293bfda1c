import Derived.Test.YtfbojcaedcimcaaMan
import Derived.RangeFuncNested
import Derived.RangeFuncBound
import Derived.RangeFuncCalls
import Derived.RangeFuncLeaves
import Derived.Sort.MapsRangeIn
import Derived.Maps.OwnIn
import Derived.OwnWalkIn
import Derived.TacticsInMore
import Derived.RegionIn
import Derived.LoopNIn
import Derived.LoopIn

/-
  The keys of a map, one by one, in any order.
-/
namespace Go.Proofs.Ytfbojcaedcimcaa
open Go.RowKit

def uN (x : Nat) : Value := .int .u64 ((x : Nat) : Int)
def kN (x : Nat) : Lit := .int .u64 ((x : Nat) : Int)

section
variable {H : Type} {R : Value → Option (DataW H × List MemPlace)} {D : DataW H}
/-- These have come; all others are left. -/
def Come (D : DataW H) (left : Lit → Bool) (ss : List Nat) : Prop := ss.Nodup ∧ ∀ x, x ∈ ss ↔ (Maps.has D (kN x) = true ∧ left (kN x) = false)

theorem kN_inj {x y : Nat} (h : kN x = kN y) : x = y := by
  unfold kN at h
  cases h
  rfl
theorem come_start (D : DataW H) : Come D (Maps.has D) [] := ⟨List.nodup_nil, fun x => ⟨fun h => (by cases h), fun h => by rw [h.1] at h; cases h.2⟩⟩
theorem kN_key (x : Nat) : WideAt.IsKeyLit (kN x) := trivial
theorem Come.step {left : Lit → Bool} {ss : List Nat} {x : Nat} (h : Come D left ss) (hl : left (kN x) = true) (hd : Maps.has D (kN x) = true) : Come D (fun z => left z && !z.sameKey (kN x)) (ss ++ [x]) := by
  refine ⟨List.nodup_append.2 ⟨h.1, by simp, fun a ha b hb e => ?_⟩, fun y => ?_⟩
  · rw [List.mem_singleton] at hb
    subst hb; subst e
    have := ((h.2 a).1 ha).2
    rw [hl] at this
    cases this
  · rw [List.mem_append, List.mem_singleton, h.2 y]
    constructor
    · rintro (⟨h1, h2⟩ | rfl)
      · exact ⟨h1, by show (left (kN y) && _) = false; rw [h2]; rfl⟩
      · exact ⟨hd, by show (left (kN y) && !(kN y).sameKey (kN y)) = false; rw [WideAt.sameKey_self (kN_key y)]; simp⟩
    · rintro ⟨h1, h2⟩
      by_cases e : y = x
      · exact Or.inr e
      · left
        refine ⟨h1, ?_⟩
        have h3 : (left (kN y) && !(kN y).sameKey (kN x)) = false := h2
        rw [Maps.sameKey_ne (fun e' => e (kN_inj e'))] at h3
        simpa using h3

theorem key_is {P : Program} {k : TypeId} (hk : P.underlying k = some (.int .u64)) {key : Value} {kl : Lit} (h : keyOf P k key = some kl) : ∃ x : Nat, key = uN x ∧ kl = kN x ∧ x < 18446744073709551616 := by
  obtain ⟨x, rfl, rfl, hw⟩ := Maps.keyOf_int_inv hk h
  have hx : 0 ≤ x ∧ x < 18446744073709551616 := by
    simp [Lit.wf, IntKind.min, IntKind.max, IntKind.bits, IntKind.signed] at hw
    omega
  obtain ⟨n, rfl⟩ := Int.eq_ofNat_of_zero_le hx.1
  exact ⟨n, rfl, rfl, by omega⟩

theorem Try.infoU : (Try.prog.info? 33).map (fun i => (i.zero, i.size, i.bytes)) = some (some (.int .u64 0), 1, 8) := by kernel_rfl

/-- All keys, each once. -/
def KeysOf (D : DataW H) (ss : List Nat) : Prop := ss.Nodup ∧ (∀ x, x ∈ ss ↔ Maps.has D (kN x) = true) ∧ ss.length ≤ Maps.size D

/-- maps.Keys's iterator: each key once. -/
theorem keys_stop (n l : Nat) (hn : 1 ≤ n) {Bm b nn : Nat} (J Jx : List Nat → World → Prop) (W : World) (hm : W.cell? ⟨Bm, 0, none⟩ = some (.map (some b))) (hown : W.ownsMap Try.prog 33 R b nn D)
    (hJ : AbidesFrom W.heap.size J)
    (hY : ∀ pre x W1, J pre W1 → pre.length < Maps.size D → YieldAt Fence.wide (n - 1) Try.prog l #[uN x] W1 fun e W' => (e = .returned (.bool true) ∧ J (pre ++ [x]) W' ∧ KeepsWalks W1 W') ∨ (e = .returned (.bool false) ∧ Jx (pre ++ [x]) W')) (h0 : J [] W) :
    CallsIn Fence.wide n Try.prog 59 #[.func (.yield l) #[] #[], .pointer (some ⟨Bm, 0, none⟩)] W fun e W' =>
      (∃ v, e = .returned v) ∧ ((∃ ss : List Nat, KeysOf D ss ∧ J ss W') ∨ (∃ pre, True ∧ Jx pre W')) := by
  have hK : Maps.Keyed Try.prog 33 := Maps.int_keyed Try.underlying33
  refine callsIn_of_wp Try.func59 rfl trivial ?_ rfl
  simp only [Try.ntmps59, List.size_toArray, List.length_cons, List.length_nil, Nat.reduceAdd, Nat.reduceSub, Array.replicate_succ, Array.replicate_zero, List.push_toArray, List.append_toArray, List.nil_append, List.cons_append]
  gi_wp2_with (first
    | (gi_at_range; refine wpListIn_range_own _ rfl _ 71 rfl 33 30 hK Try.underlying71 _ b nn _ rfl hown ?_; intro w0 hrg0 hg0 hs0)
    | gi_in)
  go_frame
  gi_loopw [3] (fun _ wr => ∃ (left : Lit → Bool) (cnt : Nat) (ss : List Nat), wr.ranges Try.prog 33 R b W.heap.size nn D left cnt ∧ ss.length + cnt ≤ Maps.size D ∧ Come D left ss ∧ J ss wr) (fun _ wr => wr.rangeLeft b W.heap.size)
  case atStart => exact ⟨_, _, [], hrg0, by simp, come_start D, hJ [] W w0 none h0 hg0 (fun r e => by cases e)⟩
  case round =>
    obtain ⟨left, cnt, ss, hrg, hcs, hC, hJs⟩ := hrel
    gi_wp2_with (first
      | (gi_at_next; refine wpListIn_next_ranges _ rfl _ rfl 33 hK R uN id (fun key kl hk => (key_is Try.underlying33 hk).elim fun x hx => ⟨x, hx.1⟩) (fun v _ _ => ⟨v, rfl⟩) b W.heap.size nn _ _ _ rfl hrg ?_ ?_)
      | gi_in)
    · intro hc0 hl0
      gi_wp2
      go_end0
      exact ⟨⟨_, rfl⟩, .inl ⟨ss, ⟨hC.1, fun x => by rw [hC.2 x, hl0]; simp, by omega⟩, hJs⟩⟩
    · intro x c kl yd yp w2 cnt2 hkey hlk hv hat hrg2 hlt hg2 hs2 hen
      obtain ⟨x', ex, rfl, hx⟩ := key_is Try.underlying33 hkey
      obtain rfl : x = x' := by
        unfold uN at ex
        cases ex
        rfl
      have hJ2 : J ss w2 := hJ ss wr w2 (some W.heap.size) hJs hg2 (fun r e => by cases e; exact ⟨Nat.le_refl _, hrg.iter_walk⟩)
      obtain ⟨fn, tmps, assign, body, hy, hR⟩ := hY ss x w2 hJ2 (by omega)
      have hd : Maps.has D (kN x) = true := Maps.has_true_of_atKey hat
      clear hs2
      unfold uN at hy hen
      unfold uN
      gi_wp2
      refine hR.mono ?_
      rintro e W3 (⟨rfl, hJ3, hk3⟩ | ⟨rfl, hJx3⟩)
      · gi_wp2
        have hrg3 := hrg2.of_walks hk3
        go_roundw
        case rel => exact ⟨_, cnt2, ss ++ [x], hrg3, by simp; omega, hC.step hlk hd, hJ3⟩
        case measure => rw [hrg3.left_eq, hrg.left_eq]; exact hlt
      · gi_wp2
        refine bodyPost_ret (results_none rfl _ _ _) rfl ?_
        exact ⟨⟨_, rfl⟩, .inr ⟨ss ++ [x], trivial, hJx3⟩⟩
end

end Go.Proofs.Ytfbojcaedcimcaa
