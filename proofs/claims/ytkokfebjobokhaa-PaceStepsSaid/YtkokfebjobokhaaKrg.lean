/-
  At which Ticks an alarm rings; an alarm of the call's own.
-/
import Derived.Test.YtkokfebjobokhaaKpt
import Derived.Test.YtkokfebjobokhaaVint
namespace Go.Proofs.Ytkokfebjobokhaa
open Go.RowKit

theorem Try.infoZ : (Try.prog.info? 3).map (fun i => (i.zero, i.size, i.bytes)) = some (some (.int .i64 0), 1, 8) := by kernel_rfl
theorem info_partsZ {i? : Option TypeInfo} {z : Value} {s b : Nat} (h : i?.map (fun i => (i.zero, i.size, i.bytes)) = some (some z, s, b)) : ∃ i, i? = some i ∧ i.zero = some z ∧ i.size = s ∧ i.bytes = b := by
  cases i? with
  | none => simp at h
  | some i => simp at h; exact ⟨i, rfl, h.1, h.2.1, h.2.2⟩

def tickN (S : Pa) : Nat → Pa
  | 0 => S
  | k + 1 => (tickN S k).tick
def rungN (S : Pa) : Nat → List Int
  | 0 => []
  | k + 1 => if (tickN S k).rings then rungN S k ++ [((k + 1 : Nat) : Int)] else rungN S k
theorem tickN_ok {S : Pa} {n : Nat} (h : S.ok n) : ∀ k, (tickN S k).ok (n + k)
  | 0 => h
  | k + 1 => (tickN_ok h k).tick
theorem rungN_len (S : Pa) : ∀ k, (rungN S k).length ≤ k
  | 0 => Nat.le_refl _
  | k + 1 => by
    have := rungN_len S k
    unfold rungN
    split
    · rw [List.length_append, List.length_singleton]; omega
    · omega

/-- Made by the call: all below N as it was. -/
structure PaOn (W : World) (N p : Nat) (S : Pa) (w : World) : Prop where
  at' : PaAt w p S
  low : N ≤ p
  be : Below N W w
section
variable {W w w' : World} {N p : Nat} {S S2 : Pa} {r : Value} {e : Ending}
theorem PaOn.post (h : PaOn W N p S w) (hp : PaPost S2 w p r e w') : e = .returned r ∧ PaOn W N p S2 w' := by
  obtain ⟨he, hA, hK⟩ := hp
  have hs : N ≤ w.heap.size := Nat.le_trans h.low (Nat.le_of_lt h.at'.lt)
  exact ⟨he, hA, h.low, h.be.trans (hK.below hs (fun k e => e ▸ h.low))⟩
theorem PaOn.below (h : PaOn W N p S w) (hb : Below w.heap.size w w') : PaOn W N p S w' :=
  ⟨h.at'.below hb, h.low, h.be.trans (hb.mono (Nat.le_trans h.low (Nat.le_of_lt h.at'.lt)))⟩
theorem PaOn.drewN (h : PaOn W N p S w) (q : Nat) : PaOn W N p S (w.drewN q) := h.below ⟨rfl, rfl, rfl, Nat.le_refl _, fun _ _ => rfl⟩
theorem PaOn.of (h : PaNew S w e w') (hb : Below N W w) (hN : N ≤ w.heap.size) : e = .returned (.tuple #[.pointer (some ⟨w.heap.size, 0, none⟩), .int .i64 0]) ∧ PaOn W N w.heap.size S w' := by
  obtain ⟨he, hA, hB, _⟩ := h
  exact ⟨he, hA, hN, hb.trans (hB.mono hN)⟩
end

section
variable {W w : World} {N p n : Nat} {S S2 : Pa} {r : Value}
theorem on_start (h : PaOn W N p S w) (hr : S.start = S2) : Calls Try.prog 11 #[.pointer (some ⟨p, 0, none⟩)] w fun e w' => e = .returned (.tuple #[]) ∧ PaOn W N p S2 w' := by
  subst hr
  exact (pa_start h.at').mono fun e w' hp => h.post hp
theorem on_tick {b : Bool} (h : PaOn W N p S w) (ho : S.ok n) (hn : n ≤ 4611686018427387904) (hr : S.tick = S2) (hb : S.rings = b) : Calls Try.prog 9 #[.pointer (some ⟨p, 0, none⟩)] w fun e w' => e = .returned (.bool b) ∧ PaOn W N p S2 w' := by
  subst hr hb
  exact (pa_tick h.at' ho hn).mono fun e w' hp => h.post hp
theorem on_step {z : Int} (h : PaOn W N p S w) (hz : (S.s : Int) = z) : Calls Try.prog 12 #[.pointer (some ⟨p, 0, none⟩)] w fun e w' => e = .returned (.int .i64 z) ∧ w' = w := by
  subst hz
  exact pa_step h.at'
theorem on_rings {z : Int} (h : PaOn W N p S w) (hz : (S.r : Int) = z) : Calls Try.prog 14 #[.pointer (some ⟨p, 0, none⟩)] w fun e w' => e = .returned (.int .i64 z) ∧ w' = w := by
  subst hz
  exact pa_rings h.at'
theorem on_new {f m : Nat} {a b : Int} (ha : (f : Int) = a) (hb' : (m : Int) = b) (hok : 1 ≤ f ∧ f ≤ m ∧ m ≤ 1000) (hb : Below N W w) (hN : N ≤ w.heap.size) : Calls Try.prog 8 #[.int .i64 a, .int .i64 b] w fun e w' => e = .returned (.tuple #[.pointer (some ⟨w.heap.size, 0, none⟩), .int .i64 0]) ∧ PaOn W N w.heap.size (Pa.new f m) w' := by
  subst ha hb'
  exact (pa_new f m w hok).mono fun e w' hp => PaOn.of hp hb hN
theorem on_stop (h : PaOn W N p S w) (hr : S.stop = S2) : Calls Try.prog 13 #[.pointer (some ⟨p, 0, none⟩)] w fun e w' => e = .returned (.tuple #[]) ∧ PaOn W N p S2 w' := by
  subst hr
  exact (pa_stop h.at').mono fun e w' hp => h.post hp
theorem on_left {z : Int} {b : Bool} (h : PaOn W N p S w) (hz : (S.l : Int) = z) (hb : decide (0 < S.l) = b) : Calls Try.prog 10 #[.pointer (some ⟨p, 0, none⟩)] w fun e w' => e = .returned (.tuple #[.int .i64 z, .bool b]) ∧ ∃ q, w' = w.drewN q := by
  subst hz hb
  exact pa_left h.at'
end

def RingRel (W : World) (p n : Nat) (S : Pa) (l i : Value) (wr : World) : Prop :=
  ∃ (k : Nat) (a : Option Addr) (c : Nat), k ≤ n ∧ i = .int .i64 ((k + 1 : Nat) : Int) ∧ l = .slice a (rungN S k).length c ∧ wr.ownsRow W.heap.size 3 1 l (rungN S k).length ((rungN S k).map iV) ∧ PaAt wr p (tickN S k) ∧ Keep (fun k => k = p) W wr

/-- The Ticks at which it rings, in a slice. -/
def RingPost (W : World) (p n : Nat) (S : Pa) (e : Ending) (w' : World) : Prop :=
  ∃ a cap, e = .returned (.slice a (rungN S n).length cap) ∧ SlV w' a cap ((rungN S n).map iV) ∧ PaAt w' p (tickN S n) ∧ Keep (fun k => k = p) W w'
theorem ring_done {W w' : World} {p n : Nat} {S : Pa} {a : Option Addr} {c : Nat} (hO : w'.ownsRow W.heap.size 3 1 (.slice a (rungN S n).length c) (rungN S n).length ((rungN S n).map iV)) (hA : PaAt w' p (tickN S n)) (hK : Keep (fun k => k = p) W w') : RingPost W p n S (.returned (.slice a (rungN S n).length c)) w' := by
  obtain ⟨_, a2, c2, e, hs⟩ := own_slv hO
  rw [List.length_map] at e
  cases e
  exact ⟨_, _, rfl, hs, hA, hK⟩

theorem ring_step {W wh w2 : World} {p n k : Nat} {S : Pa} {v2 : Value} {o : Obj} {a : Option Addr} {c : Nat} (hk : k < n) (hp : p < W.heap.size) (hb : (tickN S k).rings = true)
    (hO : wh.ownsRow W.heap.size 3 1 (.slice a (rungN S k).length c) (rungN S k).length ((rungN S k).map iV)) (hA : PaAt wh p (tickN S (k + 1))) (hK : Keep (fun k => k = p) W wh)
    (hown : w2.ownsRow W.heap.size 3 1 v2 ((rungN S k).length + 1) ((rungN S k).map iV ++ [iV ((k + 1 : Nat) : Int)])) (hgr : (wh.alloc o).grownBy w2 (Value.slice a (rungN S k).length c).ownBlock) : RingRel W p n S v2 (.int .i64 ((k + 1 + 1 : Nat) : Int)) w2 := by
  obtain ⟨g, cap, rfl, _, _⟩ := hown.form (by omega)
  have e : rungN S (k + 1) = rungN S k ++ [((k + 1 : Nat) : Int)] := by
    show (if (tickN S k).rings then _ else _) = _
    rw [if_pos hb]
  have hK2 : Keep (fun j => (Value.slice a (rungN S k).length c).ownBlock = some j) wh w2 := ((Keep.refl _ wh).alloc o).grown hgr (fun j e => Or.inl e)
  refine ⟨k + 1, some ⟨g, 0, none⟩, cap, by omega, rfl, by rw [e]; simp, by rw [e]; simpa using hown, hA.keep hK2 (fun f => ?_), (hK.alloc o).grown hgr (fun j e => Or.inr (hO.lt j e).1)⟩
  have := (hO.lt p f).1
  omega

set_option maxRecDepth 20000 in
set_option maxHeartbeats 2000000 in
theorem rings_any (n : Nat) (W : World) (p : Nat) (S : Pa) (m : Nat) (hA : PaAt W p S) (ho : S.ok m) (hm : m ≤ 1000000) (hn : n ≤ 1000000) :
    Calls Try.prog 20 #[.pointer (some ⟨p, 0, none⟩), .int .i64 (n : Int)] W (RingPost W p n S) := by
  obtain ⟨i0, hi0, hz0, hz1, hz2⟩ := info_partsZ Try.infoZ
  have A0 := Lib.hid hA
  have HP := Lib.hid hA.lt
  have OK := Lib.hid ho
  clear hA ho
  go_enter Try.func20, Try.ntmps20
  go_wp2_with fail
  go_loopw [5, 6] (fun l i wr => RingRel W p n S l i wr) (fun _ i _ => n + 1 - (intOf i).toNat)
  case atStart => exact ⟨0, none, 0, Nat.zero_le _, rfl, rfl, World.ownsRow_nil .., A0.out, Keep.refl _ _⟩
  case round =>
    obtain ⟨k, a, c, hk, rfl, rfl, hO, hA, hK⟩ := hrel
    have hl := rungN_len S k
    have O := Lib.hid hO
    have A := Lib.hid hA
    have K := Lib.hid hK
    have KO := Lib.hid (tickN_ok OK.out k)
    clear hO hA hK
    by_cases hlt : k < n
    · have dk : decide (((k + 1 : Nat) : Int) ≤ (n : Int)) = true := decide_eq_true (by omega)
      have hw := wrap_i (z := ((k + 1 : Nat) : Int) + 1) (by omega)
      cases hb : (tickN S k).rings
      · have E := Lib.hid (show rungN S (k + 1) = rungN S k by show (if (tickN S k).rings then _ else _) = _; rw [if_neg (by rw [hb]; decide)])
        have T := Lib.hid (pa_tick A.out KO.out (by omega))
        rw [hb] at T
        clear hb
        go_wp2_with (go_at_call 9; refine T.out.mono ?_
                     rintro e wh ⟨rfl, hA2, hK2⟩
                     have A2 := Lib.hid hA2
                     have O2 := Lib.hid (own_carry O.out (fun j hj => hK2.block j (O.out.lt j hj).2 (fun e => by have := (O.out.lt j hj).1; have := HP.out; omega)))
                     have K2 := Lib.hid (K.out.trans hK2 (fun _ _ e => e))
                     clear hA2 hK2)
        go_roundw
        case rel => exact ⟨k + 1, a, c, by omega, by go_num, by rw [E.out], by rw [E.out]; exact O2.out, A2.out, K2.out⟩
        case measure => simp only [intOf]; omega
      · have T := Lib.hid (pa_tick A.out KO.out (by omega))
        have HB := Lib.hid hb
        rw [hb] at T
        clear hb
        go_wp2_with (first
          | (go_at_call 9; refine T.out.mono ?_
             rintro e wh ⟨rfl, hA2, hK2⟩
             have A2 := Lib.hid hA2
             have O2 := Lib.hid (own_carry O.out (fun j hj => hK2.block j (O.out.lt j hj).2 (fun e => by have := (O.out.lt j hj).1; have := HP.out; omega)))
             have K2 := Lib.hid (K.out.trans hK2 (fun _ _ e => e))
             clear hA2 hK2)
          | (at_builtin; refine wpList_append_own _ rfl (.tmp 14) (.tmp 16) 40 rfl W.heap.size 3 i0 (.int .i64 0) 1 8 Try.underlying40 hi0 hz0 hz1 hz2 rfl (by decide) _ _ _ rfl (World.ownsRow.alloc O2.out _) ⟨wh.heap.size, 0, none⟩ 1 1 [iV ((k + 1 : Nat) : Int)] rfl rfl (World.news_of_block (heap_alloc_new _ _)) (by simp [iV, Value.oneCell']) (by unfold maxLen; omega) (by omega) (by have := K2.out.size; simp; omega) ?_
             intro v2 w3 hown2 hgr2 _
             have R := Lib.hid (ring_step hlt HP.out HB.out O2.out A2.out K2.out hown2 hgr2)
             clear hown2 hgr2))
        go_roundw
        case rel => exact R.out
        case measure => simp only [intOf]; omega
    · obtain rfl : k = n := by omega
      have dk : decide (((k + 1 : Nat) : Int) ≤ (k : Int)) = false := decide_eq_false (by omega)
      have R := Lib.hid (ring_done O.out A.out K.out)
      go_wp2_with fail
      go_ret
      exact R.out

end Go.Proofs.Ytkokfebjobokhaa
