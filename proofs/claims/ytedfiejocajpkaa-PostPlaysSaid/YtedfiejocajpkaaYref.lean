/-
  The document's own boxes: slices of slices.
-/
import Derived.Test.YtedfiejocajpkaaYpo
import Derived.Test.YtedfiejocajpkaaWreg
import Derived.Deep.QuietTactic
import Derived.BigQuiet
import Derived.Deep.Cut
import Derived.KernelRfl
namespace Go.Proofs.Ytedfiejocajpkaa
open Go.RowKit

structure RpV (w : World) (N p : Nat) (F : Nat → Prop) (n room : Nat) (B : Nat → List Int) (b : Nat) : Prop where
  c0 : w.cell? ⟨p, 0, none⟩ = some (.int .i64 (room : Int))
  c1 : w.cell? ⟨p, 1, none⟩ = some (.slice (some ⟨b, 0, none⟩) n n)
  row : ∀ k, k < n → ∃ a cap, w.cell? ⟨b, k, none⟩ = some (.slice a (B k).length cap) ∧ SlV w a cap ((B k).map iV) ∧ ∀ ad, a = some ad → B k ≠ [] → F ad.block ∧ ad.block ≠ b
  fz : ∀ k, w.frozen? ⟨b, k, none⟩ = false
  inP : F p
  inB : F b
  pb : p ≠ b
  low : ∀ k, F k → N ≤ k ∧ k < w.heap.size
  nn : 0 < n ∧ n ≤ 16
  rr : 0 < room ∧ room ≤ 64

def RpAt (w : World) (N p : Nat) (F : Nat → Prop) (n room : Nat) (B : Nat → List Int) : Prop := ∃ b, RpV w N p F n room B b

section
variable {w w' w2 : World} {N p n room b : Nat} {F G : Nat → Prop} {B : Nat → List Int}

theorem RpV.carry (h : RpV w N p F n room B b) (hs : w.heap.size ≤ w'.heap.size) (hb : ∀ k, F k → w'.heap[k]? = w.heap[k]?) : RpV w' N p F n room B b :=
  ⟨(World.cell?_of_block (w := w) (a := ⟨p, 0, none⟩) (hb p h.inP)).trans h.c0, (World.cell?_of_block (w := w) (a := ⟨p, 1, none⟩) (hb p h.inP)).trans h.c1,
    fun k hk => by
      obtain ⟨a, cap, h1, h2, h3⟩ := h.row k hk
      exact ⟨a, cap, (World.cell?_of_block (w := w) (a := ⟨b, k, none⟩) (hb b h.inB)).trans h1, h2.carry hs (fun ad e hne _ => hb _ (h3 ad e (fun e => hne (by rw [e]; rfl))).1), h3⟩,
    fun k => (World.frozen?_of_block (w := w) (a := ⟨b, k, none⟩) (hb b h.inB)).trans (h.fz k), h.inP, h.inB, h.pb, fun k f => ⟨(h.low k f).1, Nat.lt_of_lt_of_le (h.low k f).2 hs⟩, h.nn, h.rr⟩
theorem RpAt.below (h : RpAt w N p F n room B) (hb : Below w.heap.size w w') : RpAt w' N p F n room B := by
  obtain ⟨b, hv⟩ := h
  exact ⟨b, hv.carry hb.size (fun k f => hb.block k (hv.low k f).2)⟩
theorem RpAt.keep (h : RpAt w N p F n room B) (hk : Keep G w w') (hFG : ∀ k, F k → ¬ G k) : RpAt w' N p F n room B := by
  obtain ⟨b, hv⟩ := h
  exact ⟨b, hv.carry hk.size (fun k f => hk.block k (hv.low k f).2 (hFG k f))⟩
theorem RpAt.size (h : RpAt w N p F n room B) : N ≤ w.heap.size ∧ p < w.heap.size ∧ ∀ k, F k → N ≤ k ∧ k < w.heap.size := by
  obtain ⟨b, hv⟩ := h
  have := hv.low p hv.inP
  exact ⟨by omega, by omega, hv.low⟩
theorem RpAt.nn (h : RpAt w N p F n room B) : 0 < n ∧ n ≤ 16 ∧ 0 < room ∧ room ≤ 64 := by
  obtain ⟨b, hv⟩ := h
  exact ⟨hv.nn.1, hv.nn.2, hv.rr⟩

/-- A row is stored. -/
theorem RpV.set (h : RpV w N p F n room B b) (hb : Below w.heap.size w w2) {k : Nat} (a : Option Addr) (cap : Nat) (l : List Int) (hk : k < n) (hs : SlV w2 a cap (l.map iV)) {F' : Nat → Prop} (hF : ∀ i, F i → F' i) (hlow : ∀ i, F' i → N ≤ i ∧ i < w2.heap.size)
    (hn : ∀ ad, a = some ad → l ≠ [] → F' ad.block ∧ ad.block ≠ b) : RpV (w2.setCell ⟨b, k, none⟩ (.slice a l.length cap)) N p F' n room (upd B k l) b := by
  have h2 : RpV w2 N p F n room B b := h.carry hb.size (fun i f => hb.block i (h.low i f).2)
  have ho : ∀ i, i ≠ b → (w2.setCell ⟨b, k, none⟩ (.slice a l.length cap)).heap[i]? = w2.heap[i]? := fun i hi => Below.heap_setCell _ _ _ _ hi
  have hz : w2.heap.size ≤ (w2.setCell ⟨b, k, none⟩ (.slice a l.length cap)).heap.size := by simp [World.setCell]
  refine ⟨(World.cell?_of_block (w := w2) (a := ⟨p, 0, none⟩) (ho p h.pb)).trans h2.c0, (World.cell?_of_block (w := w2) (a := ⟨p, 1, none⟩) (ho p h.pb)).trans h2.c1, fun j hj => ?_,
    fun j => (World.frozen?_setCell ..).trans (h2.fz j), hF _ h.inP, hF _ h.inB, h.pb, fun i f => ⟨(hlow i f).1, Nat.lt_of_lt_of_le (hlow i f).2 hz⟩, h.nn, h.rr⟩
  by_cases e : j = k
  · subst e
    obtain ⟨a0, cap0, h3, _, _⟩ := h2.row j hj
    rw [upd_at]
    exact ⟨a, cap, World.cell?_setCell_same (h := h3) .., hs.carry hz (fun ad e hne _ => ho _ (hn ad e (fun e => hne (by rw [e]; rfl))).2), hn⟩
  · rw [upd_ne e]
    obtain ⟨a0, cap0, h3, h4, h5⟩ := h2.row j hj
    exact ⟨a0, cap0, (cell_other e).trans h3, h4.carry hz (fun ad e hne _ => ho _ (h5 ad e (fun e => hne (by rw [e]; rfl))).2), fun ad e hne => ⟨hF _ (h5 ad e hne).1, (h5 ad e hne).2⟩⟩
end

section
variable {W : World} {N p n room : Nat} {F : Nat → Prop} {B : Nat → List Int}

theorem rp_put_no (hA : RpAt W N p F n room B) (k x : Int) (h : canB n room B k = false) :
    Calls Try.prog 16 #[.pointer (some ⟨p, 0, none⟩), .int .i64 k, .int .i64 x] W fun e w' => e = .returned (.bool false) ∧ ∃ q, w' = W.drewN q := by
  obtain ⟨b, hv⟩ := hA
  have c0 := hv.c0
  have c1 := hv.c1
  by_cases h0 : k < 0
  · have d0 : decide (k < 0) = true := decide_eq_true h0
    clear hv h h0
    go_enter Try.func16, Try.ntmps16
    go_wp2_with fail
    go_quiet (fail)
    go_wp2_with fail
    go_ret
    exact ⟨rfl, _, rfl⟩
  · have d0 : decide (k < 0) = false := decide_eq_false h0
    by_cases h1 : k ≥ (n : Int)
    · have d1 : decide (k ≥ (n : Int)) = true := decide_eq_true h1
      clear hv h h0 h1
      go_enter Try.func16, Try.ntmps16
      go_wp2_with fail
      go_quiet (fail)
      go_wp2_with fail
      go_ret
      exact ⟨rfl, _, rfl⟩
    · obtain ⟨j, rfl⟩ : ∃ j : Nat, k = j := ⟨k.toNat, by omega⟩
      have hj : j < n := by omega
      obtain ⟨a, cap, c2, hs, _⟩ := hv.row j hj
      have hl : room ≤ (B j).length := by
        unfold canB at h
        rw [hasZ_lt hj, Bool.true_and, Int.toNat_natCast] at h
        have := of_decide_eq_false h
        omega
      have d1 : decide ((j : Int) ≥ (n : Int)) = false := decide_eq_false (by omega)
      have d2 : decide (((B j).length : Int) ≥ (room : Int)) = true := decide_eq_true (by omega)
      have i0 : (0 : Int) ≤ (j : Int) := by omega
      have i1 : (j : Int) < (n : Int) := by omega
      clear hv h h0 h1 hs
      go_enter Try.func16, Try.ntmps16
      go_wp2_with fail
      go_quiet (fail)
      go_wp2_with fail
      go_ret
      exact ⟨rfl, _, rfl⟩

theorem rp_get_no (hA : RpAt W N p F n room B) (k : Int) (h : hasB n B k = false) :
    Calls Try.prog 18 #[.pointer (some ⟨p, 0, none⟩), .int .i64 k] W fun e w' => e = .returned (.tuple #[.int .i64 0, .bool false]) ∧ ∃ q, w' = W.drewN q := by
  obtain ⟨b, hv⟩ := hA
  have c0 := hv.c0
  have c1 := hv.c1
  by_cases h0 : k < 0
  · have d0 : decide (k < 0) = true := decide_eq_true h0
    clear hv h h0
    go_enter Try.func18, Try.ntmps18
    go_wp2_with fail
    go_ret2
    exact ⟨rfl, 0, rfl⟩
  · have d0 : decide (k < 0) = false := decide_eq_false h0
    by_cases h1 : k ≥ (n : Int)
    · have d1 : decide (k ≥ (n : Int)) = true := decide_eq_true h1
      clear hv h h0 h1
      go_enter Try.func18, Try.ntmps18
      go_wp2_with fail
      go_ret2
      exact ⟨rfl, 0, rfl⟩
    · obtain ⟨j, rfl⟩ : ∃ j : Nat, k = j := ⟨k.toNat, by omega⟩
      have hj : j < n := by omega
      obtain ⟨a, cap, c2, hs, _⟩ := hv.row j hj
      have hl : B j = [] := by
        unfold hasB at h
        rw [hasZ_lt hj, Bool.true_and, Int.toNat_natCast] at h
        cases e : B j with
        | nil => rfl
        | cons x t => rw [e] at h; simp at h
      rw [hl, List.length_nil] at c2
      have d1 : decide ((j : Int) ≥ (n : Int)) = false := decide_eq_false (by omega)
      have i0 : (0 : Int) ≤ (j : Int) := by omega
      have i1 : (j : Int) < (n : Int) := by omega
      clear hv h h0 h1 hs hl
      go_enter Try.func18, Try.ntmps18
      go_wp2_with fail
      go_ret2
      exact ⟨rfl, 0, rfl⟩
end

end Go.Proofs.Ytedfiejocajpkaa
