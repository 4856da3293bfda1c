/-
  Items alike: what the program's calls give, and what the document's give.
-/
import Derived.Test.YtmahbmmeeifaiaaGops
import Derived.Test.YtmahbmmeeifaiaaGrak
namespace Go.Proofs.Ytmahbmmeeifaiaa
open Go.RowKit

def ItemsRel (W : World) (n : Nat) (i : Value) (wr : World) : Prop := ∃ k q, k ≤ n ∧ i = .int .i64 ((k : Nat) : Int) ∧ wr = W.drewN q

set_option maxRecDepth 20000 in
set_option maxHeartbeats 4000000 in
theorem items_is (W : World) (A B : Nat → Prop) (a1 a2 : Option Addr) (n c1 c2 g : Nat) (ss : List ByteArray) (h1 : ItR A W (.slice a1 n c1) g ss) (h2 : RtR B W (.slice a2 n c2) g ss) :
    Calls Try.prog 14 #[.slice a1 n c1, .slice a2 n c2] W fun E w' => E = .returned (.bool true) ∧ ∃ q, w' = W.drewN q := by
  obtain ⟨a, cap, L, e1, e2, r1, bo⟩ := h1
  obtain ⟨a', cap', e3, r2⟩ := h2
  simp only [Value.slice.injEq] at e1 e3
  obtain ⟨rfl, hn1, rfl⟩ := e1
  obtain ⟨rfl, hn2, rfl⟩ := e3
  rw [← hn1] at r1
  rw [← hn2] at r2
  have R1 := Lib.hid r1
  have R2 := Lib.hid r2
  have BO := Lib.hid bo
  have E2 := Lib.hid e2
  have N1 := Lib.hid hn1
  have N2 := Lib.hid hn2
  have hfit := r1.fit
  have hmax := r1.max
  unfold maxLen at hmax
  clear r1 r2 bo e2 hn1 hn2
  go_enter Try.func14, Try.ntmps14
  go_wp2_with fail
  go_loopw [5] (fun i wr => ItemsRel W n i wr) (fun i _ => n - (intOf i).toNat)
  case atStart => exact ⟨0, 0, Nat.zero_le _, rfl, rfl⟩
  case round =>
    obtain ⟨k, q, hk, rfl, rfl⟩ := hrel
    by_cases hlt : k < n
    · have hk1 : k < L.length := by rw [← N1.out]; exact hlt
      have hk2 : k < ss.length := by rw [← N2.out]; exact hlt
      obtain ⟨u0, u1⟩ := itC_at k g L hk1
      obtain ⟨v0, v1⟩ := itS_at k g ss hk2
      obtain ⟨b1, o1, rfl, hb1, -, k0⟩ := R1.out.cell _ _ u0
      obtain ⟨b1', o1', e1, -, -, k1⟩ := R1.out.cell _ _ u1
      cases e1
      obtain ⟨b2, o2, rfl, hb2, -, m0⟩ := R2.out.cell _ _ v0
      obtain ⟨b2', o2', e2, -, -, m1⟩ := R2.out.cell _ _ v1
      cases e2
      have hs : L[k].s = ss[k] := by
        have := E2.out
        subst this
        rw [List.getElem_map]
      obtain ⟨num, hnum⟩ : ∃ num, g + k + 1 = num := ⟨_, rfl⟩
      obtain ⟨s, hs2⟩ : ∃ s, ss[k] = s := ⟨_, rfl⟩
      obtain ⟨bd, hbd⟩ : ∃ bd, L[k] = bd := ⟨_, rfl⟩
      have hB := BO.out L[k] (List.getElem_mem _)
      rw [hnum] at k0 m0
      rw [hs2] at hs m1
      rw [hbd] at hs k1 hB
      obtain ⟨ab, cb, sb⟩ := bd
      have hs' : sb = s := hs
      subst hs'
      have y0 : ∀ q, (W.drewN q).cell? ⟨b1, o1 + k * 2, none⟩ = some (.int .u64 (num : Int)) := fun _ => k0
      have y1 : ∀ q, (W.drewN q).cell? ⟨b1, o1 + k * 2 + 1, none⟩ = some (.slice ab sb.size cb) := fun _ => k1
      have y2 : ∀ q, (W.drewN q).cell? ⟨b2, o2 + k * 2, none⟩ = some (.int .u64 (num : Int)) := fun _ => m0
      have y3 : ∀ q, (W.drewN q).cell? ⟨b2, o2 + k * 2 + 1, none⟩ = some (.string sb) := fun _ => m1
      have w0 : W.cell? ⟨b1, o1 + k * 2, none⟩ = some (.int .u64 (num : Int)) := k0
      have w1 : W.cell? ⟨b1, o1 + k * 2 + 1, none⟩ = some (.slice ab sb.size cb) := k1
      have w2 : W.cell? ⟨b2, o2 + k * 2, none⟩ = some (.int .u64 (num : Int)) := m0
      have w3 : W.cell? ⟨b2, o2 + k * 2 + 1, none⟩ = some (.string sb) := m1
      have cv : ∀ q, (convert 30 9 (.slice ab sb.size cb)).run Try.prog (W.drewN q) = .ok (.string sb) (W.drewN q) := fun q => by
        have := conv_any (w := W.drewN q) (hB.1.below ⟨rfl, rfl, rfl, Nat.le_refl _, fun _ _ => rfl⟩) (bsN_len sb)
        rw [strB_bsN] at this
        exact this
      have i0 : (0 : Int) ≤ (k : Int) := by omega
      have i1 : (k : Int) < (n : Int) := by omega
      clear u0 u1 v0 v1 k0 k1 m0 m1 hnum hs hs2 hbd hB hk1 hk2
      go_wp2_with fail
      go_quiet (fail)
      go_wp2_with fail
      go_roundw
      case rel => exact ⟨k + 1, _, by omega, by go_num, rfl⟩
      case measure => simp only [intOf]; omega
    · obtain rfl : k = n := by omega
      have dk : decide ((k : Int) < (k : Int)) = false := decide_eq_false (by omega)
      go_wp2_with fail
      go_ret
      exact ⟨rfl, _, rfl⟩

end Go.Proofs.Ytmahbmmeeifaiaa
