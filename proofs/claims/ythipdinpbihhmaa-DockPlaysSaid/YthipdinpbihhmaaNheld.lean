/-
  Held.
-/
import Derived.Test.YthipdinpbihhmaaNtake
namespace Go.Proofs.Ythipdinpbihhmaa
open Go.RowKit

/-- The numbers that are held. -/
def Dk.nums (S : Dk) : List Nat := S.held.map (·.1)
def HeldPost (W : World) (S : Dk) (e : Ending) (w : World) : Prop :=
  ∃ (a : Option Addr) (cap : Nat), e = .returned (.slice a S.nums.length cap) ∧ SlV w a cap (S.nums.map uN) ∧ (∀ ad, a = some ad → W.heap.size ≤ ad.block) ∧ Below W.heap.size W w

theorem nums_same {ns ms : List Nat} (h1 : ns.Pairwise (· < ·)) (h2 : ms.Pairwise (· < ·)) (h : ∀ x, x ∈ ns ↔ x ∈ ms) : ns = ms := by
  refine List.Perm.eq_of_pairwise (le := fun a b => a < b) (fun a b _ _ h3 h4 => by omega) h1 h2 ((List.perm_ext_iff_of_nodup ?_ ?_).2 h)
  · exact h1.imp (fun h => by omega)
  · exact h2.imp (fun h => by omega)

theorem nums_up {lo hi : Nat} {l : List (Nat × ByteArray)} (h : Up lo hi l) : (l.map (·.1)).Pairwise (· < ·) := by
  rw [List.pairwise_map]
  exact h.1
theorem mem_keys {β : Type} {n : Nat} {l : List (Nat × β)} : n ∈ l.map (·.1) ↔ (l.lookup n).isSome = true := by
  cases h : l.lookup n with
  | none =>
    have := lookup_none.1 h
    simp only [Option.isSome_none, Bool.false_eq_true, iff_false, List.mem_map]
    rintro ⟨x, hx, rfl⟩
    exact this x hx rfl
  | some b =>
    simp only [Option.isSome_some, iff_true, List.mem_map]
    induction l with
    | nil => simp at h
    | cons x t ih =>
      rw [lookup_cons'] at h
      by_cases e : n = x.1
      · exact ⟨x, List.mem_cons_self .., e.symm⟩
      · rw [if_neg e] at h
        obtain ⟨y, hy, e2⟩ := ih h
        exact ⟨y, List.mem_cons_of_mem _ hy, e2⟩

section
variable {W : World} {p q M : Nat} {S : Dk}
set_option maxHeartbeats 2000000 in
theorem held_any {c : Nat} (h : DkAt W p q M S) (hS : S.ok c) : Calls Try.prog 11 #[.pointer (some ⟨p, 0, none⟩)] W (HeldPost W S) := by
  obtain ⟨E, hE, hH⟩ := h
  obtain ⟨c0, c1, c2⟩ := hE.cells
  obtain ⟨D, hD, hV⟩ := hE.map
  have hl : Maps.size D ≤ 15 := by
    rw [hV.size, ← mapN_len Bd.s, hH]
    exact hS.len.1
  have hbx : Below W.heap.size W (W.alloc (.cells #[.map (some q)] 54)) := (Below.refl _ _).alloc (Nat.le_refl _) _
  have C := Lib.hid (sorted_any (Bm := W.heap.size) (R := anyR) (D := D) (W.alloc (.cells #[.map (some q)] 54)) (by simp) (by simp) (ownsMap_block hD (hbx.block q (Nat.lt_of_lt_of_le hE.qM hE.size))) hl)
  have E := Lib.hid (fun (w : World) (a : Option Addr) (cap : Nat) (ns : List Nat) (h1 : ns.Pairwise (· < ·)) (h2 : ∀ x, x ∈ ns ↔ Maps.has D (kN x) = true) (h3 : SlV w a cap (ns.map uN)) (h5 : ∀ ad, a = some ad → (W.alloc (.cells #[.map (some q)] 54)).heap.size ≤ ad.block) (h4 : Below (W.alloc (.cells #[.map (some q)] 54)).heap.size (W.alloc (.cells #[.map (some q)] 54)) w) =>
    show HeldPost W S (.returned (.slice a ns.length cap)) w from by
      have e : ns = S.nums := nums_same h1 (nums_up hS.up) (fun x => by
        rw [h2, hV.has, Dk.nums, mem_keys, ← hH, mapN_lookup, Option.isSome_map])
      subst e
      exact ⟨a, cap, rfl, h3, fun ad e => Nat.le_trans hbx.size (h5 ad e), hbx.trans (h4.mono hbx.size)⟩)
  clear hE hD hV hl hbx hH c0 c1
  go_enter Try.func11, Try.ntmps11
  go_wp2_with (first
    | (go_at_call 21; refine (keys_call (some q) W).mono ?_; rintro e w' ⟨rfl, rfl⟩)
    | (go_at_call 20; refine C.out.mono ?_; rintro e w' ⟨a, cap, ns, rfl, h1, h2, h3, h5, h4⟩; have RR := Lib.hid (E.out w' a cap ns h1 h2 h3 h5 h4); clear h1 h2 h3 h4 h5))
  go_ret
  exact RR.out
end
end Go.Proofs.Ythipdinpbihhmaa
