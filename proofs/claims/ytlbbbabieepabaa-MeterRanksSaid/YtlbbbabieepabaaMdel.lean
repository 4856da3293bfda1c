/-
  The last of a row of runs is taken off.
-/
import Derived.Test.YtlbbbabieepabaaMmerge
namespace Go.Proofs.Ytlbbbabieepabaa
open Go.RowKit

theorem Try.infoR : (Try.prog.info? 58).map (fun i => (i.zero, i.size, i.bytes)) = some (some (.slice none 0 0), 1, 24) := by kernel_rfl

theorem clear_one (g n c : Nat) (w : World) (u : Value) (hu : w.cell? ⟨g, n, none⟩ = some u) (hf : w.frozen? ⟨g, n, none⟩ = false) :
    (Builtin.clear_ #[49] 0 #[.slice (some ⟨g, n, none⟩) 1 c]).run Try.prog w = .ok (.tuple #[]) (w.setCell ⟨g, n, none⟩ (.slice none 0 0)) := by
  have hz : ∀ w, (zeroValue 58).run Try.prog w = .ok (.slice none 0 0) w := fun w => by kernel_rfl
  have hc : (Builtin.zeroCells (Value.slice none 0 0).cells 1).toList = [.slice none 0 0] := by kernel_rfl
  have h1 : ∀ j, j < ([.slice none 0 0] : List Value).length → (w.cell? ⟨g, n + 0 + j, none⟩).isSome = true := by
    intro j hj
    have : j = 0 := by simpa using hj
    subst this
    simp [hu]
  have h2 : ∀ j, j < ([.slice none 0 0] : List Value).length → w.frozen? ⟨g, n + 0 + j, none⟩ = false := by
    intro j hj
    have : j = 0 := by simpa using hj
    subst this
    simpa using hf
  have hst := run_storeCells_cells (P := Try.prog) g n [.slice none 0 0] 0 w (by simpa using h1) (by simpa using h2) (by simp [Value.oneCell'])
  simp only [Nat.add_zero] at hst
  simp [Builtin.clear_, run_underlying Try.underlying49, hz, hc, hst, World.setCells]

def DelPost (W : World) (g n cap : Nat) (e : Ending) (w' : World) : Prop :=
  ∃ q, e = .returned (.slice (some ⟨g, 0, none⟩) n cap) ∧ w' = (W.drewN q).setCell ⟨g, n, none⟩ (.slice none 0 0)

set_option maxHeartbeats 2000000 in
theorem delete_last (g n cap : Nat) (w : World) (hn : n < 200) (hcap : n + 1 ≤ cap) (hm : cap ≤ maxLen) (hc : (w.cell? ⟨g, n, none⟩).isSome = true) (hf : w.frozen? ⟨g, n, none⟩ = false) :
    Calls Try.prog 49 #[.slice (some ⟨g, 0, none⟩) (n + 1) cap, .int .i64 (n : Nat), .int .i64 ((n + 1 : Nat) : Int)] w (DelPost w g n cap) := by
  obtain ⟨i0, hi0, hz0, hz1, hz2⟩ := info_parts Try.infoR
  obtain ⟨u, hu⟩ := Option.isSome_iff_exists.1 hc
  have hne : ((n : Int) == ((n + 1 : Nat) : Int)) = false := by simp; omega
  have hm' : cap ≤ 9223372036854775807 := by unfold maxLen at hm; omega
  have hnc : n ≤ cap := by omega
  have t2 : ((n : Int) + 1).toNat = n + 1 := by omega
  have t3 : (0 : Int) ≤ (n : Int) + 1 := by omega
  have t1 : ((n + 1 : Nat) : Int).toNat = n + 1 := by omega
  have HS2 : Hid (∀ j, j < ([] : List Value).length → (w.drew.cell? ⟨g, 0 + n * 1 + j, none⟩).isSome = true ∧ w.drew.frozen? ⟨g, 0 + n * 1 + j, none⟩ = false) := fun j hj => by simp at hj
  obtain ⟨A, hA⟩ : ∃ A : Addr, (if cap = n + 1 then some (⟨g, 0, none⟩ : Addr) else some ⟨g, n + 1, none⟩) = some A := by split <;> exact ⟨_, rfl⟩
  have hclr := clear_one g n (cap - n) (w.drew.setCells g n []) u hu hf
  clear hc
  go_enter Try.func49, Try.ntmps49
  go_wp2_with fail
  go_region_law (refine step_append_room rfl (.tmp 22) (.tmp 25) 49 rfl 58 i0 1 Try.underlying49 hi0 hz1 g 0 n cap (by simp [Act.eval, Act.put]) A 0 (cap - (n + 1)) [] (by simp [Act.eval, Act.put]) rfl (by simp) (by simp) (by omega) HS2.out ?_)
  all_goals go_wp2_with fail
  go_ret
  exact ⟨1, rfl, rfl⟩

end Go.Proofs.Ytlbbbabieepabaa
