/-
  One is taken out of a row of its own: slices.Delete at []int.
-/
import Derived.Test.YtkbenpfcnhijnaaVlan
import Derived.Shelf.SlicesE.Delete
import Derived.Lib.OwnBridge
namespace Go.Proofs.Ytkbenpfcnhijnaa
open Go.RowKit Go.Lib Go.Sort Go.Shelf

theorem li_info : (Try.prog.info? 3).map (fun i => (i.zero, i.size, i.bytes)) = some (some (.int .i64 0), 1, 8) := by kernel_rfl

def li_ren : Ren := ⟨fun _ => 42, fun n => match n with | 0 => 0 | 3 => 3 | 4 => 4 | 22 => 33 | _ => 3, fun _ => 0⟩

theorem li_laid : SlLaysE.n45 Try.prog li_ren where
  mixed := by kernel_rfl
  f45 := ⟨Try.f42.name, by kernel_rfl, Try.func42.trans (congrArg some (by kernel_rfl))⟩
  t0 := Try.underlying0
  a0 := Try.isAgg0
  z0 := Try.sizeOf0
  v0 := Try.zeroValue0
  t3 := Try.underlying3
  a3 := Try.isAgg3
  z3 := Try.sizeOf3
  v3 := Try.zeroValue3
  t4 := Try.underlying4
  a4 := Try.isAgg4
  z4 := Try.sizeOf4
  v4 := Try.zeroValue4
  t22 := Try.underlying33
  a22 := Try.isAgg33
  z22 := Try.sizeOf33
  v22 := Try.zeroValue33
  a23 := Try.isAgg3
  z23 := Try.sizeOf3

/-- What is left owns its row; nothing else has turned. -/
def li_DelPost (W : World) (N : Nat) (v : Value) (l : List Int) (E : Ending) (w' : World) : Prop :=
  ∃ a cap, E = .returned (.slice a l.length cap) ∧ w'.ownsRow N 3 1 (.slice a l.length cap) l.length (l.map iV) ∧ W.grownBy w' v.ownBlock ∧ (Value.slice a l.length cap).ownBlock = v.ownBlock

theorem li_del (W : World) (N : Nat) (v : Value) (l : List Int) (k : Nat) (hk : k < l.length) (ho : W.ownsRow N 3 1 v l.length (l.map iV)) :
    Calls Try.prog 42 #[v, .int .i64 (k : Nat), .int .i64 ((k : Int) + 1)] W (li_DelPost W N v (cutL l k)) := by
  have : Inhabited Int := ⟨0⟩
  rw [show ((k : Int) + 1) = ((k + 1 : Nat) : Int) by omega]
  obtain ⟨i0, hi0, hz0, hz1, hz2⟩ := info_parts li_info
  have hv : v ≠ .slice none 0 0 := by
    rintro rfl
    rcases ho.2 with ⟨_, h0⟩ | ⟨g, cap, cur, h0, _⟩
    · omega
    · cases h0
  obtain ⟨g, cap, rfl, hN, hg, hfit, hmax, _, hH⟩ := holds_of_ownsRow ho hv
  have hc := AnyE.slices_Delete li_laid iV (fun _ => rfl) 0 Try.zeroValue3 i0 hi0 hz1 g 0 cap k (k + 1) l.toArray W hH (by simpa using hfit) (by unfold maxLen at hmax; omega) (by omega) (by simp; omega)
  refine hc.mono ?_
  rintro E w' ⟨rfl, q, rfl⟩
  have hlen : (cutL l k).length = l.length - 1 := cutL_len hk
  have hys : (l.take k ++ l.drop (k + 1) ++ List.replicate (k + 1 - k) (0 : Int)).length = l.length := by
    rw [List.length_append, List.length_append, List.length_take, List.length_drop, List.length_replicate]; omega
  have ht : (l.take k ++ l.drop (k + 1) ++ List.replicate (k + 1 - k) (0 : Int)).take (l.length - 1) = cutL l k := by
    rw [← hlen]
    exact List.take_left
  have hown := ownsRow_putRow (q := q) (k := l.length - 1) ho hys (by omega)
  rw [ht] at hown
  refine ⟨some ⟨g, 0, none⟩, cap, ?_, ?_, ?_, rfl⟩
  · rw [hlen]; simp
  · rw [hlen]; exact hown
  · have hb : Below g W (putRow iV (Sort.ahead W q) g 0 (l.take k ++ l.drop (k + 1) ++ List.replicate (k + 1 - k) (0 : Int)).toArray) := below_putRow (Below.refl _ _) (Nat.le_refl _)
    exact ⟨rfl, rfl, rfl, by simp [putRow, mapBlock, Sort.ahead], fun j hj hne => by
      have : g ≠ j := fun e => hne (by simp [Value.ownBlock, e])
      simp [putRow, mapBlock, Sort.ahead, Array.getElem?_modify, this]⟩

end Go.Proofs.Ytkbenpfcnhijnaa
