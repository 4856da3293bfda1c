/-
  A region that begins with a select, in a walk of the kit's.
-/
import Derived.Test.YtedfiejocajpkaaRows
import Derived.Conc.LoneCalls
import Derived.Conc.LoneSelect
import Derived.WalkKit
namespace Go.Proofs.Ytedfiejocajpkaa
open Go.Conc Go.RowKit

/-- An operation that is a communication is handed up to the machine, whatever kind of call the frame is of. -/
theorem stepG_comm_any {P : Program} {b : Frame} {a : Act} {k : List Item} {cs : List Frame} {w : World} {ops : Array Oper} {i : Nat} {rest : List Nat} {o : Oper} {cases : Array CommCase} {blocking : Bool} {shape : CommShape} {w' : World}
    (ho : ops[i]? = some o) (hw : Region.wanted o (yielded ops a.tmps) = true) (hr : (execOp a.eval o).run P w = .ok (.comm cases blocking shape) w') :
    ∃ es, stepG P true (G (b.at a (.inRegion ops (i :: rest) :: k)) cs) w = .comm (G (b.at a (.inRegion ops (i :: rest) :: k)) cs) cases blocking shape w' es := by
  rw [stepG_oper ho hw]
  simp [stepG.apply, hr, G, Frame.at, GStep.after]

/-- The region's first operation is a select that hands over r and leaves the world w2; then the rest. -/
theorem wp_region_sel {P : Program} {id : Nat} {o : Oper} {l : List Oper} {Q : Exit → Act → World → Prop} {a : Act} {w w1 w2 : World} {cases : Array CommCase} {blocking : Bool} {shape : CommShape} {r : Value}
    (hg : o.guard = none) (hr : (execOp a.eval o).run P w = .ok (.comm cases blocking shape) w1)
    (hstep : ∀ fr cs es, stepG P true (G fr cs) w = .comm (G fr cs) cases blocking shape w1 es → step P (solo (G fr cs) w) = .next (solo (G (fr.finish r) cs) w2))
    (h : wpList P (o :: l).toArray Q l (a.put o.dst r) w2) : (Code.region id (o :: l).toArray false).wp P Q a w := by
  intro b k cs
  have h0 : (o :: l).toArray[0]? = some o := by simp
  have hw : Region.wanted o (yielded (o :: l).toArray a.tmps) = true := by simp [Region.wanted, hg]
  rw [← wpOps_eq_wpList l 1 (by intro j; rw [Nat.add_comm]; simp)] at h
  obtain ⟨e, a', w', hq, harr⟩ := wp_ops _ _ _ h b k cs
  refine ⟨e, a', w', hq, .of_steps ?_ harr⟩
  have hs : step P (lone (b.at a (.code (.region id (o :: l).toArray false) :: k)) cs w) = .next (lone (b.at a (.inRegion (o :: l).toArray (0 :: List.range' 1 l.length) :: k)) cs w) := by
    rw [step_region, List.range_eq_range']
    rfl
  obtain ⟨es, hc⟩ := stepG_comm_any (P := P) (b := b) (a := a) (k := k) (cs := cs) (w := w) (rest := List.range' 1 l.length) h0 hw hr
  have h2 := hstep _ _ _ hc
  rw [Frame.finish_at, h0] at h2
  exact Steps.head hs (Steps.head h2 (Steps.refl _ _))

/-- len of the nil channel, and of one whose block is known. -/
theorem len_chan_nil {P : Program} {w : World} {dir : ChanDir} {e : TypeId} (t ty : TypeId) (ht : P.underlying t = some (.chan dir e)) : (Builtin.len_ #[t] ty #[.chan none]).run P w = .ok (.int .i64 0) w := by
  simp [Builtin.len_, run_underlying ht]
  rfl
theorem len_chan {P : Program} {w : World} {dir : ChanDir} {e : TypeId} {c cap s r : Nat} {buf : Array Value} {closed : Bool} (t ty : TypeId) (ht : P.underlying t = some (.chan dir e)) (hc : w.heap[c]? = some (.chan cap buf closed s r false)) :
    (Builtin.len_ #[t] ty #[.chan (some c)]).run P w = .ok (.int .i64 (buf.size : Int)) w := by
  simp [Builtin.len_, run_underlying ht, run_getObj_chan _ _ hc]
  rfl

theorem setChan_other (w : World) (c c' cap : Nat) (buf : Array Value) (closed : Bool) (s r : Nat) (tm : Bool) (h : c ≠ c') : (w.setChan c cap buf closed s r tm).heap[c']? = w.heap[c']? := by
  simp [World.setChan, Array.getElem?_setIfInBounds_ne h]

end Go.Proofs.Ytedfiejocajpkaa
