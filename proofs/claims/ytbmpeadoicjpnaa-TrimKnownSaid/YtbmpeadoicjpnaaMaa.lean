/-
  Texts of this claim, put together.
-/
import Derived.Test.YtbmpeadoicjpnaaRows
import Derived.WalkKit

/-
  What lies below; cells.
-/
namespace Go.Proofs.Ytbmpeadoicjpnaa
open Go.RowKit

theorem below_alloc {w w' : World} (h : Below w.heap.size w w') (o : Obj) : Below w.heap.size w (w'.alloc o) := h.alloc h.size o
theorem drew_below (w : World) : Below w.heap.size w w.drew := ⟨rfl, rfl, rfl, Nat.le_refl _, fun _ _ => rfl⟩
theorem cell_lt {w : World} {a : Addr} {u : Value} (h : w.cell? a = some u) : a.block < w.heap.size := World.block_lt_of_cell? _ _ h
theorem cell_go {w w' : World} {a : Addr} {u : Value} (h : w.cell? a = some u) (hb : Below w.heap.size w w') : w'.cell? a = some u := (hb.cell (cell_lt h)).trans h

end Go.Proofs.Ytbmpeadoicjpnaa

/-
  What an int takes.
-/
namespace Go.Proofs.Ytbmpeadoicjpnaa
open Go.RowKit

theorem Try.infoI : (Try.prog.info? 3).map (fun i => (i.zero, i.size, i.bytes)) = some (some (.int .i64 0), 1, 8) := by kernel_rfl

end Go.Proofs.Ytbmpeadoicjpnaa
