/-
  Ints, as values of one cell.
-/
import Derived.Test.YtfiamomadicbpaaDnum
import Derived.Test.YtfiamomadicbpaaWsl
import Derived.Deep.AppendLies
import Derived.Laws.AppendOwnNone
import Derived.Laws.BytesArg
import Derived.OwnWalk
import Derived.OneCell
namespace Go.Proofs.Ytfiamomadicbpaa
open Go.RowKit

def iV (x : Int) : Value := .int .i64 x
theorem Try.infoI : (Try.prog.info? 3).map (fun i => (i.zero, i.size, i.bytes)) = some (some (.int .i64 0), 1, 8) := by kernel_rfl

end Go.Proofs.Ytfiamomadicbpaa
