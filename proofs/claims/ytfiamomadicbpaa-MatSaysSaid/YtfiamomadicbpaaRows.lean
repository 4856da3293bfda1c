/-
  No cell of these rows narrows 'for every input' (looked for: loops, veiled, ifaces, maps, wideKeys, modest, calm, conditions, laid).
  DERIVED. THE GIVEN ROWS OF THIS SEAT. 4 by the template 'for every input the law returns true; each argument reads behind the call as it read before'; 0 by the template 'total and deterministic' (their statements: YtfiamomadicbpaaTotals.lean).
  GIVEN WITH THE SEED: the statements are not yours to turn. If you find one false, say at which input.
  Laid BY PROGRAM, IN A SANDBOX (cutbox-rows.mjs): the forced cells as the released guide's own fill.sh prints them over the translation 91da87875409439c… (all of the seat's roots in one cut). By AI agents, Wed Nov 11 2026. No macro, syntax, notation, axiom, sorry.
-/
import Derived.Test.YtfiamomadicbpaaChecked
import GoSem.Claim
import GoSem.ClaimJoined
import GoSem.ClaimMapViews
import Derived.JoinedTies
import Derived.KernelRfl
namespace Go.Proofs.Ytfiamomadicbpaa
/- THE CELL 'sum', in the pinned program and in every row, IS THE sha256 OF THE DUMP (.gsa) THAT YtfiamomadicbpaaProg.lean LOADS. Nothing in Lean hashes anything: it is a label: what it is worth is what the hold of that sum in a sandbox is worth. -/
noncomputable def Try.pinned : Pinned := { name := "ytfiamomadicbpaa", sum := "91da87875409439c7c756ed467d4e291e1469fd255ecb6c0930f1e565a632bb7", checked := Try.checked }
namespace Rows
def none {H : Type} : Left H := { results := [], args := [] }

/-- 'shoallaw16.MatKnown': WHATEVER THE INPUT: true; the input reads as it did. -/
def matKnownSpec : ChangeSpec := { name := "matKnown", fn := fun _ => fun
  | [] => { results := [.lit (.bool true)], args := [] }
  | _ => none }
def matKnownRow : OpenClaim := { program := "ytfiamomadicbpaa", sum := "91da87875409439c7c756ed467d4e291e1469fd255ecb6c0930f1e565a632bb7", func := "shoal/shoallaw16.MatKnown", spec := "matKnown", unfollowed := true, recurses := true, apart := false }
def MatKnownSaid : Prop := matKnownRow.holds Try.pinned (OpenSpec.ofChange matKnownSpec)

/-- ITS FALSE NEIGHBOUR: 'it returns false'. Refute it at one input. -/
def matKnownWrong : ChangeSpec := { name := "matKnown", fn := fun _ => fun
  | [] => { results := [.lit (.bool false)], args := [] }
  | _ => none }
def MatKnownWrongFalsely : Prop := matKnownRow.holds Try.pinned (OpenSpec.ofChange matKnownWrong)

/-- 'shoallaw16.MatSays': WHATEVER THE INPUT: true; the input reads as it did. -/
def matSaysSpec : ChangeSpec := { name := "matSays", fn := fun _ => fun
  | [d1, d2, d3, d4, d5, d6] => { results := [.lit (.bool true)], args := [d1, d2, d3, d4, d5, d6] }
  | _ => none }
def matSaysRow : OpenClaim := { program := "ytfiamomadicbpaa", sum := "91da87875409439c7c756ed467d4e291e1469fd255ecb6c0930f1e565a632bb7", func := "shoal/shoallaw16.MatSays", spec := "matSays", unfollowed := true, recurses := true, apart := false }
def MatSaysSaid : Prop := matSaysRow.holds Try.pinned (OpenSpec.ofChange matSaysSpec)

/-- ITS FALSE NEIGHBOUR: 'it returns false'. Refute it at one input. -/
def matSaysWrong : ChangeSpec := { name := "matSays", fn := fun _ => fun
  | [d1, d2, d3, d4, d5, d6] => { results := [.lit (.bool false)], args := [d1, d2, d3, d4, d5, d6] }
  | _ => none }
def MatSaysWrongFalsely : Prop := matSaysRow.holds Try.pinned (OpenSpec.ofChange matSaysWrong)

/-- 'shoallaw16.MatJoins': WHATEVER THE INPUT: true; the input reads as it did. -/
def matJoinsSpec : ChangeSpec := { name := "matJoins", fn := fun _ => fun
  | [d1, d2, d3] => { results := [.lit (.bool true)], args := [d1, d2, d3] }
  | _ => none }
def matJoinsRow : OpenClaim := { program := "ytfiamomadicbpaa", sum := "91da87875409439c7c756ed467d4e291e1469fd255ecb6c0930f1e565a632bb7", func := "shoal/shoallaw16.MatJoins", spec := "matJoins", unfollowed := true, recurses := true, apart := false }
def MatJoinsSaid : Prop := matJoinsRow.holds Try.pinned (OpenSpec.ofChange matJoinsSpec)

/-- ITS FALSE NEIGHBOUR: 'it returns false'. Refute it at one input. -/
def matJoinsWrong : ChangeSpec := { name := "matJoins", fn := fun _ => fun
  | [d1, d2, d3] => { results := [.lit (.bool false)], args := [d1, d2, d3] }
  | _ => none }
def MatJoinsWrongFalsely : Prop := matJoinsRow.holds Try.pinned (OpenSpec.ofChange matJoinsWrong)

/-- 'shoallaw16.MatUps': WHATEVER THE INPUT: true; the input reads as it did. -/
def matUpsSpec : ChangeSpec := { name := "matUps", fn := fun _ => fun
  | [d1, d2, d3] => { results := [.lit (.bool true)], args := [d1, d2, d3] }
  | _ => none }
def matUpsRow : OpenClaim := { program := "ytfiamomadicbpaa", sum := "91da87875409439c7c756ed467d4e291e1469fd255ecb6c0930f1e565a632bb7", func := "shoal/shoallaw16.MatUps", spec := "matUps", unfollowed := true, recurses := true, apart := false }
def MatUpsSaid : Prop := matUpsRow.holds Try.pinned (OpenSpec.ofChange matUpsSpec)

/-- ITS FALSE NEIGHBOUR: 'it returns false'. Refute it at one input. -/
def matUpsWrong : ChangeSpec := { name := "matUps", fn := fun _ => fun
  | [d1, d2, d3] => { results := [.lit (.bool false)], args := [d1, d2, d3] }
  | _ => none }
def MatUpsWrongFalsely : Prop := matUpsRow.holds Try.pinned (OpenSpec.ofChange matUpsWrong)

/- THE SECOND FORM. 'bulk': how many values and letters a reading holds, each counted each time it is reached (what is shared counts as often as it is met; a slice's spare places count too). A statement '..UptoSaid' is the law's where the arguments, and the package variables that the reading takes, are together of bulk at most 1048576: NARROWER than '..Said'. Prove '..Said' where nothing that the law and all that it calls make is longer than what came in: it says more and counts as full. Else prove '..UptoSaid'. A law counts once. -/
mutual
def uptoBulk {H : Type} : DataW H → Nat
  | .lit (.string bytes) => bytes.length + 1
  | .lit _ => 1
  | .nil => 1
  | .ptr d => uptoBulk d + 1
  | .slice elems spare => uptoBulkAll elems + uptoBulkAll spare + 1
  | .agg parts => uptoBulkAll parts + 1
  | .iface _ d => uptoBulk d + 1
  | .map entries => uptoBulkEntries entries + 1
  | .held _ => 1
def uptoBulkAll {H : Type} : List (DataW H) → Nat
  | [] => 0
  | d :: r => uptoBulk d + uptoBulkAll r
def uptoBulkEntries {H : Type} : List (Lit × DataW H) → Nat
  | [] => 0
  | x :: r => uptoBulkEntry x + uptoBulkEntries r
def uptoBulkEntry {H : Type} : Lit × DataW H → Nat
  | (.string bytes, d) => bytes.length + uptoBulk d + 1
  | (_, d) => uptoBulk d + 1
 end
def uptoSmall : (H : Type) → List (DataW H) → Bool := fun _ ds => decide (uptoBulkAll ds ≤ 1048576)
def OpenSpec.upto (s : _root_.Go.ChangeSpec) : _root_.Go.OpenSpec := { _root_.Go.OpenSpec.ofChange s with cond := some uptoSmall }

/-- 'shoallaw16.MatKnown', WHERE WHAT IT READS IS OF BULK AT MOST 1048576: true; the input reads as it did. -/
def matKnownUptoRow : OpenClaim := { program := "ytfiamomadicbpaa", sum := "91da87875409439c7c756ed467d4e291e1469fd255ecb6c0930f1e565a632bb7", func := "shoal/shoallaw16.MatKnown", spec := "matKnown", unfollowed := true, recurses := true, apart := false, narrowed := true }
def MatKnownUptoSaid : Prop := matKnownUptoRow.holds Try.pinned (OpenSpec.upto matKnownSpec)

/-- 'shoallaw16.MatSays', WHERE WHAT IT READS IS OF BULK AT MOST 1048576: true; the input reads as it did. -/
def matSaysUptoRow : OpenClaim := { program := "ytfiamomadicbpaa", sum := "91da87875409439c7c756ed467d4e291e1469fd255ecb6c0930f1e565a632bb7", func := "shoal/shoallaw16.MatSays", spec := "matSays", unfollowed := true, recurses := true, apart := false, narrowed := true }
def MatSaysUptoSaid : Prop := matSaysUptoRow.holds Try.pinned (OpenSpec.upto matSaysSpec)

/-- 'shoallaw16.MatJoins', WHERE WHAT IT READS IS OF BULK AT MOST 1048576: true; the input reads as it did. -/
def matJoinsUptoRow : OpenClaim := { program := "ytfiamomadicbpaa", sum := "91da87875409439c7c756ed467d4e291e1469fd255ecb6c0930f1e565a632bb7", func := "shoal/shoallaw16.MatJoins", spec := "matJoins", unfollowed := true, recurses := true, apart := false, narrowed := true }
def MatJoinsUptoSaid : Prop := matJoinsUptoRow.holds Try.pinned (OpenSpec.upto matJoinsSpec)

/-- 'shoallaw16.MatUps', WHERE WHAT IT READS IS OF BULK AT MOST 1048576: true; the input reads as it did. -/
def matUpsUptoRow : OpenClaim := { program := "ytfiamomadicbpaa", sum := "91da87875409439c7c756ed467d4e291e1469fd255ecb6c0930f1e565a632bb7", func := "shoal/shoallaw16.MatUps", spec := "matUps", unfollowed := true, recurses := true, apart := false, narrowed := true }
def MatUpsUptoSaid : Prop := matUpsUptoRow.holds Try.pinned (OpenSpec.upto matUpsSpec)

end Rows
end Go.Proofs.Ytfiamomadicbpaa
