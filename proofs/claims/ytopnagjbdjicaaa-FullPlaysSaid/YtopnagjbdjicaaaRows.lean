/-
  No cell of these rows narrows 'for every input' (looked for: loops, veiled, ifaces, maps, wideKeys, modest, calm, conditions, laid).
  DERIVED. THE GIVEN ROWS OF THIS SEAT. 5 by the template 'for every input the law returns true; each argument reads behind the call as it read before'; 0 by the template 'total and deterministic' (their statements: YtopnagjbdjicaaaTotals.lean).
  GIVEN WITH THE SEED: the statements are not yours to turn. If you find one false, say at which input.
  Laid BY PROGRAM, IN A SANDBOX (cutbox-rows.mjs): the forced cells as the released guide's own fill.sh prints them over the translation 9afbc2d647ec56ef… (all of the seat's roots in one cut). By AI agents, Wed Nov 11 2026. No macro, syntax, notation, axiom, sorry.
-/
import Derived.Test.YtopnagjbdjicaaaChecked
import GoSem.Claim
import GoSem.ClaimJoined
import GoSem.ClaimMapViews
import Derived.JoinedTies
import Derived.KernelRfl
namespace Go.Proofs.Ytopnagjbdjicaaa
/- THE CELL 'sum', in the pinned program and in every row, IS THE sha256 OF THE DUMP (.gsa) THAT YtopnagjbdjicaaaProg.lean LOADS. Nothing in Lean hashes anything: it is a label: what it is worth is what the hold of that sum in a sandbox is worth. -/
noncomputable def Try.pinned : Pinned := { name := "ytopnagjbdjicaaa", sum := "9afbc2d647ec56ef24d07c64f866879ccc90aa4223bdc8d890cab90ed35d3163", checked := Try.checked }
namespace Rows
def none {H : Type} : Left H := { results := [], args := [] }

/-- 'shoallaw17.FullKnown': WHATEVER THE INPUT: true; the input reads as it did. -/
def fullKnownSpec : ChangeSpec := { name := "fullKnown", fn := fun _ => fun
  | [] => { results := [.lit (.bool true)], args := [] }
  | _ => none }
def fullKnownRow : OpenClaim := { program := "ytopnagjbdjicaaa", sum := "9afbc2d647ec56ef24d07c64f866879ccc90aa4223bdc8d890cab90ed35d3163", func := "shoal/shoallaw17.FullKnown", spec := "fullKnown", unfollowed := true, recurses := true, apart := false }
def FullKnownSaid : Prop := fullKnownRow.holds Try.pinned (OpenSpec.ofChange fullKnownSpec)

/-- ITS FALSE NEIGHBOUR: 'it returns false'. Refute it at one input. -/
def fullKnownWrong : ChangeSpec := { name := "fullKnown", fn := fun _ => fun
  | [] => { results := [.lit (.bool false)], args := [] }
  | _ => none }
def FullKnownWrongFalsely : Prop := fullKnownRow.holds Try.pinned (OpenSpec.ofChange fullKnownWrong)

/-- 'shoallaw17.FullPlays': WHATEVER THE INPUT: true; the input reads as it did. -/
def fullPlaysSpec : ChangeSpec := { name := "fullPlays", fn := fun _ => fun
  | [d1, d2, d3] => { results := [.lit (.bool true)], args := [d1, d2, d3] }
  | _ => none }
def fullPlaysRow : OpenClaim := { program := "ytopnagjbdjicaaa", sum := "9afbc2d647ec56ef24d07c64f866879ccc90aa4223bdc8d890cab90ed35d3163", func := "shoal/shoallaw17.FullPlays", spec := "fullPlays", unfollowed := true, recurses := true, apart := false }
def FullPlaysSaid : Prop := fullPlaysRow.holds Try.pinned (OpenSpec.ofChange fullPlaysSpec)

/-- ITS FALSE NEIGHBOUR: 'it returns false'. Refute it at one input. -/
def fullPlaysWrong : ChangeSpec := { name := "fullPlays", fn := fun _ => fun
  | [d1, d2, d3] => { results := [.lit (.bool false)], args := [d1, d2, d3] }
  | _ => none }
def FullPlaysWrongFalsely : Prop := fullPlaysRow.holds Try.pinned (OpenSpec.ofChange fullPlaysWrong)

/-- 'shoallaw17.FullStamps': WHATEVER THE INPUT: true; the input reads as it did. -/
def fullStampsSpec : ChangeSpec := { name := "fullStamps", fn := fun _ => fun
  | [d1, d2, d3] => { results := [.lit (.bool true)], args := [d1, d2, d3] }
  | _ => none }
def fullStampsRow : OpenClaim := { program := "ytopnagjbdjicaaa", sum := "9afbc2d647ec56ef24d07c64f866879ccc90aa4223bdc8d890cab90ed35d3163", func := "shoal/shoallaw17.FullStamps", spec := "fullStamps", unfollowed := true, recurses := true, apart := false }
def FullStampsSaid : Prop := fullStampsRow.holds Try.pinned (OpenSpec.ofChange fullStampsSpec)

/-- ITS FALSE NEIGHBOUR: 'it returns false'. Refute it at one input. -/
def fullStampsWrong : ChangeSpec := { name := "fullStamps", fn := fun _ => fun
  | [d1, d2, d3] => { results := [.lit (.bool false)], args := [d1, d2, d3] }
  | _ => none }
def FullStampsWrongFalsely : Prop := fullStampsRow.holds Try.pinned (OpenSpec.ofChange fullStampsWrong)

/-- 'shoallaw17.FullOrder': WHATEVER THE INPUT: true; the input reads as it did. -/
def fullOrderSpec : ChangeSpec := { name := "fullOrder", fn := fun _ => fun
  | [d1, d2, d3, d4, d5] => { results := [.lit (.bool true)], args := [d1, d2, d3, d4, d5] }
  | _ => none }
def fullOrderRow : OpenClaim := { program := "ytopnagjbdjicaaa", sum := "9afbc2d647ec56ef24d07c64f866879ccc90aa4223bdc8d890cab90ed35d3163", func := "shoal/shoallaw17.FullOrder", spec := "fullOrder", unfollowed := true, recurses := true, apart := false }
def FullOrderSaid : Prop := fullOrderRow.holds Try.pinned (OpenSpec.ofChange fullOrderSpec)

/-- ITS FALSE NEIGHBOUR: 'it returns false'. Refute it at one input. -/
def fullOrderWrong : ChangeSpec := { name := "fullOrder", fn := fun _ => fun
  | [d1, d2, d3, d4, d5] => { results := [.lit (.bool false)], args := [d1, d2, d3, d4, d5] }
  | _ => none }
def FullOrderWrongFalsely : Prop := fullOrderRow.holds Try.pinned (OpenSpec.ofChange fullOrderWrong)

/-- 'shoallaw17.FullKnows': WHATEVER THE INPUT: true; the input reads as it did. -/
def fullKnowsSpec : ChangeSpec := { name := "fullKnows", fn := fun _ => fun
  | [d1, d2] => { results := [.lit (.bool true)], args := [d1, d2] }
  | _ => none }
def fullKnowsRow : OpenClaim := { program := "ytopnagjbdjicaaa", sum := "9afbc2d647ec56ef24d07c64f866879ccc90aa4223bdc8d890cab90ed35d3163", func := "shoal/shoallaw17.FullKnows", spec := "fullKnows", unfollowed := true, recurses := true, apart := false }
def FullKnowsSaid : Prop := fullKnowsRow.holds Try.pinned (OpenSpec.ofChange fullKnowsSpec)

/-- ITS FALSE NEIGHBOUR: 'it returns false'. Refute it at one input. -/
def fullKnowsWrong : ChangeSpec := { name := "fullKnows", fn := fun _ => fun
  | [d1, d2] => { results := [.lit (.bool false)], args := [d1, d2] }
  | _ => none }
def FullKnowsWrongFalsely : Prop := fullKnowsRow.holds Try.pinned (OpenSpec.ofChange fullKnowsWrong)

/- THE SECOND FORM. 'bulk': how many values and letters a reading holds, each counted each time it is reached (what is shared counts as often as it is met; a slice's spare places count too). A statement '..UptoSaid' is the law's where the arguments, and the package variables that the reading takes, are together of bulk at most 1048576: NARROWER than '..Said'. Prove '..Said' where nothing that the law and all that it calls make is longer than what came in: it says more and counts as full. Else prove '..UptoSaid'. A law counts once. -/
mutual
def uptoBulk {H : Type} : DataW H → Nat
  | .lit (.string bytes) => bytes.length + 1
  | .lit _ => 1
  | .nil => 1
  | .ptr d => uptoBulk d + 1
  | .slice elems spare => uptoBulkAll elems + uptoBulkAll spare + 1
  | .agg parts => uptoBulkAll parts + 1
  | .iface _ d => uptoBulk d + 1
  | .map entries => uptoBulkEntries entries + 1
  | .held _ => 1
def uptoBulkAll {H : Type} : List (DataW H) → Nat
  | [] => 0
  | d :: r => uptoBulk d + uptoBulkAll r
def uptoBulkEntries {H : Type} : List (Lit × DataW H) → Nat
  | [] => 0
  | x :: r => uptoBulkEntry x + uptoBulkEntries r
def uptoBulkEntry {H : Type} : Lit × DataW H → Nat
  | (.string bytes, d) => bytes.length + uptoBulk d + 1
  | (_, d) => uptoBulk d + 1
 end
def uptoSmall : (H : Type) → List (DataW H) → Bool := fun _ ds => decide (uptoBulkAll ds ≤ 1048576)
def OpenSpec.upto (s : _root_.Go.ChangeSpec) : _root_.Go.OpenSpec := { _root_.Go.OpenSpec.ofChange s with cond := some uptoSmall }

/-- 'shoallaw17.FullKnown', WHERE WHAT IT READS IS OF BULK AT MOST 1048576: true; the input reads as it did. -/
def fullKnownUptoRow : OpenClaim := { program := "ytopnagjbdjicaaa", sum := "9afbc2d647ec56ef24d07c64f866879ccc90aa4223bdc8d890cab90ed35d3163", func := "shoal/shoallaw17.FullKnown", spec := "fullKnown", unfollowed := true, recurses := true, apart := false, narrowed := true }
def FullKnownUptoSaid : Prop := fullKnownUptoRow.holds Try.pinned (OpenSpec.upto fullKnownSpec)

/-- 'shoallaw17.FullPlays', WHERE WHAT IT READS IS OF BULK AT MOST 1048576: true; the input reads as it did. -/
def fullPlaysUptoRow : OpenClaim := { program := "ytopnagjbdjicaaa", sum := "9afbc2d647ec56ef24d07c64f866879ccc90aa4223bdc8d890cab90ed35d3163", func := "shoal/shoallaw17.FullPlays", spec := "fullPlays", unfollowed := true, recurses := true, apart := false, narrowed := true }
def FullPlaysUptoSaid : Prop := fullPlaysUptoRow.holds Try.pinned (OpenSpec.upto fullPlaysSpec)

/-- 'shoallaw17.FullStamps', WHERE WHAT IT READS IS OF BULK AT MOST 1048576: true; the input reads as it did. -/
def fullStampsUptoRow : OpenClaim := { program := "ytopnagjbdjicaaa", sum := "9afbc2d647ec56ef24d07c64f866879ccc90aa4223bdc8d890cab90ed35d3163", func := "shoal/shoallaw17.FullStamps", spec := "fullStamps", unfollowed := true, recurses := true, apart := false, narrowed := true }
def FullStampsUptoSaid : Prop := fullStampsUptoRow.holds Try.pinned (OpenSpec.upto fullStampsSpec)

/-- 'shoallaw17.FullOrder', WHERE WHAT IT READS IS OF BULK AT MOST 1048576: true; the input reads as it did. -/
def fullOrderUptoRow : OpenClaim := { program := "ytopnagjbdjicaaa", sum := "9afbc2d647ec56ef24d07c64f866879ccc90aa4223bdc8d890cab90ed35d3163", func := "shoal/shoallaw17.FullOrder", spec := "fullOrder", unfollowed := true, recurses := true, apart := false, narrowed := true }
def FullOrderUptoSaid : Prop := fullOrderUptoRow.holds Try.pinned (OpenSpec.upto fullOrderSpec)

/-- 'shoallaw17.FullKnows', WHERE WHAT IT READS IS OF BULK AT MOST 1048576: true; the input reads as it did. -/
def fullKnowsUptoRow : OpenClaim := { program := "ytopnagjbdjicaaa", sum := "9afbc2d647ec56ef24d07c64f866879ccc90aa4223bdc8d890cab90ed35d3163", func := "shoal/shoallaw17.FullKnows", spec := "fullKnows", unfollowed := true, recurses := true, apart := false, narrowed := true }
def FullKnowsUptoSaid : Prop := fullKnowsUptoRow.holds Try.pinned (OpenSpec.upto fullKnowsSpec)

end Rows
end Go.Proofs.Ytopnagjbdjicaaa
