/-
  No cell of these rows narrows 'for every input' (looked for: loops, veiled, ifaces, maps, wideKeys, modest, calm, conditions, laid).
  DERIVED. THE GIVEN ROWS OF THIS SEAT. 5 by the template 'for every input the law returns true; each argument reads behind the call as it read before'; 0 by the template 'total and deterministic' (their statements: YthakbcfjpnielaaTotals.lean).
  GIVEN WITH THE SEED: the statements are not yours to turn. If you find one false, say at which input.
  Laid BY PROGRAM, IN A SANDBOX (cutbox-rows.mjs): the forced cells as the released guide's own fill.sh prints them over the translation 92c2a12a865b5df9… (all of the seat's roots in one cut). By AI agents, Wed Nov 11 2026. No macro, syntax, notation, axiom, sorry.
-/
import Derived.Test.YthakbcfjpnielaaChecked
import GoSem.Claim
import GoSem.ClaimJoined
import GoSem.ClaimMapViews
import Derived.JoinedTies
import Derived.KernelRfl
namespace Go.Proofs.Ythakbcfjpnielaa
/- THE CELL 'sum', in the pinned program and in every row, IS THE sha256 OF THE DUMP (.gsa) THAT YthakbcfjpnielaaProg.lean LOADS. Nothing in Lean hashes anything: it is a label: what it is worth is what the hold of that sum in a sandbox is worth. -/
noncomputable def Try.pinned : Pinned := { name := "ythakbcfjpnielaa", sum := "92c2a12a865b5df9b0c53aab28fc6eeb2137f31d251998c830daa8a586471e51", checked := Try.checked }
namespace Rows
def none {H : Type} : Left H := { results := [], args := [] }

/-- 'shoallaw5.PaneKnown': WHATEVER THE INPUT: true; the input reads as it did. -/
def paneKnownSpec : ChangeSpec := { name := "paneKnown", fn := fun _ => fun
  | [] => { results := [.lit (.bool true)], args := [] }
  | _ => none }
def paneKnownRow : OpenClaim := { program := "ythakbcfjpnielaa", sum := "92c2a12a865b5df9b0c53aab28fc6eeb2137f31d251998c830daa8a586471e51", func := "shoal/shoallaw5.PaneKnown", spec := "paneKnown", inPlace := ["math.Float64bits", "math.Float64frombits"], apart := false }
def PaneKnownSaid : Prop := paneKnownRow.holds Try.pinned (OpenSpec.ofChange paneKnownSpec)

/-- ITS FALSE NEIGHBOUR: 'it returns false'. Refute it at one input. -/
def paneKnownWrong : ChangeSpec := { name := "paneKnown", fn := fun _ => fun
  | [] => { results := [.lit (.bool false)], args := [] }
  | _ => none }
def PaneKnownWrongFalsely : Prop := paneKnownRow.holds Try.pinned (OpenSpec.ofChange paneKnownWrong)

/-- 'shoallaw5.PaneWrites': WHATEVER THE INPUT: true; the input reads as it did. -/
def paneWritesSpec : ChangeSpec := { name := "paneWrites", fn := fun _ => fun
  | [d] => { results := [.lit (.bool true)], args := [d] }
  | _ => none }
def paneWritesRow : OpenClaim := { program := "ythakbcfjpnielaa", sum := "92c2a12a865b5df9b0c53aab28fc6eeb2137f31d251998c830daa8a586471e51", func := "shoal/shoallaw5.PaneWrites", spec := "paneWrites", inPlace := ["math.Float64bits", "math.Float64frombits"], apart := false }
def PaneWritesSaid : Prop := paneWritesRow.holds Try.pinned (OpenSpec.ofChange paneWritesSpec)

/-- ITS FALSE NEIGHBOUR: 'it returns false'. Refute it at one input. -/
def paneWritesWrong : ChangeSpec := { name := "paneWrites", fn := fun _ => fun
  | [d] => { results := [.lit (.bool false)], args := [d] }
  | _ => none }
def PaneWritesWrongFalsely : Prop := paneWritesRow.holds Try.pinned (OpenSpec.ofChange paneWritesWrong)

/-- 'shoallaw5.PaneReads': WHATEVER THE INPUT: true; the input reads as it did. -/
def paneReadsSpec : ChangeSpec := { name := "paneReads", fn := fun _ => fun
  | [d1, d2, d3] => { results := [.lit (.bool true)], args := [d1, d2, d3] }
  | _ => none }
def paneReadsRow : OpenClaim := { program := "ythakbcfjpnielaa", sum := "92c2a12a865b5df9b0c53aab28fc6eeb2137f31d251998c830daa8a586471e51", func := "shoal/shoallaw5.PaneReads", spec := "paneReads", inPlace := ["math.Float64frombits", "math.Float64bits"], apart := false }
def PaneReadsSaid : Prop := paneReadsRow.holds Try.pinned (OpenSpec.ofChange paneReadsSpec)

/-- ITS FALSE NEIGHBOUR: 'it returns false'. Refute it at one input. -/
def paneReadsWrong : ChangeSpec := { name := "paneReads", fn := fun _ => fun
  | [d1, d2, d3] => { results := [.lit (.bool false)], args := [d1, d2, d3] }
  | _ => none }
def PaneReadsWrongFalsely : Prop := paneReadsRow.holds Try.pinned (OpenSpec.ofChange paneReadsWrong)

/-- 'shoallaw5.PaneCuts': WHATEVER THE INPUT: true; the input reads as it did. -/
def paneCutsSpec : ChangeSpec := { name := "paneCuts", fn := fun _ => fun
  | [d1, d2] => { results := [.lit (.bool true)], args := [d1, d2] }
  | _ => none }
def paneCutsRow : OpenClaim := { program := "ythakbcfjpnielaa", sum := "92c2a12a865b5df9b0c53aab28fc6eeb2137f31d251998c830daa8a586471e51", func := "shoal/shoallaw5.PaneCuts", spec := "paneCuts", apart := false }
def PaneCutsSaid : Prop := paneCutsRow.holds Try.pinned (OpenSpec.ofChange paneCutsSpec)

/-- ITS FALSE NEIGHBOUR: 'it returns false'. Refute it at one input. -/
def paneCutsWrong : ChangeSpec := { name := "paneCuts", fn := fun _ => fun
  | [d1, d2] => { results := [.lit (.bool false)], args := [d1, d2] }
  | _ => none }
def PaneCutsWrongFalsely : Prop := paneCutsRow.holds Try.pinned (OpenSpec.ofChange paneCutsWrong)

/-- 'shoallaw5.PaneFloats': WHATEVER THE INPUT: true; the input reads as it did. -/
def paneFloatsSpec : ChangeSpec := { name := "paneFloats", fn := fun _ => fun
  | [d] => { results := [.lit (.bool true)], args := [d] }
  | _ => none }
def paneFloatsRow : OpenClaim := { program := "ythakbcfjpnielaa", sum := "92c2a12a865b5df9b0c53aab28fc6eeb2137f31d251998c830daa8a586471e51", func := "shoal/shoallaw5.PaneFloats", spec := "paneFloats", inPlace := ["math.Float64bits", "math.Float64frombits"], apart := false }
def PaneFloatsSaid : Prop := paneFloatsRow.holds Try.pinned (OpenSpec.ofChange paneFloatsSpec)

/-- ITS FALSE NEIGHBOUR: 'it returns false'. Refute it at one input. -/
def paneFloatsWrong : ChangeSpec := { name := "paneFloats", fn := fun _ => fun
  | [d] => { results := [.lit (.bool false)], args := [d] }
  | _ => none }
def PaneFloatsWrongFalsely : Prop := paneFloatsRow.holds Try.pinned (OpenSpec.ofChange paneFloatsWrong)

/- THE SECOND FORM. 'bulk': how many values and letters a reading holds, each counted each time it is reached (what is shared counts as often as it is met; a slice's spare places count too). A statement '..UptoSaid' is the law's where the arguments, and the package variables that the reading takes, are together of bulk at most 1048576: NARROWER than '..Said'. Prove '..Said' where nothing that the law and all that it calls make is longer than what came in: it says more and counts as full. Else prove '..UptoSaid'. A law counts once. -/
mutual
def uptoBulk {H : Type} : DataW H → Nat
  | .lit (.string bytes) => bytes.length + 1
  | .lit _ => 1
  | .nil => 1
  | .ptr d => uptoBulk d + 1
  | .slice elems spare => uptoBulkAll elems + uptoBulkAll spare + 1
  | .agg parts => uptoBulkAll parts + 1
  | .iface _ d => uptoBulk d + 1
  | .map entries => uptoBulkEntries entries + 1
  | .held _ => 1
def uptoBulkAll {H : Type} : List (DataW H) → Nat
  | [] => 0
  | d :: r => uptoBulk d + uptoBulkAll r
def uptoBulkEntries {H : Type} : List (Lit × DataW H) → Nat
  | [] => 0
  | x :: r => uptoBulkEntry x + uptoBulkEntries r
def uptoBulkEntry {H : Type} : Lit × DataW H → Nat
  | (.string bytes, d) => bytes.length + uptoBulk d + 1
  | (_, d) => uptoBulk d + 1
 end
def uptoSmall : (H : Type) → List (DataW H) → Bool := fun _ ds => decide (uptoBulkAll ds ≤ 1048576)
def OpenSpec.upto (s : _root_.Go.ChangeSpec) : _root_.Go.OpenSpec := { _root_.Go.OpenSpec.ofChange s with cond := some uptoSmall }

/-- 'shoallaw5.PaneKnown', WHERE WHAT IT READS IS OF BULK AT MOST 1048576: true; the input reads as it did. -/
def paneKnownUptoRow : OpenClaim := { program := "ythakbcfjpnielaa", sum := "92c2a12a865b5df9b0c53aab28fc6eeb2137f31d251998c830daa8a586471e51", func := "shoal/shoallaw5.PaneKnown", spec := "paneKnown", inPlace := ["math.Float64bits", "math.Float64frombits"], apart := false, narrowed := true }
def PaneKnownUptoSaid : Prop := paneKnownUptoRow.holds Try.pinned (OpenSpec.upto paneKnownSpec)

/-- 'shoallaw5.PaneWrites', WHERE WHAT IT READS IS OF BULK AT MOST 1048576: true; the input reads as it did. -/
def paneWritesUptoRow : OpenClaim := { program := "ythakbcfjpnielaa", sum := "92c2a12a865b5df9b0c53aab28fc6eeb2137f31d251998c830daa8a586471e51", func := "shoal/shoallaw5.PaneWrites", spec := "paneWrites", inPlace := ["math.Float64bits", "math.Float64frombits"], apart := false, narrowed := true }
def PaneWritesUptoSaid : Prop := paneWritesUptoRow.holds Try.pinned (OpenSpec.upto paneWritesSpec)

/-- 'shoallaw5.PaneReads', WHERE WHAT IT READS IS OF BULK AT MOST 1048576: true; the input reads as it did. -/
def paneReadsUptoRow : OpenClaim := { program := "ythakbcfjpnielaa", sum := "92c2a12a865b5df9b0c53aab28fc6eeb2137f31d251998c830daa8a586471e51", func := "shoal/shoallaw5.PaneReads", spec := "paneReads", inPlace := ["math.Float64frombits", "math.Float64bits"], apart := false, narrowed := true }
def PaneReadsUptoSaid : Prop := paneReadsUptoRow.holds Try.pinned (OpenSpec.upto paneReadsSpec)

/-- 'shoallaw5.PaneCuts', WHERE WHAT IT READS IS OF BULK AT MOST 1048576: true; the input reads as it did. -/
def paneCutsUptoRow : OpenClaim := { program := "ythakbcfjpnielaa", sum := "92c2a12a865b5df9b0c53aab28fc6eeb2137f31d251998c830daa8a586471e51", func := "shoal/shoallaw5.PaneCuts", spec := "paneCuts", apart := false, narrowed := true }
def PaneCutsUptoSaid : Prop := paneCutsUptoRow.holds Try.pinned (OpenSpec.upto paneCutsSpec)

/-- 'shoallaw5.PaneFloats', WHERE WHAT IT READS IS OF BULK AT MOST 1048576: true; the input reads as it did. -/
def paneFloatsUptoRow : OpenClaim := { program := "ythakbcfjpnielaa", sum := "92c2a12a865b5df9b0c53aab28fc6eeb2137f31d251998c830daa8a586471e51", func := "shoal/shoallaw5.PaneFloats", spec := "paneFloats", inPlace := ["math.Float64bits", "math.Float64frombits"], apart := false, narrowed := true }
def PaneFloatsUptoSaid : Prop := paneFloatsUptoRow.holds Try.pinned (OpenSpec.upto paneFloatsSpec)

end Rows
end Go.Proofs.Ythakbcfjpnielaa
