/-
  DERIVED. GIVEN WITH THE SEED: THE CARDS: each row of YtlfahnijnlapdaaDoorRows.lean that lists a variable, with what it lists TIED to the program's text (the seventh form; the later family's looks); each row that meets fmt, with fmt's text TOLD by the authors' own Lean function (tested against real Go, not proved from fmt's source: count such statements apart). THE CARD IS WHAT COUNTS. Prove the row's statement (the work); the ties are given (YtlfahnijnlapdaaDoorTie.lean); close each card by the builder's one call (the guide's Derived/Test/ToyasCard.lean, 'card_holds'). Laid BY PROGRAM, IN A SANDBOX (cutbox-door.mjs). By AI agents, Wed Nov 11 2026. No macro, syntax, notation, axiom, sorry.
-/
import Derived.Test.YtlfahnijnlapdaaDoorRows
import GoSem.ClaimSeven
namespace Go.Proofs.YtlfahnijnlapdaaDoor
namespace Rows

/-- THE TIED CARD OF 'shoallaw4.DsetKnown'. -/
def dsetKnownCard : Claim7 := { stood := { row := dsetKnownRow, standIns := [], harness := (true, "bb4f26e4cb03c4e54d2815217c0d4683bee989f2c0d6fcadf5a33cd29cc27cec"), looks := true }, kinds := [], alts := [], laidByText := true, laidKinds := [.data, .data, .data, .data, .sentinel, .sentinel, .pinned], laidTests := true, laidLooks := .later }
def DsetKnownCardSaid : Prop := Claim7.holds Tryd.pinned (.plain (OpenSpec.ofChange dsetKnownSpec)) dsetKnownCard

/-- THE TIED CARD OF 'shoallaw4.DsetSays'. -/
def dsetSaysCard : Claim7 := { stood := { row := dsetSaysRow, standIns := [], harness := (true, "bb4f26e4cb03c4e54d2815217c0d4683bee989f2c0d6fcadf5a33cd29cc27cec"), looks := true }, kinds := [], alts := [], laidByText := true, laidKinds := [.data, .data, .data, .data, .sentinel, .sentinel, .pinned], laidTests := true, laidLooks := .later }
def DsetSaysCardSaid : Prop := Claim7.holds Tryd.pinned (.plain (OpenSpec.ofChange dsetSaysSpec)) dsetSaysCard

/-- THE TIED CARD OF 'shoallaw4.DsetBack'. -/
def dsetBackCard : Claim7 := { stood := { row := dsetBackRow, standIns := [], harness := (true, "bb4f26e4cb03c4e54d2815217c0d4683bee989f2c0d6fcadf5a33cd29cc27cec"), looks := true }, kinds := [], alts := [], laidByText := true, laidKinds := [.data, .data, .data, .data, .sentinel, .sentinel, .pinned], laidTests := true, laidLooks := .later }
def DsetBackCardSaid : Prop := Claim7.holds Tryd.pinned (.plain (OpenSpec.ofChange dsetBackSpec)) dsetBackCard

/-- THE TIED CARD OF 'shoallaw4.DsetSums'. -/
def dsetSumsCard : Claim7 := { stood := { row := dsetSumsRow, standIns := [], harness := (true, "bb4f26e4cb03c4e54d2815217c0d4683bee989f2c0d6fcadf5a33cd29cc27cec"), looks := true }, kinds := [], alts := [], laidByText := true, laidKinds := [.data, .data, .data, .data, .sentinel, .sentinel, .pinned], laidTests := true, laidLooks := .later }
def DsetSumsCardSaid : Prop := Claim7.holds Tryd.pinned (.plain (OpenSpec.ofChange dsetSumsSpec)) dsetSumsCard

/-- THE TIED CARD OF 'shoallaw4.DsetOrder'. -/
def dsetOrderCard : Claim7 := { stood := { row := dsetOrderRow, standIns := [], harness := (true, "bb4f26e4cb03c4e54d2815217c0d4683bee989f2c0d6fcadf5a33cd29cc27cec"), looks := true }, kinds := [], alts := [], laidByText := true, laidKinds := [.data, .data, .data, .data, .sentinel, .sentinel, .pinned], laidTests := true, laidLooks := .later }
def DsetOrderCardSaid : Prop := Claim7.holds Tryd.pinned (.plain (OpenSpec.ofChange dsetOrderSpec)) dsetOrderCard

/-- THE SECOND FORM's CARD OF 'shoallaw4.DsetKnown'. -/
def dsetKnownUptoCard : Claim7 := { stood := { row := dsetKnownUptoRow, standIns := [], harness := (true, "bb4f26e4cb03c4e54d2815217c0d4683bee989f2c0d6fcadf5a33cd29cc27cec"), looks := true }, kinds := [], alts := [], laidByText := true, laidKinds := [.data, .data, .data, .data, .sentinel, .sentinel, .pinned], laidTests := true, laidLooks := .later }
def DsetKnownUptoCardSaid : Prop := Claim7.holds Tryd.pinned (.plain (OpenSpec.upto dsetKnownSpec)) dsetKnownUptoCard

/-- THE SECOND FORM's CARD OF 'shoallaw4.DsetSays'. -/
def dsetSaysUptoCard : Claim7 := { stood := { row := dsetSaysUptoRow, standIns := [], harness := (true, "bb4f26e4cb03c4e54d2815217c0d4683bee989f2c0d6fcadf5a33cd29cc27cec"), looks := true }, kinds := [], alts := [], laidByText := true, laidKinds := [.data, .data, .data, .data, .sentinel, .sentinel, .pinned], laidTests := true, laidLooks := .later }
def DsetSaysUptoCardSaid : Prop := Claim7.holds Tryd.pinned (.plain (OpenSpec.upto dsetSaysSpec)) dsetSaysUptoCard

/-- THE SECOND FORM's CARD OF 'shoallaw4.DsetBack'. -/
def dsetBackUptoCard : Claim7 := { stood := { row := dsetBackUptoRow, standIns := [], harness := (true, "bb4f26e4cb03c4e54d2815217c0d4683bee989f2c0d6fcadf5a33cd29cc27cec"), looks := true }, kinds := [], alts := [], laidByText := true, laidKinds := [.data, .data, .data, .data, .sentinel, .sentinel, .pinned], laidTests := true, laidLooks := .later }
def DsetBackUptoCardSaid : Prop := Claim7.holds Tryd.pinned (.plain (OpenSpec.upto dsetBackSpec)) dsetBackUptoCard

/-- THE SECOND FORM's CARD OF 'shoallaw4.DsetSums'. -/
def dsetSumsUptoCard : Claim7 := { stood := { row := dsetSumsUptoRow, standIns := [], harness := (true, "bb4f26e4cb03c4e54d2815217c0d4683bee989f2c0d6fcadf5a33cd29cc27cec"), looks := true }, kinds := [], alts := [], laidByText := true, laidKinds := [.data, .data, .data, .data, .sentinel, .sentinel, .pinned], laidTests := true, laidLooks := .later }
def DsetSumsUptoCardSaid : Prop := Claim7.holds Tryd.pinned (.plain (OpenSpec.upto dsetSumsSpec)) dsetSumsUptoCard

/-- THE SECOND FORM's CARD OF 'shoallaw4.DsetOrder'. -/
def dsetOrderUptoCard : Claim7 := { stood := { row := dsetOrderUptoRow, standIns := [], harness := (true, "bb4f26e4cb03c4e54d2815217c0d4683bee989f2c0d6fcadf5a33cd29cc27cec"), looks := true }, kinds := [], alts := [], laidByText := true, laidKinds := [.data, .data, .data, .data, .sentinel, .sentinel, .pinned], laidTests := true, laidLooks := .later }
def DsetOrderUptoCardSaid : Prop := Claim7.holds Tryd.pinned (.plain (OpenSpec.upto dsetOrderSpec)) dsetOrderUptoCard
end Rows
end Go.Proofs.YtlfahnijnlapdaaDoor
