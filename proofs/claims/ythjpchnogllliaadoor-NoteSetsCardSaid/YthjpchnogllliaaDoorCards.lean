/-
  DERIVED. GIVEN WITH THE SEED: THE CARDS: each row of YthjpchnogllliaaDoorRows.lean that lists a variable, with what it lists TIED to the program's text (the seventh form; the later family's looks); each row that meets fmt, with fmt's text TOLD by the authors' own Lean function (tested against real Go, not proved from fmt's source: count such statements apart). THE CARD IS WHAT COUNTS. Prove the row's statement (the work); the ties are given (YthjpchnogllliaaDoorTie.lean); close each card by the builder's one call (the guide's Derived/Test/ToyasCard.lean, 'card_holds'). Laid BY PROGRAM, IN A SANDBOX (cutbox-door.mjs). By AI agents, Wed Nov 11 2026. No macro, syntax, notation, axiom, sorry.
-/
import Derived.Test.YthjpchnogllliaaDoorRows
import GoSem.ClaimSeven
namespace Go.Proofs.YthjpchnogllliaaDoor
namespace Rows

/-- THE TIED CARD OF 'wireschemalaw08.NoteChecks'. -/
def noteChecksCard : Claim7 := { stood := { row := noteChecksRow, standIns := [], harness := (true, "8e39b24523b2aafc0c7c3fd7bd9e907484b3c10e832b02e48d9b2c869d171e35"), looks := false }, kinds := [], alts := [], laidByText := true, laidKinds := [.data, .data, .data], laidTests := true, laidLooks := .later }
def NoteChecksCardSaid : Prop := Claim7.holds Tryd.pinned (.plain (OpenSpec.ofChange noteChecksSpec)) noteChecksCard

/-- THE TIED CARD OF 'wireschemalaw08.NoteFinds'. -/
def noteFindsCard : Claim7 := { stood := { row := noteFindsRow, standIns := [], harness := (true, "8e39b24523b2aafc0c7c3fd7bd9e907484b3c10e832b02e48d9b2c869d171e35"), looks := false }, kinds := [], alts := [], laidByText := true, laidKinds := [.data, .data, .data], laidTests := true, laidLooks := .later }
def NoteFindsCardSaid : Prop := Claim7.holds Tryd.pinned (.plain (OpenSpec.ofChange noteFindsSpec)) noteFindsCard

/-- THE TIED CARD OF 'wireschemalaw08.NoteSets'. -/
def noteSetsCard : Claim7 := { stood := { row := noteSetsRow, standIns := [], harness := (true, "8e39b24523b2aafc0c7c3fd7bd9e907484b3c10e832b02e48d9b2c869d171e35"), looks := false }, kinds := [], alts := [], laidByText := true, laidKinds := [.data, .data, .data], laidTests := true, laidLooks := .later }
def NoteSetsCardSaid : Prop := Claim7.holds Tryd.pinned (.plain (OpenSpec.ofChange noteSetsSpec)) noteSetsCard

/-- THE TIED CARD OF 'wireschemalaw08.NoteStays'. -/
def noteStaysCard : Claim7 := { stood := { row := noteStaysRow, standIns := [], harness := (true, "8e39b24523b2aafc0c7c3fd7bd9e907484b3c10e832b02e48d9b2c869d171e35"), looks := false }, kinds := [], alts := [], laidByText := true, laidKinds := [.data, .data, .data], laidTests := true, laidLooks := .later }
def NoteStaysCardSaid : Prop := Claim7.holds Tryd.pinned (.plain (OpenSpec.ofChange noteStaysSpec)) noteStaysCard

/-- THE TIED CARD OF 'wireschemalaw08.NoteTexts'. -/
def noteTextsCard : Claim7 := { stood := { row := noteTextsRow, standIns := [], harness := (true, "8e39b24523b2aafc0c7c3fd7bd9e907484b3c10e832b02e48d9b2c869d171e35"), looks := false }, kinds := [], alts := [], laidByText := true, laidKinds := [.data, .data, .data], laidTests := true, laidLooks := .later }
def NoteTextsCardSaid : Prop := Claim7.holds Tryd.pinned (.plain (OpenSpec.ofChange noteTextsSpec)) noteTextsCard

/-- THE SECOND FORM's CARD OF 'wireschemalaw08.NoteChecks'. -/
def noteChecksUptoCard : Claim7 := { stood := { row := noteChecksUptoRow, standIns := [], harness := (true, "8e39b24523b2aafc0c7c3fd7bd9e907484b3c10e832b02e48d9b2c869d171e35"), looks := false }, kinds := [], alts := [], laidByText := true, laidKinds := [.data, .data, .data], laidTests := true, laidLooks := .later }
def NoteChecksUptoCardSaid : Prop := Claim7.holds Tryd.pinned (.plain (OpenSpec.upto noteChecksSpec)) noteChecksUptoCard

/-- THE SECOND FORM's CARD OF 'wireschemalaw08.NoteFinds'. -/
def noteFindsUptoCard : Claim7 := { stood := { row := noteFindsUptoRow, standIns := [], harness := (true, "8e39b24523b2aafc0c7c3fd7bd9e907484b3c10e832b02e48d9b2c869d171e35"), looks := false }, kinds := [], alts := [], laidByText := true, laidKinds := [.data, .data, .data], laidTests := true, laidLooks := .later }
def NoteFindsUptoCardSaid : Prop := Claim7.holds Tryd.pinned (.plain (OpenSpec.upto noteFindsSpec)) noteFindsUptoCard

/-- THE SECOND FORM's CARD OF 'wireschemalaw08.NoteSets'. -/
def noteSetsUptoCard : Claim7 := { stood := { row := noteSetsUptoRow, standIns := [], harness := (true, "8e39b24523b2aafc0c7c3fd7bd9e907484b3c10e832b02e48d9b2c869d171e35"), looks := false }, kinds := [], alts := [], laidByText := true, laidKinds := [.data, .data, .data], laidTests := true, laidLooks := .later }
def NoteSetsUptoCardSaid : Prop := Claim7.holds Tryd.pinned (.plain (OpenSpec.upto noteSetsSpec)) noteSetsUptoCard

/-- THE SECOND FORM's CARD OF 'wireschemalaw08.NoteStays'. -/
def noteStaysUptoCard : Claim7 := { stood := { row := noteStaysUptoRow, standIns := [], harness := (true, "8e39b24523b2aafc0c7c3fd7bd9e907484b3c10e832b02e48d9b2c869d171e35"), looks := false }, kinds := [], alts := [], laidByText := true, laidKinds := [.data, .data, .data], laidTests := true, laidLooks := .later }
def NoteStaysUptoCardSaid : Prop := Claim7.holds Tryd.pinned (.plain (OpenSpec.upto noteStaysSpec)) noteStaysUptoCard

/-- THE SECOND FORM's CARD OF 'wireschemalaw08.NoteTexts'. -/
def noteTextsUptoCard : Claim7 := { stood := { row := noteTextsUptoRow, standIns := [], harness := (true, "8e39b24523b2aafc0c7c3fd7bd9e907484b3c10e832b02e48d9b2c869d171e35"), looks := false }, kinds := [], alts := [], laidByText := true, laidKinds := [.data, .data, .data], laidTests := true, laidLooks := .later }
def NoteTextsUptoCardSaid : Prop := Claim7.holds Tryd.pinned (.plain (OpenSpec.upto noteTextsSpec)) noteTextsUptoCard
end Rows
end Go.Proofs.YthjpchnogllliaaDoor
