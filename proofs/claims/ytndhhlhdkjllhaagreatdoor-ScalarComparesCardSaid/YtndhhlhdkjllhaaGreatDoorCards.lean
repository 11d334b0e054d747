/-
  DERIVED. GIVEN WITH THE SEED: THE CARDS: each row of YtndhhlhdkjllhaaGreatDoorRows.lean that lists a variable, with what it lists TIED to the program's text (the seventh form; the later family's looks); each row that meets fmt, with fmt's text TOLD by the authors' own Lean function (tested against real Go, not proved from fmt's source: count such statements apart). THE CARD IS WHAT COUNTS. Prove the row's statement (the work); the ties are given (YtndhhlhdkjllhaaGreatDoorTie.lean); close each card by the builder's one call (the guide's Derived/Test/ToyasCard.lean, 'card_holds'). Laid BY PROGRAM, IN A SANDBOX (cutbox-door.mjs). By AI agents, Wed Nov 11 2026. No macro, syntax, notation, axiom, sorry.
-/
import Derived.Test.YtndhhlhdkjllhaaGreatDoorRows
import GoSem.ClaimSeven
namespace Go.Proofs.YtndhhlhdkjllhaaGreatDoor
namespace Rows

/-- THE TIED CARD OF 'wireschemalaw04.ScalarKinds'. -/
def scalarKindsCard : Claim7 := { stood := { row := scalarKindsRow, standIns := [], harness := (true, "f4b6fc4a281f57ae630c09ecca90124ad01e4f50d5386d15dbeab4861bd7090e"), looks := true }, kinds := [], alts := [], laidByText := true, laidKinds := [.data, .data, .data, .data, .sentinel, .sentinel, .pinned], laidTests := true, laidLooks := .later }
def ScalarKindsCardSaid : Prop := Claim7.holds Tryz.pinned (.plain (OpenSpec.ofChange scalarKindsSpec)) scalarKindsCard

/-- THE TIED CARD OF 'wireschemalaw04.ScalarNorms'. -/
def scalarNormsCard : Claim7 := { stood := { row := scalarNormsRow, standIns := [], harness := (true, "f4b6fc4a281f57ae630c09ecca90124ad01e4f50d5386d15dbeab4861bd7090e"), looks := true }, kinds := [], alts := [], laidByText := true, laidKinds := [.data, .data, .data, .data, .sentinel, .sentinel, .pinned], laidTests := true, laidLooks := .later }
def ScalarNormsCardSaid : Prop := Claim7.holds Tryz.pinned (.plain (OpenSpec.ofChange scalarNormsSpec)) scalarNormsCard

/-- THE TIED CARD OF 'wireschemalaw04.ScalarTexts'. -/
def scalarTextsCard : Claim7 := { stood := { row := scalarTextsRow, standIns := [], harness := (true, "f4b6fc4a281f57ae630c09ecca90124ad01e4f50d5386d15dbeab4861bd7090e"), looks := true }, kinds := [], alts := [], laidByText := true, laidKinds := [.data, .data, .data, .data, .sentinel, .sentinel, .pinned], laidTests := true, laidLooks := .later }
def ScalarTextsCardSaid : Prop := Claim7.holds Tryz.pinned (.plain (OpenSpec.ofChange scalarTextsSpec)) scalarTextsCard

/-- THE TIED CARD OF 'wireschemalaw04.ScalarParses'. -/
def scalarParsesCard : Claim7 := { stood := { row := scalarParsesRow, standIns := [], harness := (true, "f4b6fc4a281f57ae630c09ecca90124ad01e4f50d5386d15dbeab4861bd7090e"), looks := true }, kinds := [], alts := [], laidByText := true, laidKinds := [.data, .data, .data, .data, .sentinel, .sentinel, .pinned], laidTests := true, laidLooks := .later }
def ScalarParsesCardSaid : Prop := Claim7.holds Tryz.pinned (.plain (OpenSpec.ofChange scalarParsesSpec)) scalarParsesCard

/-- THE TIED CARD OF 'wireschemalaw04.ScalarCompares'. -/
def scalarComparesCard : Claim7 := { stood := { row := scalarComparesRow, standIns := [], harness := (true, "f4b6fc4a281f57ae630c09ecca90124ad01e4f50d5386d15dbeab4861bd7090e"), looks := true }, kinds := [], alts := [], laidByText := true, laidKinds := [.data, .data, .data, .data, .sentinel, .sentinel, .pinned], laidTests := true, laidLooks := .later }
def ScalarComparesCardSaid : Prop := Claim7.holds Tryz.pinned (.plain (OpenSpec.ofChange scalarComparesSpec)) scalarComparesCard

/-- THE TIED CARD OF 'wireschemalaw04.ScalarRoundTrips'. -/
def scalarRoundTripsCard : Claim7 := { stood := { row := scalarRoundTripsRow, standIns := [], harness := (true, "f4b6fc4a281f57ae630c09ecca90124ad01e4f50d5386d15dbeab4861bd7090e"), looks := true }, kinds := [], alts := [], laidByText := true, laidKinds := [.data, .data, .data, .data, .sentinel, .sentinel, .pinned], laidTests := true, laidLooks := .later }
def ScalarRoundTripsCardSaid : Prop := Claim7.holds Tryz.pinned (.plain (OpenSpec.ofChange scalarRoundTripsSpec)) scalarRoundTripsCard

/-- THE TIED CARD OF 'wireschemalaw04.ScalarOrdered'. -/
def scalarOrderedCard : Claim7 := { stood := { row := scalarOrderedRow, standIns := [], harness := (true, "f4b6fc4a281f57ae630c09ecca90124ad01e4f50d5386d15dbeab4861bd7090e"), looks := true }, kinds := [], alts := [], laidByText := true, laidKinds := [.data, .data, .data, .data, .sentinel, .sentinel, .pinned], laidTests := true, laidLooks := .later }
def ScalarOrderedCardSaid : Prop := Claim7.holds Tryz.pinned (.plain (OpenSpec.ofChange scalarOrderedSpec)) scalarOrderedCard

/-- THE SECOND FORM's CARD OF 'wireschemalaw04.ScalarKinds'. -/
def scalarKindsUptoCard : Claim7 := { stood := { row := scalarKindsUptoRow, standIns := [], harness := (true, "f4b6fc4a281f57ae630c09ecca90124ad01e4f50d5386d15dbeab4861bd7090e"), looks := true }, kinds := [], alts := [], laidByText := true, laidKinds := [.data, .data, .data, .data, .sentinel, .sentinel, .pinned], laidTests := true, laidLooks := .later }
def ScalarKindsUptoCardSaid : Prop := Claim7.holds Tryz.pinned (.plain (OpenSpec.upto scalarKindsSpec)) scalarKindsUptoCard

/-- THE SECOND FORM's CARD OF 'wireschemalaw04.ScalarNorms'. -/
def scalarNormsUptoCard : Claim7 := { stood := { row := scalarNormsUptoRow, standIns := [], harness := (true, "f4b6fc4a281f57ae630c09ecca90124ad01e4f50d5386d15dbeab4861bd7090e"), looks := true }, kinds := [], alts := [], laidByText := true, laidKinds := [.data, .data, .data, .data, .sentinel, .sentinel, .pinned], laidTests := true, laidLooks := .later }
def ScalarNormsUptoCardSaid : Prop := Claim7.holds Tryz.pinned (.plain (OpenSpec.upto scalarNormsSpec)) scalarNormsUptoCard

/-- THE SECOND FORM's CARD OF 'wireschemalaw04.ScalarTexts'. -/
def scalarTextsUptoCard : Claim7 := { stood := { row := scalarTextsUptoRow, standIns := [], harness := (true, "f4b6fc4a281f57ae630c09ecca90124ad01e4f50d5386d15dbeab4861bd7090e"), looks := true }, kinds := [], alts := [], laidByText := true, laidKinds := [.data, .data, .data, .data, .sentinel, .sentinel, .pinned], laidTests := true, laidLooks := .later }
def ScalarTextsUptoCardSaid : Prop := Claim7.holds Tryz.pinned (.plain (OpenSpec.upto scalarTextsSpec)) scalarTextsUptoCard

/-- THE SECOND FORM's CARD OF 'wireschemalaw04.ScalarParses'. -/
def scalarParsesUptoCard : Claim7 := { stood := { row := scalarParsesUptoRow, standIns := [], harness := (true, "f4b6fc4a281f57ae630c09ecca90124ad01e4f50d5386d15dbeab4861bd7090e"), looks := true }, kinds := [], alts := [], laidByText := true, laidKinds := [.data, .data, .data, .data, .sentinel, .sentinel, .pinned], laidTests := true, laidLooks := .later }
def ScalarParsesUptoCardSaid : Prop := Claim7.holds Tryz.pinned (.plain (OpenSpec.upto scalarParsesSpec)) scalarParsesUptoCard

/-- THE SECOND FORM's CARD OF 'wireschemalaw04.ScalarCompares'. -/
def scalarComparesUptoCard : Claim7 := { stood := { row := scalarComparesUptoRow, standIns := [], harness := (true, "f4b6fc4a281f57ae630c09ecca90124ad01e4f50d5386d15dbeab4861bd7090e"), looks := true }, kinds := [], alts := [], laidByText := true, laidKinds := [.data, .data, .data, .data, .sentinel, .sentinel, .pinned], laidTests := true, laidLooks := .later }
def ScalarComparesUptoCardSaid : Prop := Claim7.holds Tryz.pinned (.plain (OpenSpec.upto scalarComparesSpec)) scalarComparesUptoCard

/-- THE SECOND FORM's CARD OF 'wireschemalaw04.ScalarRoundTrips'. -/
def scalarRoundTripsUptoCard : Claim7 := { stood := { row := scalarRoundTripsUptoRow, standIns := [], harness := (true, "f4b6fc4a281f57ae630c09ecca90124ad01e4f50d5386d15dbeab4861bd7090e"), looks := true }, kinds := [], alts := [], laidByText := true, laidKinds := [.data, .data, .data, .data, .sentinel, .sentinel, .pinned], laidTests := true, laidLooks := .later }
def ScalarRoundTripsUptoCardSaid : Prop := Claim7.holds Tryz.pinned (.plain (OpenSpec.upto scalarRoundTripsSpec)) scalarRoundTripsUptoCard

/-- THE SECOND FORM's CARD OF 'wireschemalaw04.ScalarOrdered'. -/
def scalarOrderedUptoCard : Claim7 := { stood := { row := scalarOrderedUptoRow, standIns := [], harness := (true, "f4b6fc4a281f57ae630c09ecca90124ad01e4f50d5386d15dbeab4861bd7090e"), looks := true }, kinds := [], alts := [], laidByText := true, laidKinds := [.data, .data, .data, .data, .sentinel, .sentinel, .pinned], laidTests := true, laidLooks := .later }
def ScalarOrderedUptoCardSaid : Prop := Claim7.holds Tryz.pinned (.plain (OpenSpec.upto scalarOrderedSpec)) scalarOrderedUptoCard
end Rows
end Go.Proofs.YtndhhlhdkjllhaaGreatDoor
