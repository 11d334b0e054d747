/-
  DERIVED. GIVEN WITH THE SEED: THE CARDS: each row of YtgjbpadhdnclnaaGreatDoorRows.lean that lists a variable, with what it lists TIED to the program's text (the seventh form; the later family's looks); each row that meets fmt, with fmt's text TOLD by the authors' own Lean function (tested against real Go, not proved from fmt's source: count such statements apart). THE CARD IS WHAT COUNTS. Prove the row's statement (the work); the ties are given (YtgjbpadhdnclnaaGreatDoorTie.lean); close each card by the builder's one call (the guide's Derived/Test/ToyasCard.lean, 'card_holds'). Laid BY PROGRAM, IN A SANDBOX (cutbox-door.mjs). By AI agents, Wed Nov 11 2026. No macro, syntax, notation, axiom, sorry.
-/
import Derived.Test.YtgjbpadhdnclnaaGreatDoorRows
import GoSem.ClaimSeven
namespace Go.Proofs.YtgjbpadhdnclnaaGreatDoor
namespace Rows

/-- THE TIED CARD OF 'wireschemalaw04.ScalarTexts'. -/
def scalarTextsCard : Claim7 := { stood := { row := scalarTextsRow, standIns := [], harness := (true, "777824c2ce4923b0b13d09a7f9b1cd8cc76f5d14719a537b97006b81107957d0"), looks := true }, kinds := [], alts := [], laidByText := true, laidKinds := [.data, .data, .data, .data, .sentinel, .sentinel, .pinned], laidTests := true, laidLooks := .later }
def ScalarTextsCardSaid : Prop := Claim7.holds Tryz.pinned (.plain (OpenSpec.ofChange scalarTextsSpec)) scalarTextsCard

/-- THE TIED CARD OF 'wireschemalaw04.ScalarParses'. -/
def scalarParsesCard : Claim7 := { stood := { row := scalarParsesRow, standIns := [], harness := (true, "777824c2ce4923b0b13d09a7f9b1cd8cc76f5d14719a537b97006b81107957d0"), looks := true }, kinds := [], alts := [], laidByText := true, laidKinds := [.data, .data, .data, .data, .sentinel, .sentinel, .pinned], laidTests := true, laidLooks := .later }
def ScalarParsesCardSaid : Prop := Claim7.holds Tryz.pinned (.plain (OpenSpec.ofChange scalarParsesSpec)) scalarParsesCard

/-- THE TIED CARD OF 'wireschemalaw04.ScalarRoundTrips'. -/
def scalarRoundTripsCard : Claim7 := { stood := { row := scalarRoundTripsRow, standIns := [], harness := (true, "777824c2ce4923b0b13d09a7f9b1cd8cc76f5d14719a537b97006b81107957d0"), looks := true }, kinds := [], alts := [], laidByText := true, laidKinds := [.data, .data, .data, .data, .sentinel, .sentinel, .pinned], laidTests := true, laidLooks := .later }
def ScalarRoundTripsCardSaid : Prop := Claim7.holds Tryz.pinned (.plain (OpenSpec.ofChange scalarRoundTripsSpec)) scalarRoundTripsCard

/-- THE TIED CARD OF 'wireschemalaw04.ScalarOrdered'. -/
def scalarOrderedCard : Claim7 := { stood := { row := scalarOrderedRow, standIns := [], harness := (true, "777824c2ce4923b0b13d09a7f9b1cd8cc76f5d14719a537b97006b81107957d0"), looks := true }, kinds := [], alts := [], laidByText := true, laidKinds := [.data, .data, .data, .data, .sentinel, .sentinel, .pinned], laidTests := true, laidLooks := .later }
def ScalarOrderedCardSaid : Prop := Claim7.holds Tryz.pinned (.plain (OpenSpec.ofChange scalarOrderedSpec)) scalarOrderedCard

/-- THE SECOND FORM's CARD OF 'wireschemalaw04.ScalarTexts'. -/
def scalarTextsUptoCard : Claim7 := { stood := { row := scalarTextsUptoRow, standIns := [], harness := (true, "777824c2ce4923b0b13d09a7f9b1cd8cc76f5d14719a537b97006b81107957d0"), looks := true }, kinds := [], alts := [], laidByText := true, laidKinds := [.data, .data, .data, .data, .sentinel, .sentinel, .pinned], laidTests := true, laidLooks := .later }
def ScalarTextsUptoCardSaid : Prop := Claim7.holds Tryz.pinned (.plain (OpenSpec.upto scalarTextsSpec)) scalarTextsUptoCard

/-- THE SECOND FORM's CARD OF 'wireschemalaw04.ScalarParses'. -/
def scalarParsesUptoCard : Claim7 := { stood := { row := scalarParsesUptoRow, standIns := [], harness := (true, "777824c2ce4923b0b13d09a7f9b1cd8cc76f5d14719a537b97006b81107957d0"), looks := true }, kinds := [], alts := [], laidByText := true, laidKinds := [.data, .data, .data, .data, .sentinel, .sentinel, .pinned], laidTests := true, laidLooks := .later }
def ScalarParsesUptoCardSaid : Prop := Claim7.holds Tryz.pinned (.plain (OpenSpec.upto scalarParsesSpec)) scalarParsesUptoCard

/-- THE SECOND FORM's CARD OF 'wireschemalaw04.ScalarRoundTrips'. -/
def scalarRoundTripsUptoCard : Claim7 := { stood := { row := scalarRoundTripsUptoRow, standIns := [], harness := (true, "777824c2ce4923b0b13d09a7f9b1cd8cc76f5d14719a537b97006b81107957d0"), looks := true }, kinds := [], alts := [], laidByText := true, laidKinds := [.data, .data, .data, .data, .sentinel, .sentinel, .pinned], laidTests := true, laidLooks := .later }
def ScalarRoundTripsUptoCardSaid : Prop := Claim7.holds Tryz.pinned (.plain (OpenSpec.upto scalarRoundTripsSpec)) scalarRoundTripsUptoCard

/-- THE SECOND FORM's CARD OF 'wireschemalaw04.ScalarOrdered'. -/
def scalarOrderedUptoCard : Claim7 := { stood := { row := scalarOrderedUptoRow, standIns := [], harness := (true, "777824c2ce4923b0b13d09a7f9b1cd8cc76f5d14719a537b97006b81107957d0"), looks := true }, kinds := [], alts := [], laidByText := true, laidKinds := [.data, .data, .data, .data, .sentinel, .sentinel, .pinned], laidTests := true, laidLooks := .later }
def ScalarOrderedUptoCardSaid : Prop := Claim7.holds Tryz.pinned (.plain (OpenSpec.upto scalarOrderedSpec)) scalarOrderedUptoCard
end Rows
end Go.Proofs.YtgjbpadhdnclnaaGreatDoor
