/-
  DERIVED. GIVEN WITH THE SEED: THE CARDS: each row of YtclgbmmambkiaaaGreatDoorRows.lean that lists a variable, with what it lists TIED to the program's text (the seventh form; the later family's looks); each row that meets fmt, with fmt's text TOLD by the authors' own Lean function (tested against real Go, not proved from fmt's source: count such statements apart). THE CARD IS WHAT COUNTS. Prove the row's statement (the work); the ties are given (YtclgbmmambkiaaaGreatDoorTie.lean); close each card by the builder's one call (the guide's Derived/Test/ToyasCard.lean, 'card_holds'). Laid BY PROGRAM, IN A SANDBOX (cutbox-door.mjs). By AI agents, Wed Nov 11 2026. No macro, syntax, notation, axiom, sorry.
-/
import Derived.Test.YtclgbmmambkiaaaGreatDoorRows
import GoSem.ClaimSeven
namespace Go.Proofs.YtclgbmmambkiaaaGreatDoor
namespace Rows

/-- THE TIED CARD OF 'restitchlaw02.SyntaxReads'. -/
def syntaxReadsCard : Claim7 := { stood := { row := syntaxReadsRow, standIns := [], harness := (true, "97b7117fa6487fb488cf40ef5089ab8ee0d97008e73b654170a9eaee2bc5d6b8"), looks := true }, kinds := [], alts := [], laidByText := true, laidKinds := [.data, .data, .data, .sentinel, .sentinel], laidTests := true, laidLooks := .later }
def SyntaxReadsCardSaid : Prop := Claim7.holds Tryz.pinned (.plain (OpenSpec.ofChange syntaxReadsSpec)) syntaxReadsCard

/-- THE TIED CARD OF 'restitchlaw02.SyntaxPieces'. -/
def syntaxPiecesCard : Claim7 := { stood := { row := syntaxPiecesRow, standIns := [], harness := (true, "97b7117fa6487fb488cf40ef5089ab8ee0d97008e73b654170a9eaee2bc5d6b8"), looks := true }, kinds := [], alts := [], laidByText := true, laidKinds := [.data, .data, .data, .sentinel, .sentinel], laidTests := true, laidLooks := .later }
def SyntaxPiecesCardSaid : Prop := Claim7.holds Tryz.pinned (.plain (OpenSpec.ofChange syntaxPiecesSpec)) syntaxPiecesCard

/-- THE TIED CARD OF 'restitchlaw02.SyntaxAgain'. -/
def syntaxAgainCard : Claim7 := { stood := { row := syntaxAgainRow, standIns := [], harness := (true, "97b7117fa6487fb488cf40ef5089ab8ee0d97008e73b654170a9eaee2bc5d6b8"), looks := true }, kinds := [], alts := [], laidByText := true, laidKinds := [.data, .data, .data, .sentinel, .sentinel], laidTests := true, laidLooks := .later }
def SyntaxAgainCardSaid : Prop := Claim7.holds Tryz.pinned (.plain (OpenSpec.ofChange syntaxAgainSpec)) syntaxAgainCard

/-- THE TIED CARD OF 'restitchlaw02.SyntaxPrefix'. -/
def syntaxPrefixCard : Claim7 := { stood := { row := syntaxPrefixRow, standIns := [], harness := (true, "97b7117fa6487fb488cf40ef5089ab8ee0d97008e73b654170a9eaee2bc5d6b8"), looks := true }, kinds := [], alts := [], laidByText := true, laidKinds := [.data, .data, .data, .sentinel, .sentinel], laidTests := true, laidLooks := .later }
def SyntaxPrefixCardSaid : Prop := Claim7.holds Tryz.pinned (.plain (OpenSpec.ofChange syntaxPrefixSpec)) syntaxPrefixCard

/-- THE TIED CARD OF 'restitchlaw02.SyntaxJoined'. -/
def syntaxJoinedCard : Claim7 := { stood := { row := syntaxJoinedRow, standIns := [], harness := (true, "97b7117fa6487fb488cf40ef5089ab8ee0d97008e73b654170a9eaee2bc5d6b8"), looks := true }, kinds := [], alts := [], laidByText := true, laidKinds := [.data, .data, .data, .sentinel, .sentinel], laidTests := true, laidLooks := .later }
def SyntaxJoinedCardSaid : Prop := Claim7.holds Tryz.pinned (.plain (OpenSpec.ofChange syntaxJoinedSpec)) syntaxJoinedCard

/-- THE TIED CARD OF 'restitchlaw02.SyntaxWrapped'. -/
def syntaxWrappedCard : Claim7 := { stood := { row := syntaxWrappedRow, standIns := [], harness := (true, "97b7117fa6487fb488cf40ef5089ab8ee0d97008e73b654170a9eaee2bc5d6b8"), looks := true }, kinds := [], alts := [], laidByText := true, laidKinds := [.data, .data, .data, .sentinel, .sentinel], laidTests := true, laidLooks := .later }
def SyntaxWrappedCardSaid : Prop := Claim7.holds Tryz.pinned (.plain (OpenSpec.ofChange syntaxWrappedSpec)) syntaxWrappedCard

/-- THE TIED CARD OF 'restitchlaw02.SyntaxIf'. -/
def syntaxIfCard : Claim7 := { stood := { row := syntaxIfRow, standIns := [], harness := (true, "97b7117fa6487fb488cf40ef5089ab8ee0d97008e73b654170a9eaee2bc5d6b8"), looks := true }, kinds := [], alts := [], laidByText := true, laidKinds := [.data, .data, .data, .sentinel, .sentinel], laidTests := true, laidLooks := .later }
def SyntaxIfCardSaid : Prop := Claim7.holds Tryz.pinned (.plain (OpenSpec.ofChange syntaxIfSpec)) syntaxIfCard

/-- THE SECOND FORM's CARD OF 'restitchlaw02.SyntaxReads'. -/
def syntaxReadsUptoCard : Claim7 := { stood := { row := syntaxReadsUptoRow, standIns := [], harness := (true, "97b7117fa6487fb488cf40ef5089ab8ee0d97008e73b654170a9eaee2bc5d6b8"), looks := true }, kinds := [], alts := [], laidByText := true, laidKinds := [.data, .data, .data, .sentinel, .sentinel], laidTests := true, laidLooks := .later }
def SyntaxReadsUptoCardSaid : Prop := Claim7.holds Tryz.pinned (.plain (OpenSpec.upto syntaxReadsSpec)) syntaxReadsUptoCard

/-- THE SECOND FORM's CARD OF 'restitchlaw02.SyntaxPieces'. -/
def syntaxPiecesUptoCard : Claim7 := { stood := { row := syntaxPiecesUptoRow, standIns := [], harness := (true, "97b7117fa6487fb488cf40ef5089ab8ee0d97008e73b654170a9eaee2bc5d6b8"), looks := true }, kinds := [], alts := [], laidByText := true, laidKinds := [.data, .data, .data, .sentinel, .sentinel], laidTests := true, laidLooks := .later }
def SyntaxPiecesUptoCardSaid : Prop := Claim7.holds Tryz.pinned (.plain (OpenSpec.upto syntaxPiecesSpec)) syntaxPiecesUptoCard

/-- THE SECOND FORM's CARD OF 'restitchlaw02.SyntaxAgain'. -/
def syntaxAgainUptoCard : Claim7 := { stood := { row := syntaxAgainUptoRow, standIns := [], harness := (true, "97b7117fa6487fb488cf40ef5089ab8ee0d97008e73b654170a9eaee2bc5d6b8"), looks := true }, kinds := [], alts := [], laidByText := true, laidKinds := [.data, .data, .data, .sentinel, .sentinel], laidTests := true, laidLooks := .later }
def SyntaxAgainUptoCardSaid : Prop := Claim7.holds Tryz.pinned (.plain (OpenSpec.upto syntaxAgainSpec)) syntaxAgainUptoCard

/-- THE SECOND FORM's CARD OF 'restitchlaw02.SyntaxPrefix'. -/
def syntaxPrefixUptoCard : Claim7 := { stood := { row := syntaxPrefixUptoRow, standIns := [], harness := (true, "97b7117fa6487fb488cf40ef5089ab8ee0d97008e73b654170a9eaee2bc5d6b8"), looks := true }, kinds := [], alts := [], laidByText := true, laidKinds := [.data, .data, .data, .sentinel, .sentinel], laidTests := true, laidLooks := .later }
def SyntaxPrefixUptoCardSaid : Prop := Claim7.holds Tryz.pinned (.plain (OpenSpec.upto syntaxPrefixSpec)) syntaxPrefixUptoCard

/-- THE SECOND FORM's CARD OF 'restitchlaw02.SyntaxJoined'. -/
def syntaxJoinedUptoCard : Claim7 := { stood := { row := syntaxJoinedUptoRow, standIns := [], harness := (true, "97b7117fa6487fb488cf40ef5089ab8ee0d97008e73b654170a9eaee2bc5d6b8"), looks := true }, kinds := [], alts := [], laidByText := true, laidKinds := [.data, .data, .data, .sentinel, .sentinel], laidTests := true, laidLooks := .later }
def SyntaxJoinedUptoCardSaid : Prop := Claim7.holds Tryz.pinned (.plain (OpenSpec.upto syntaxJoinedSpec)) syntaxJoinedUptoCard

/-- THE SECOND FORM's CARD OF 'restitchlaw02.SyntaxWrapped'. -/
def syntaxWrappedUptoCard : Claim7 := { stood := { row := syntaxWrappedUptoRow, standIns := [], harness := (true, "97b7117fa6487fb488cf40ef5089ab8ee0d97008e73b654170a9eaee2bc5d6b8"), looks := true }, kinds := [], alts := [], laidByText := true, laidKinds := [.data, .data, .data, .sentinel, .sentinel], laidTests := true, laidLooks := .later }
def SyntaxWrappedUptoCardSaid : Prop := Claim7.holds Tryz.pinned (.plain (OpenSpec.upto syntaxWrappedSpec)) syntaxWrappedUptoCard

/-- THE SECOND FORM's CARD OF 'restitchlaw02.SyntaxIf'. -/
def syntaxIfUptoCard : Claim7 := { stood := { row := syntaxIfUptoRow, standIns := [], harness := (true, "97b7117fa6487fb488cf40ef5089ab8ee0d97008e73b654170a9eaee2bc5d6b8"), looks := true }, kinds := [], alts := [], laidByText := true, laidKinds := [.data, .data, .data, .sentinel, .sentinel], laidTests := true, laidLooks := .later }
def SyntaxIfUptoCardSaid : Prop := Claim7.holds Tryz.pinned (.plain (OpenSpec.upto syntaxIfSpec)) syntaxIfUptoCard
end Rows
end Go.Proofs.YtclgbmmambkiaaaGreatDoor
