/-
  DERIVED. GIVEN WITH THE SEED: THE CARDS: each row of YteanjfcejpibaaaDoorRows.lean that lists a variable, with what it lists TIED to the program's text (the seventh form; the later family's looks); each row that meets fmt, with fmt's text TOLD by the authors' own Lean function (tested against real Go, not proved from fmt's source: count such statements apart). THE CARD IS WHAT COUNTS. Prove the row's statement (the work); the ties are given (YteanjfcejpibaaaDoorTie.lean); close each card by the builder's one call (the guide's Derived/Test/ToyasCard.lean, 'card_holds'). Laid BY PROGRAM, IN A SANDBOX (cutbox-door.mjs). By AI agents, Wed Nov 11 2026. No macro, syntax, notation, axiom, sorry.
-/
import Derived.Test.YteanjfcejpibaaaDoorRows
import GoSem.ClaimSeven
namespace Go.Proofs.YteanjfcejpibaaaDoor
namespace Rows

/-- THE TIED CARD OF 'sealerylaw10.WalLasts'. -/
def walLastsCard : Claim7 := { stood := { row := walLastsRow, standIns := [], harness := (true, "78f706ca2a9999220cbb079bc5d5bb961ffa95f6ff141c33dde97ec5d428fc76"), looks := false }, kinds := [], alts := [], laidByText := true, laidKinds := [.data], laidTests := true, laidLooks := .later }
def WalLastsCardSaid : Prop := Claim7.holds Tryd.pinned (.plain (OpenSpec.ofChange walLastsSpec)) walLastsCard

/-- THE TIED CARD OF 'sealerylaw10.WalAgain'. -/
def walAgainCard : Claim7 := { stood := { row := walAgainRow, standIns := [], harness := (true, "78f706ca2a9999220cbb079bc5d5bb961ffa95f6ff141c33dde97ec5d428fc76"), looks := false }, kinds := [], alts := [], laidByText := true, laidKinds := [.data], laidTests := true, laidLooks := .later }
def WalAgainCardSaid : Prop := Claim7.holds Tryd.pinned (.plain (OpenSpec.ofChange walAgainSpec)) walAgainCard

/-- THE TIED CARD OF 'sealerylaw10.WalFits'. -/
def walFitsCard : Claim7 := { stood := { row := walFitsRow, standIns := [], harness := (true, "78f706ca2a9999220cbb079bc5d5bb961ffa95f6ff141c33dde97ec5d428fc76"), looks := false }, kinds := [], alts := [], laidByText := true, laidKinds := [.data], laidTests := true, laidLooks := .later }
def WalFitsCardSaid : Prop := Claim7.holds Tryd.pinned (.plain (OpenSpec.ofChange walFitsSpec)) walFitsCard

/-- THE TIED CARD OF 'sealerylaw10.WalKnown'. -/
def walKnownCard : Claim7 := { stood := { row := walKnownRow, standIns := [], harness := (true, "78f706ca2a9999220cbb079bc5d5bb961ffa95f6ff141c33dde97ec5d428fc76"), looks := false }, kinds := [], alts := [], laidByText := true, laidKinds := [.data], laidTests := true, laidLooks := .later }
def WalKnownCardSaid : Prop := Claim7.holds Tryd.pinned (.plain (OpenSpec.ofChange walKnownSpec)) walKnownCard

/-- THE SECOND FORM's CARD OF 'sealerylaw10.WalLasts'. -/
def walLastsUptoCard : Claim7 := { stood := { row := walLastsUptoRow, standIns := [], harness := (true, "78f706ca2a9999220cbb079bc5d5bb961ffa95f6ff141c33dde97ec5d428fc76"), looks := false }, kinds := [], alts := [], laidByText := true, laidKinds := [.data], laidTests := true, laidLooks := .later }
def WalLastsUptoCardSaid : Prop := Claim7.holds Tryd.pinned (.plain (OpenSpec.upto walLastsSpec)) walLastsUptoCard

/-- THE SECOND FORM's CARD OF 'sealerylaw10.WalAgain'. -/
def walAgainUptoCard : Claim7 := { stood := { row := walAgainUptoRow, standIns := [], harness := (true, "78f706ca2a9999220cbb079bc5d5bb961ffa95f6ff141c33dde97ec5d428fc76"), looks := false }, kinds := [], alts := [], laidByText := true, laidKinds := [.data], laidTests := true, laidLooks := .later }
def WalAgainUptoCardSaid : Prop := Claim7.holds Tryd.pinned (.plain (OpenSpec.upto walAgainSpec)) walAgainUptoCard

/-- THE SECOND FORM's CARD OF 'sealerylaw10.WalFits'. -/
def walFitsUptoCard : Claim7 := { stood := { row := walFitsUptoRow, standIns := [], harness := (true, "78f706ca2a9999220cbb079bc5d5bb961ffa95f6ff141c33dde97ec5d428fc76"), looks := false }, kinds := [], alts := [], laidByText := true, laidKinds := [.data], laidTests := true, laidLooks := .later }
def WalFitsUptoCardSaid : Prop := Claim7.holds Tryd.pinned (.plain (OpenSpec.upto walFitsSpec)) walFitsUptoCard

/-- THE SECOND FORM's CARD OF 'sealerylaw10.WalKnown'. -/
def walKnownUptoCard : Claim7 := { stood := { row := walKnownUptoRow, standIns := [], harness := (true, "78f706ca2a9999220cbb079bc5d5bb961ffa95f6ff141c33dde97ec5d428fc76"), looks := false }, kinds := [], alts := [], laidByText := true, laidKinds := [.data], laidTests := true, laidLooks := .later }
def WalKnownUptoCardSaid : Prop := Claim7.holds Tryd.pinned (.plain (OpenSpec.upto walKnownSpec)) walKnownUptoCard
end Rows
end Go.Proofs.YteanjfcejpibaaaDoor
