/-
  DERIVED. GIVEN WITH THE SEED: THE CARDS: each row of YtdlhflliojajcaaDoorRows.lean that lists a variable, with what it lists TIED to the program's text (the seventh form; the later family's looks); each row that meets fmt, with fmt's text TOLD by the authors' own Lean function (tested against real Go, not proved from fmt's source: count such statements apart). THE CARD IS WHAT COUNTS. Prove the row's statement (the work); the ties are given (YtdlhflliojajcaaDoorTie.lean); close each card by the builder's one call (the guide's Derived/Test/ToyasCard.lean, 'card_holds'). Laid BY PROGRAM, IN A SANDBOX (cutbox-door.mjs). By AI agents, Wed Nov 11 2026. No macro, syntax, notation, axiom, sorry.
-/
import Derived.Test.YtdlhflliojajcaaDoorRows
import GoSem.ClaimSeven
namespace Go.Proofs.YtdlhflliojajcaaDoor
namespace Rows

/-- THE TIED CARD OF 'sealerylaw01.ShaKnown'. -/
def shaKnownCard : Claim7 := { stood := { row := shaKnownRow, standIns := [], harness := (true, "e82e655f25a6739b97b0a597c510016f2385148725747f1e039564559e18914b"), looks := false }, kinds := [], alts := [], laidByText := true, laidKinds := [.data, .data], laidTests := true, laidLooks := .later }
def ShaKnownCardSaid : Prop := Claim7.holds Tryd.pinned (.plain (OpenSpec.ofChange shaKnownSpec)) shaKnownCard

/-- THE TIED CARD OF 'sealerylaw03.ChachaBlocks'. -/
def chachaBlocksCard : Claim7 := { stood := { row := chachaBlocksRow, standIns := [], harness := (true, "e82e655f25a6739b97b0a597c510016f2385148725747f1e039564559e18914b"), looks := false }, kinds := [], alts := [], laidByText := true, laidKinds := [.data], laidTests := true, laidLooks := .later }
def ChachaBlocksCardSaid : Prop := Claim7.holds Tryd.pinned (.plain (OpenSpec.ofChange chachaBlocksSpec)) chachaBlocksCard

/-- THE TIED CARD OF 'sealerylaw03.ChachaXors'. -/
def chachaXorsCard : Claim7 := { stood := { row := chachaXorsRow, standIns := [], harness := (true, "e82e655f25a6739b97b0a597c510016f2385148725747f1e039564559e18914b"), looks := false }, kinds := [], alts := [], laidByText := true, laidKinds := [.data], laidTests := true, laidLooks := .later }
def ChachaXorsCardSaid : Prop := Claim7.holds Tryd.pinned (.plain (OpenSpec.ofChange chachaXorsSpec)) chachaXorsCard

/-- THE TIED CARD OF 'sealerylaw03.ChachaBack'. -/
def chachaBackCard : Claim7 := { stood := { row := chachaBackRow, standIns := [], harness := (true, "e82e655f25a6739b97b0a597c510016f2385148725747f1e039564559e18914b"), looks := false }, kinds := [], alts := [], laidByText := true, laidKinds := [.data], laidTests := true, laidLooks := .later }
def ChachaBackCardSaid : Prop := Claim7.holds Tryd.pinned (.plain (OpenSpec.ofChange chachaBackSpec)) chachaBackCard

/-- THE TIED CARD OF 'sealerylaw03.ChachaPlaces'. -/
def chachaPlacesCard : Claim7 := { stood := { row := chachaPlacesRow, standIns := [], harness := (true, "e82e655f25a6739b97b0a597c510016f2385148725747f1e039564559e18914b"), looks := false }, kinds := [], alts := [], laidByText := true, laidKinds := [.data], laidTests := true, laidLooks := .later }
def ChachaPlacesCardSaid : Prop := Claim7.holds Tryd.pinned (.plain (OpenSpec.ofChange chachaPlacesSpec)) chachaPlacesCard

/-- THE TIED CARD OF 'sealerylaw03.ChachaStream'. -/
def chachaStreamCard : Claim7 := { stood := { row := chachaStreamRow, standIns := [], harness := (true, "e82e655f25a6739b97b0a597c510016f2385148725747f1e039564559e18914b"), looks := false }, kinds := [], alts := [], laidByText := true, laidKinds := [.data], laidTests := true, laidLooks := .later }
def ChachaStreamCardSaid : Prop := Claim7.holds Tryd.pinned (.plain (OpenSpec.ofChange chachaStreamSpec)) chachaStreamCard

/-- THE TIED CARD OF 'sealerylaw03.ChachaKnown'. -/
def chachaKnownCard : Claim7 := { stood := { row := chachaKnownRow, standIns := [], harness := (true, "e82e655f25a6739b97b0a597c510016f2385148725747f1e039564559e18914b"), looks := false }, kinds := [], alts := [], laidByText := true, laidKinds := [.data], laidTests := true, laidLooks := .later }
def ChachaKnownCardSaid : Prop := Claim7.holds Tryd.pinned (.plain (OpenSpec.ofChange chachaKnownSpec)) chachaKnownCard

/-- THE SECOND FORM's CARD OF 'sealerylaw01.ShaKnown'. -/
def shaKnownUptoCard : Claim7 := { stood := { row := shaKnownUptoRow, standIns := [], harness := (true, "e82e655f25a6739b97b0a597c510016f2385148725747f1e039564559e18914b"), looks := false }, kinds := [], alts := [], laidByText := true, laidKinds := [.data, .data], laidTests := true, laidLooks := .later }
def ShaKnownUptoCardSaid : Prop := Claim7.holds Tryd.pinned (.plain (OpenSpec.upto shaKnownSpec)) shaKnownUptoCard

/-- THE SECOND FORM's CARD OF 'sealerylaw03.ChachaBlocks'. -/
def chachaBlocksUptoCard : Claim7 := { stood := { row := chachaBlocksUptoRow, standIns := [], harness := (true, "e82e655f25a6739b97b0a597c510016f2385148725747f1e039564559e18914b"), looks := false }, kinds := [], alts := [], laidByText := true, laidKinds := [.data], laidTests := true, laidLooks := .later }
def ChachaBlocksUptoCardSaid : Prop := Claim7.holds Tryd.pinned (.plain (OpenSpec.upto chachaBlocksSpec)) chachaBlocksUptoCard

/-- THE SECOND FORM's CARD OF 'sealerylaw03.ChachaXors'. -/
def chachaXorsUptoCard : Claim7 := { stood := { row := chachaXorsUptoRow, standIns := [], harness := (true, "e82e655f25a6739b97b0a597c510016f2385148725747f1e039564559e18914b"), looks := false }, kinds := [], alts := [], laidByText := true, laidKinds := [.data], laidTests := true, laidLooks := .later }
def ChachaXorsUptoCardSaid : Prop := Claim7.holds Tryd.pinned (.plain (OpenSpec.upto chachaXorsSpec)) chachaXorsUptoCard

/-- THE SECOND FORM's CARD OF 'sealerylaw03.ChachaBack'. -/
def chachaBackUptoCard : Claim7 := { stood := { row := chachaBackUptoRow, standIns := [], harness := (true, "e82e655f25a6739b97b0a597c510016f2385148725747f1e039564559e18914b"), looks := false }, kinds := [], alts := [], laidByText := true, laidKinds := [.data], laidTests := true, laidLooks := .later }
def ChachaBackUptoCardSaid : Prop := Claim7.holds Tryd.pinned (.plain (OpenSpec.upto chachaBackSpec)) chachaBackUptoCard

/-- THE SECOND FORM's CARD OF 'sealerylaw03.ChachaPlaces'. -/
def chachaPlacesUptoCard : Claim7 := { stood := { row := chachaPlacesUptoRow, standIns := [], harness := (true, "e82e655f25a6739b97b0a597c510016f2385148725747f1e039564559e18914b"), looks := false }, kinds := [], alts := [], laidByText := true, laidKinds := [.data], laidTests := true, laidLooks := .later }
def ChachaPlacesUptoCardSaid : Prop := Claim7.holds Tryd.pinned (.plain (OpenSpec.upto chachaPlacesSpec)) chachaPlacesUptoCard

/-- THE SECOND FORM's CARD OF 'sealerylaw03.ChachaStream'. -/
def chachaStreamUptoCard : Claim7 := { stood := { row := chachaStreamUptoRow, standIns := [], harness := (true, "e82e655f25a6739b97b0a597c510016f2385148725747f1e039564559e18914b"), looks := false }, kinds := [], alts := [], laidByText := true, laidKinds := [.data], laidTests := true, laidLooks := .later }
def ChachaStreamUptoCardSaid : Prop := Claim7.holds Tryd.pinned (.plain (OpenSpec.upto chachaStreamSpec)) chachaStreamUptoCard

/-- THE SECOND FORM's CARD OF 'sealerylaw03.ChachaKnown'. -/
def chachaKnownUptoCard : Claim7 := { stood := { row := chachaKnownUptoRow, standIns := [], harness := (true, "e82e655f25a6739b97b0a597c510016f2385148725747f1e039564559e18914b"), looks := false }, kinds := [], alts := [], laidByText := true, laidKinds := [.data], laidTests := true, laidLooks := .later }
def ChachaKnownUptoCardSaid : Prop := Claim7.holds Tryd.pinned (.plain (OpenSpec.upto chachaKnownSpec)) chachaKnownUptoCard
end Rows
end Go.Proofs.YtdlhflliojajcaaDoor
