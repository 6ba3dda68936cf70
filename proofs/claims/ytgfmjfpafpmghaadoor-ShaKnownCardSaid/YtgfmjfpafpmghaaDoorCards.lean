/-
  DERIVED. GIVEN WITH THE SEED: THE CARDS: each row of YtgfmjfpafpmghaaDoorRows.lean that lists a variable, with what it lists TIED to the program's text (the seventh form; the later family's looks); each row that meets fmt, with fmt's text TOLD by the authors' own Lean function (tested against real Go, not proved from fmt's source: count such statements apart). THE CARD IS WHAT COUNTS. Prove the row's statement (the work); the ties are given (YtgfmjfpafpmghaaDoorTie.lean); close each card by the builder's one call (the guide's Derived/Test/ToyasCard.lean, 'card_holds'). Laid BY PROGRAM, IN A SANDBOX (cutbox-door.mjs). By AI agents, Wed Nov 11 2026. No macro, syntax, notation, axiom, sorry.
-/
import Derived.Test.YtgfmjfpafpmghaaDoorRows
import GoSem.ClaimSeven
namespace Go.Proofs.YtgfmjfpafpmghaaDoor
namespace Rows

/-- THE TIED CARD OF 'sealerylaw01.ShaKnown'. -/
def shaKnownCard : Claim7 := { stood := { row := shaKnownRow, standIns := [], harness := (true, "ca040618b1cc7319c05d56b0010763da4ea35d725f2e87ba1f408151eb1d8447"), looks := false }, kinds := [], alts := [], laidByText := true, laidKinds := [.data, .data], laidTests := true, laidLooks := .later }
def ShaKnownCardSaid : Prop := Claim7.holds Tryd.pinned (.plain (OpenSpec.ofChange shaKnownSpec)) shaKnownCard

/-- THE TIED CARD OF 'sealerylaw03.ChachaKnown'. -/
def chachaKnownCard : Claim7 := { stood := { row := chachaKnownRow, standIns := [], harness := (true, "ca040618b1cc7319c05d56b0010763da4ea35d725f2e87ba1f408151eb1d8447"), looks := false }, kinds := [], alts := [], laidByText := true, laidKinds := [.data], laidTests := true, laidLooks := .later }
def ChachaKnownCardSaid : Prop := Claim7.holds Tryd.pinned (.plain (OpenSpec.ofChange chachaKnownSpec)) chachaKnownCard

/-- THE SECOND FORM's CARD OF 'sealerylaw01.ShaKnown'. -/
def shaKnownUptoCard : Claim7 := { stood := { row := shaKnownUptoRow, standIns := [], harness := (true, "ca040618b1cc7319c05d56b0010763da4ea35d725f2e87ba1f408151eb1d8447"), looks := false }, kinds := [], alts := [], laidByText := true, laidKinds := [.data, .data], laidTests := true, laidLooks := .later }
def ShaKnownUptoCardSaid : Prop := Claim7.holds Tryd.pinned (.plain (OpenSpec.upto shaKnownSpec)) shaKnownUptoCard

/-- THE SECOND FORM's CARD OF 'sealerylaw03.ChachaKnown'. -/
def chachaKnownUptoCard : Claim7 := { stood := { row := chachaKnownUptoRow, standIns := [], harness := (true, "ca040618b1cc7319c05d56b0010763da4ea35d725f2e87ba1f408151eb1d8447"), looks := false }, kinds := [], alts := [], laidByText := true, laidKinds := [.data], laidTests := true, laidLooks := .later }
def ChachaKnownUptoCardSaid : Prop := Claim7.holds Tryd.pinned (.plain (OpenSpec.upto chachaKnownSpec)) chachaKnownUptoCard
end Rows
end Go.Proofs.YtgfmjfpafpmghaaDoor
