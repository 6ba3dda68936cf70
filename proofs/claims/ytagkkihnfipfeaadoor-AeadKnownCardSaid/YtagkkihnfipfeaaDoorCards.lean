/-
  DERIVED. GIVEN WITH THE SEED: THE CARDS: each row of YtagkkihnfipfeaaDoorRows.lean that lists a variable, with what it lists TIED to the program's text (the seventh form; the later family's looks); each row that meets fmt, with fmt's text TOLD by the authors' own Lean function (tested against real Go, not proved from fmt's source: count such statements apart). THE CARD IS WHAT COUNTS. Prove the row's statement (the work); the ties are given (YtagkkihnfipfeaaDoorTie.lean); close each card by the builder's one call (the guide's Derived/Test/ToyasCard.lean, 'card_holds'). Laid BY PROGRAM, IN A SANDBOX (cutbox-door.mjs). By AI agents, Wed Nov 11 2026. No macro, syntax, notation, axiom, sorry.
-/
import Derived.Test.YtagkkihnfipfeaaDoorRows
import GoSem.ClaimSeven
namespace Go.Proofs.YtagkkihnfipfeaaDoor
namespace Rows

/-- THE TIED CARD OF 'sealerylaw05.AeadSeals'. -/
def aeadSealsCard : Claim7 := { stood := { row := aeadSealsRow, standIns := [], harness := (true, "ea8dc620b4aaf5ef5d28bff56af80a7be7c7f60e8d1e22a398d31103f5ece408"), looks := false }, kinds := [], alts := [], laidByText := true, laidKinds := [.data], laidTests := true, laidLooks := .later }
def AeadSealsCardSaid : Prop := Claim7.holds Tryd.pinned (.plain (OpenSpec.ofChange aeadSealsSpec)) aeadSealsCard

/-- THE TIED CARD OF 'sealerylaw05.AeadOpens'. -/
def aeadOpensCard : Claim7 := { stood := { row := aeadOpensRow, standIns := [], harness := (true, "ea8dc620b4aaf5ef5d28bff56af80a7be7c7f60e8d1e22a398d31103f5ece408"), looks := false }, kinds := [], alts := [], laidByText := true, laidKinds := [.data], laidTests := true, laidLooks := .later }
def AeadOpensCardSaid : Prop := Claim7.holds Tryd.pinned (.plain (OpenSpec.ofChange aeadOpensSpec)) aeadOpensCard

/-- THE TIED CARD OF 'sealerylaw05.AeadBack'. -/
def aeadBackCard : Claim7 := { stood := { row := aeadBackRow, standIns := [], harness := (true, "ea8dc620b4aaf5ef5d28bff56af80a7be7c7f60e8d1e22a398d31103f5ece408"), looks := false }, kinds := [], alts := [], laidByText := true, laidKinds := [.data], laidTests := true, laidLooks := .later }
def AeadBackCardSaid : Prop := Claim7.holds Tryd.pinned (.plain (OpenSpec.ofChange aeadBackSpec)) aeadBackCard

/-- THE TIED CARD OF 'sealerylaw05.AeadTags'. -/
def aeadTagsCard : Claim7 := { stood := { row := aeadTagsRow, standIns := [], harness := (true, "ea8dc620b4aaf5ef5d28bff56af80a7be7c7f60e8d1e22a398d31103f5ece408"), looks := false }, kinds := [], alts := [], laidByText := true, laidKinds := [.data], laidTests := true, laidLooks := .later }
def AeadTagsCardSaid : Prop := Claim7.holds Tryd.pinned (.plain (OpenSpec.ofChange aeadTagsSpec)) aeadTagsCard

/-- THE TIED CARD OF 'sealerylaw05.AeadStream'. -/
def aeadStreamCard : Claim7 := { stood := { row := aeadStreamRow, standIns := [], harness := (true, "ea8dc620b4aaf5ef5d28bff56af80a7be7c7f60e8d1e22a398d31103f5ece408"), looks := false }, kinds := [], alts := [], laidByText := true, laidKinds := [.data], laidTests := true, laidLooks := .later }
def AeadStreamCardSaid : Prop := Claim7.holds Tryd.pinned (.plain (OpenSpec.ofChange aeadStreamSpec)) aeadStreamCard

/-- THE TIED CARD OF 'sealerylaw05.AeadKnown'. -/
def aeadKnownCard : Claim7 := { stood := { row := aeadKnownRow, standIns := [], harness := (true, "ea8dc620b4aaf5ef5d28bff56af80a7be7c7f60e8d1e22a398d31103f5ece408"), looks := false }, kinds := [], alts := [], laidByText := true, laidKinds := [.data], laidTests := true, laidLooks := .later }
def AeadKnownCardSaid : Prop := Claim7.holds Tryd.pinned (.plain (OpenSpec.ofChange aeadKnownSpec)) aeadKnownCard

/-- THE SECOND FORM's CARD OF 'sealerylaw05.AeadSeals'. -/
def aeadSealsUptoCard : Claim7 := { stood := { row := aeadSealsUptoRow, standIns := [], harness := (true, "ea8dc620b4aaf5ef5d28bff56af80a7be7c7f60e8d1e22a398d31103f5ece408"), looks := false }, kinds := [], alts := [], laidByText := true, laidKinds := [.data], laidTests := true, laidLooks := .later }
def AeadSealsUptoCardSaid : Prop := Claim7.holds Tryd.pinned (.plain (OpenSpec.upto aeadSealsSpec)) aeadSealsUptoCard

/-- THE SECOND FORM's CARD OF 'sealerylaw05.AeadOpens'. -/
def aeadOpensUptoCard : Claim7 := { stood := { row := aeadOpensUptoRow, standIns := [], harness := (true, "ea8dc620b4aaf5ef5d28bff56af80a7be7c7f60e8d1e22a398d31103f5ece408"), looks := false }, kinds := [], alts := [], laidByText := true, laidKinds := [.data], laidTests := true, laidLooks := .later }
def AeadOpensUptoCardSaid : Prop := Claim7.holds Tryd.pinned (.plain (OpenSpec.upto aeadOpensSpec)) aeadOpensUptoCard

/-- THE SECOND FORM's CARD OF 'sealerylaw05.AeadBack'. -/
def aeadBackUptoCard : Claim7 := { stood := { row := aeadBackUptoRow, standIns := [], harness := (true, "ea8dc620b4aaf5ef5d28bff56af80a7be7c7f60e8d1e22a398d31103f5ece408"), looks := false }, kinds := [], alts := [], laidByText := true, laidKinds := [.data], laidTests := true, laidLooks := .later }
def AeadBackUptoCardSaid : Prop := Claim7.holds Tryd.pinned (.plain (OpenSpec.upto aeadBackSpec)) aeadBackUptoCard

/-- THE SECOND FORM's CARD OF 'sealerylaw05.AeadTags'. -/
def aeadTagsUptoCard : Claim7 := { stood := { row := aeadTagsUptoRow, standIns := [], harness := (true, "ea8dc620b4aaf5ef5d28bff56af80a7be7c7f60e8d1e22a398d31103f5ece408"), looks := false }, kinds := [], alts := [], laidByText := true, laidKinds := [.data], laidTests := true, laidLooks := .later }
def AeadTagsUptoCardSaid : Prop := Claim7.holds Tryd.pinned (.plain (OpenSpec.upto aeadTagsSpec)) aeadTagsUptoCard

/-- THE SECOND FORM's CARD OF 'sealerylaw05.AeadStream'. -/
def aeadStreamUptoCard : Claim7 := { stood := { row := aeadStreamUptoRow, standIns := [], harness := (true, "ea8dc620b4aaf5ef5d28bff56af80a7be7c7f60e8d1e22a398d31103f5ece408"), looks := false }, kinds := [], alts := [], laidByText := true, laidKinds := [.data], laidTests := true, laidLooks := .later }
def AeadStreamUptoCardSaid : Prop := Claim7.holds Tryd.pinned (.plain (OpenSpec.upto aeadStreamSpec)) aeadStreamUptoCard

/-- THE SECOND FORM's CARD OF 'sealerylaw05.AeadKnown'. -/
def aeadKnownUptoCard : Claim7 := { stood := { row := aeadKnownUptoRow, standIns := [], harness := (true, "ea8dc620b4aaf5ef5d28bff56af80a7be7c7f60e8d1e22a398d31103f5ece408"), looks := false }, kinds := [], alts := [], laidByText := true, laidKinds := [.data], laidTests := true, laidLooks := .later }
def AeadKnownUptoCardSaid : Prop := Claim7.holds Tryd.pinned (.plain (OpenSpec.upto aeadKnownSpec)) aeadKnownUptoCard
end Rows
end Go.Proofs.YtagkkihnfipfeaaDoor
