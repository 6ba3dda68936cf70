/-
  DERIVED. GIVEN WITH THE SEED: THE CARDS: each row of YtoidjapenompiaaDoorRows.lean that lists a variable, with what it lists TIED to the program's text (the seventh form; the later family's looks); each row that meets fmt, with fmt's text TOLD by the authors' own Lean function (tested against real Go, not proved from fmt's source: count such statements apart). THE CARD IS WHAT COUNTS. Prove the row's statement (the work); the ties are given (YtoidjapenompiaaDoorTie.lean); close each card by the builder's one call (the guide's Derived/Test/ToyasCard.lean, 'card_holds'). Laid BY PROGRAM, IN A SANDBOX (cutbox-door.mjs). By AI agents, Wed Nov 11 2026. No macro, syntax, notation, axiom, sorry.
-/
import Derived.Test.YtoidjapenompiaaDoorRows
import GoSem.ClaimSeven
namespace Go.Proofs.YtoidjapenompiaaDoor
namespace Rows

/-- THE TIED CARD OF 'sealerylaw11.VaultRuns'. -/
def vaultRunsCard : Claim7 := { stood := { row := vaultRunsRow, standIns := [], harness := (true, "87bf9a30e17c45e05ed285b571af3626364cf8f026cac6847f2cfe58e0f751b1"), looks := false }, kinds := [], alts := [], laidByText := true, laidKinds := [.data], laidTests := true, laidLooks := .later }
def VaultRunsCardSaid : Prop := Claim7.holds Tryd.pinned (.plain (OpenSpec.ofChange vaultRunsSpec)) vaultRunsCard

/-- THE TIED CARD OF 'sealerylaw11.VaultZeroes'. -/
def vaultZeroesCard : Claim7 := { stood := { row := vaultZeroesRow, standIns := [], harness := (true, "87bf9a30e17c45e05ed285b571af3626364cf8f026cac6847f2cfe58e0f751b1"), looks := false }, kinds := [], alts := [], laidByText := true, laidKinds := [.data], laidTests := true, laidLooks := .later }
def VaultZeroesCardSaid : Prop := Claim7.holds Tryd.pinned (.plain (OpenSpec.ofChange vaultZeroesSpec)) vaultZeroesCard

/-- THE TIED CARD OF 'sealerylaw11.VaultOpens'. -/
def vaultOpensCard : Claim7 := { stood := { row := vaultOpensRow, standIns := [], harness := (true, "87bf9a30e17c45e05ed285b571af3626364cf8f026cac6847f2cfe58e0f751b1"), looks := false }, kinds := [], alts := [], laidByText := true, laidKinds := [.data], laidTests := true, laidLooks := .later }
def VaultOpensCardSaid : Prop := Claim7.holds Tryd.pinned (.plain (OpenSpec.ofChange vaultOpensSpec)) vaultOpensCard

/-- THE TIED CARD OF 'sealerylaw11.VaultKnown'. -/
def vaultKnownCard : Claim7 := { stood := { row := vaultKnownRow, standIns := [], harness := (true, "87bf9a30e17c45e05ed285b571af3626364cf8f026cac6847f2cfe58e0f751b1"), looks := false }, kinds := [], alts := [], laidByText := true, laidKinds := [.data], laidTests := true, laidLooks := .later }
def VaultKnownCardSaid : Prop := Claim7.holds Tryd.pinned (.plain (OpenSpec.ofChange vaultKnownSpec)) vaultKnownCard

/-- THE SECOND FORM's CARD OF 'sealerylaw11.VaultRuns'. -/
def vaultRunsUptoCard : Claim7 := { stood := { row := vaultRunsUptoRow, standIns := [], harness := (true, "87bf9a30e17c45e05ed285b571af3626364cf8f026cac6847f2cfe58e0f751b1"), looks := false }, kinds := [], alts := [], laidByText := true, laidKinds := [.data], laidTests := true, laidLooks := .later }
def VaultRunsUptoCardSaid : Prop := Claim7.holds Tryd.pinned (.plain (OpenSpec.upto vaultRunsSpec)) vaultRunsUptoCard

/-- THE SECOND FORM's CARD OF 'sealerylaw11.VaultZeroes'. -/
def vaultZeroesUptoCard : Claim7 := { stood := { row := vaultZeroesUptoRow, standIns := [], harness := (true, "87bf9a30e17c45e05ed285b571af3626364cf8f026cac6847f2cfe58e0f751b1"), looks := false }, kinds := [], alts := [], laidByText := true, laidKinds := [.data], laidTests := true, laidLooks := .later }
def VaultZeroesUptoCardSaid : Prop := Claim7.holds Tryd.pinned (.plain (OpenSpec.upto vaultZeroesSpec)) vaultZeroesUptoCard

/-- THE SECOND FORM's CARD OF 'sealerylaw11.VaultOpens'. -/
def vaultOpensUptoCard : Claim7 := { stood := { row := vaultOpensUptoRow, standIns := [], harness := (true, "87bf9a30e17c45e05ed285b571af3626364cf8f026cac6847f2cfe58e0f751b1"), looks := false }, kinds := [], alts := [], laidByText := true, laidKinds := [.data], laidTests := true, laidLooks := .later }
def VaultOpensUptoCardSaid : Prop := Claim7.holds Tryd.pinned (.plain (OpenSpec.upto vaultOpensSpec)) vaultOpensUptoCard

/-- THE SECOND FORM's CARD OF 'sealerylaw11.VaultKnown'. -/
def vaultKnownUptoCard : Claim7 := { stood := { row := vaultKnownUptoRow, standIns := [], harness := (true, "87bf9a30e17c45e05ed285b571af3626364cf8f026cac6847f2cfe58e0f751b1"), looks := false }, kinds := [], alts := [], laidByText := true, laidKinds := [.data], laidTests := true, laidLooks := .later }
def VaultKnownUptoCardSaid : Prop := Claim7.holds Tryd.pinned (.plain (OpenSpec.upto vaultKnownSpec)) vaultKnownUptoCard
end Rows
end Go.Proofs.YtoidjapenompiaaDoor
