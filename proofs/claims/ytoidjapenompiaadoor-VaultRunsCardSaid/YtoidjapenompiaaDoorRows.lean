/-
  NARROWER THAN 'FOR EVERY INPUT', by the rows' own cells (each row's printed sentence says how): VaultRuns: laid · VaultZeroes: laid · VaultOpens: laid · VaultKnown: laid.
  DERIVED. THE GIVEN ROWS OF THIS SEAT. 4 by the template 'for every input the law returns true; each argument reads behind the call as it read before'; 0 by the template 'total and deterministic' (their statements: YtoidjapenompiaaDoorTotals.lean).
  GIVEN WITH THE SEED: the statements are not yours to turn. If you find one false, say at which input.
  Laid BY PROGRAM, IN A SANDBOX (cutbox-rows.mjs): the forced cells as the released guide's own fill.sh prints them over the translation 21ec4420d06f112e… (all of the seat's roots in one cut). By AI agents, Wed Nov 11 2026. No macro, syntax, notation, axiom, sorry.
-/
import Derived.Test.YtoidjapenompiaaDoorChecked
import GoSem.Claim
import GoSem.ClaimJoined
import GoSem.ClaimMapViews
import Derived.JoinedTies
import Derived.KernelRfl
namespace Go.Proofs.YtoidjapenompiaaDoor
/- THE CELL 'sum', in the pinned program and in every row, IS THE sha256 OF THE DUMP (.gsa) THAT YtoidjapenompiaaDoorProg.lean LOADS. Nothing in Lean hashes anything: it is a label: what it is worth is what the hold of that sum in a sandbox is worth. -/
noncomputable def Tryd.pinned : Pinned := { name := "ytoidjapenompiaadoor", sum := "21ec4420d06f112e3c3c868dacd098993c1715d12ab62c563a492d2bccf28a3b", checked := Tryd.checked }
namespace Rows
def none {H : Type} : Left H := { results := [], args := [] }

/- WHAT THE LISTED PACKAGE-LEVEL VARIABLES READ AS WHEN THE CALL BEGINS. Each datum BY PROGRAM (the guide's laid-datum.mjs) off the statement by which the dump's own 'gosem.cut.vars' lays the variable. In a bare row this is a premise. The card (YtoidjapenompiaaDoorCards.lean) ties it to the program's text. -/
def laid_sealery_frame_remainders {H : Type} : DataW H := .agg [.lit (.int .u32 0), .lit (.int .u32 498536548), .lit (.int .u32 997073096), .lit (.int .u32 651767980), .lit (.int .u32 1994146192), .lit (.int .u32 1802195444), .lit (.int .u32 1303535960), .lit (.int .u32 1342533948), .lit (.int .u32 3988292384), .lit (.int .u32 4027552580), .lit (.int .u32 3604390888), .lit (.int .u32 3412177804), .lit (.int .u32 2607071920), .lit (.int .u32 2262029012), .lit (.int .u32 2685067896), .lit (.int .u32 3183342108)]

/-- 'sealerylaw11.VaultRuns': WHATEVER THE INPUT: true; the input reads as it did. -/
def vaultRunsSpec : ChangeSpec := { name := "vaultRuns", fn := fun _ => fun
  | [d1, d2] => { results := [.lit (.bool true)], args := [d1, d2] }
  | _ => none }
def vaultRunsRow : OpenClaim := { program := "ytoidjapenompiaadoor", sum := "21ec4420d06f112e3c3c868dacd098993c1715d12ab62c563a492d2bccf28a3b", func := "sealery/sealerylaw11.VaultRuns", spec := "vaultRuns", unfollowed := true, recurses := true, named := ["sealery/frame.remainders"], apart := false, laid := [("sealery/frame.remainders", laid_sealery_frame_remainders)] }
def VaultRunsSaid : Prop := vaultRunsRow.holds Tryd.pinned (OpenSpec.ofChange vaultRunsSpec)

/-- ITS FALSE NEIGHBOUR: 'it returns false'. Refute it at one input. -/
def vaultRunsWrong : ChangeSpec := { name := "vaultRuns", fn := fun _ => fun
  | [d1, d2] => { results := [.lit (.bool false)], args := [d1, d2] }
  | _ => none }
def VaultRunsWrongFalsely : Prop := vaultRunsRow.holds Tryd.pinned (OpenSpec.ofChange vaultRunsWrong)

/-- 'sealerylaw11.VaultZeroes': WHATEVER THE INPUT: true; the input reads as it did. -/
def vaultZeroesSpec : ChangeSpec := { name := "vaultZeroes", fn := fun _ => fun
  | [d1, d2, d3] => { results := [.lit (.bool true)], args := [d1, d2, d3] }
  | _ => none }
def vaultZeroesRow : OpenClaim := { program := "ytoidjapenompiaadoor", sum := "21ec4420d06f112e3c3c868dacd098993c1715d12ab62c563a492d2bccf28a3b", func := "sealery/sealerylaw11.VaultZeroes", spec := "vaultZeroes", unfollowed := true, recurses := true, named := ["sealery/frame.remainders"], apart := false, laid := [("sealery/frame.remainders", laid_sealery_frame_remainders)] }
def VaultZeroesSaid : Prop := vaultZeroesRow.holds Tryd.pinned (OpenSpec.ofChange vaultZeroesSpec)

/-- ITS FALSE NEIGHBOUR: 'it returns false'. Refute it at one input. -/
def vaultZeroesWrong : ChangeSpec := { name := "vaultZeroes", fn := fun _ => fun
  | [d1, d2, d3] => { results := [.lit (.bool false)], args := [d1, d2, d3] }
  | _ => none }
def VaultZeroesWrongFalsely : Prop := vaultZeroesRow.holds Tryd.pinned (OpenSpec.ofChange vaultZeroesWrong)

/-- 'sealerylaw11.VaultOpens': WHATEVER THE INPUT: true; the input reads as it did. -/
def vaultOpensSpec : ChangeSpec := { name := "vaultOpens", fn := fun _ => fun
  | [d1, d2] => { results := [.lit (.bool true)], args := [d1, d2] }
  | _ => none }
def vaultOpensRow : OpenClaim := { program := "ytoidjapenompiaadoor", sum := "21ec4420d06f112e3c3c868dacd098993c1715d12ab62c563a492d2bccf28a3b", func := "sealery/sealerylaw11.VaultOpens", spec := "vaultOpens", unfollowed := true, recurses := true, named := ["sealery/frame.remainders"], apart := false, laid := [("sealery/frame.remainders", laid_sealery_frame_remainders)] }
def VaultOpensSaid : Prop := vaultOpensRow.holds Tryd.pinned (OpenSpec.ofChange vaultOpensSpec)

/-- ITS FALSE NEIGHBOUR: 'it returns false'. Refute it at one input. -/
def vaultOpensWrong : ChangeSpec := { name := "vaultOpens", fn := fun _ => fun
  | [d1, d2] => { results := [.lit (.bool false)], args := [d1, d2] }
  | _ => none }
def VaultOpensWrongFalsely : Prop := vaultOpensRow.holds Tryd.pinned (OpenSpec.ofChange vaultOpensWrong)

/-- 'sealerylaw11.VaultKnown': WHATEVER THE INPUT: true; the input reads as it did. -/
def vaultKnownSpec : ChangeSpec := { name := "vaultKnown", fn := fun _ => fun
  | [] => { results := [.lit (.bool true)], args := [] }
  | _ => none }
def vaultKnownRow : OpenClaim := { program := "ytoidjapenompiaadoor", sum := "21ec4420d06f112e3c3c868dacd098993c1715d12ab62c563a492d2bccf28a3b", func := "sealery/sealerylaw11.VaultKnown", spec := "vaultKnown", unfollowed := true, recurses := true, named := ["sealery/frame.remainders"], apart := false, laid := [("sealery/frame.remainders", laid_sealery_frame_remainders)] }
def VaultKnownSaid : Prop := vaultKnownRow.holds Tryd.pinned (OpenSpec.ofChange vaultKnownSpec)

/-- ITS FALSE NEIGHBOUR: 'it returns false'. Refute it at one input. -/
def vaultKnownWrong : ChangeSpec := { name := "vaultKnown", fn := fun _ => fun
  | [] => { results := [.lit (.bool false)], args := [] }
  | _ => none }
def VaultKnownWrongFalsely : Prop := vaultKnownRow.holds Tryd.pinned (OpenSpec.ofChange vaultKnownWrong)

/- THE SECOND FORM. 'bulk': how many values and letters a reading holds, each counted each time it is reached (what is shared counts as often as it is met; a slice's spare places count too). A statement '..UptoSaid' is the law's where the arguments, and the package variables that the reading takes, are together of bulk at most 1048576: NARROWER than '..Said'. Prove '..Said' where nothing that the law and all that it calls make is longer than what came in: it says more and counts as full. Else prove '..UptoSaid'. A law counts once. -/
mutual
def uptoBulk {H : Type} : DataW H → Nat
  | .lit (.string bytes) => bytes.length + 1
  | .lit _ => 1
  | .nil => 1
  | .ptr d => uptoBulk d + 1
  | .slice elems spare => uptoBulkAll elems + uptoBulkAll spare + 1
  | .agg parts => uptoBulkAll parts + 1
  | .iface _ d => uptoBulk d + 1
  | .map entries => uptoBulkEntries entries + 1
  | .held _ => 1
def uptoBulkAll {H : Type} : List (DataW H) → Nat
  | [] => 0
  | d :: r => uptoBulk d + uptoBulkAll r
def uptoBulkEntries {H : Type} : List (Lit × DataW H) → Nat
  | [] => 0
  | x :: r => uptoBulkEntry x + uptoBulkEntries r
def uptoBulkEntry {H : Type} : Lit × DataW H → Nat
  | (.string bytes, d) => bytes.length + uptoBulk d + 1
  | (_, d) => uptoBulk d + 1
 end
def uptoSmall : (H : Type) → List (DataW H) → Bool := fun _ ds => decide (uptoBulkAll ds ≤ 1048576)
def OpenSpec.upto (s : _root_.Go.ChangeSpec) : _root_.Go.OpenSpec := { _root_.Go.OpenSpec.ofChange s with cond := some uptoSmall }

/-- 'sealerylaw11.VaultRuns', WHERE WHAT IT READS IS OF BULK AT MOST 1048576: true; the input reads as it did. -/
def vaultRunsUptoRow : OpenClaim := { program := "ytoidjapenompiaadoor", sum := "21ec4420d06f112e3c3c868dacd098993c1715d12ab62c563a492d2bccf28a3b", func := "sealery/sealerylaw11.VaultRuns", spec := "vaultRuns", unfollowed := true, recurses := true, named := ["sealery/frame.remainders"], apart := false, laid := [("sealery/frame.remainders", laid_sealery_frame_remainders)], narrowed := true }
def VaultRunsUptoSaid : Prop := vaultRunsUptoRow.holds Tryd.pinned (OpenSpec.upto vaultRunsSpec)

/-- 'sealerylaw11.VaultZeroes', WHERE WHAT IT READS IS OF BULK AT MOST 1048576: true; the input reads as it did. -/
def vaultZeroesUptoRow : OpenClaim := { program := "ytoidjapenompiaadoor", sum := "21ec4420d06f112e3c3c868dacd098993c1715d12ab62c563a492d2bccf28a3b", func := "sealery/sealerylaw11.VaultZeroes", spec := "vaultZeroes", unfollowed := true, recurses := true, named := ["sealery/frame.remainders"], apart := false, laid := [("sealery/frame.remainders", laid_sealery_frame_remainders)], narrowed := true }
def VaultZeroesUptoSaid : Prop := vaultZeroesUptoRow.holds Tryd.pinned (OpenSpec.upto vaultZeroesSpec)

/-- 'sealerylaw11.VaultOpens', WHERE WHAT IT READS IS OF BULK AT MOST 1048576: true; the input reads as it did. -/
def vaultOpensUptoRow : OpenClaim := { program := "ytoidjapenompiaadoor", sum := "21ec4420d06f112e3c3c868dacd098993c1715d12ab62c563a492d2bccf28a3b", func := "sealery/sealerylaw11.VaultOpens", spec := "vaultOpens", unfollowed := true, recurses := true, named := ["sealery/frame.remainders"], apart := false, laid := [("sealery/frame.remainders", laid_sealery_frame_remainders)], narrowed := true }
def VaultOpensUptoSaid : Prop := vaultOpensUptoRow.holds Tryd.pinned (OpenSpec.upto vaultOpensSpec)

/-- 'sealerylaw11.VaultKnown', WHERE WHAT IT READS IS OF BULK AT MOST 1048576: true; the input reads as it did. -/
def vaultKnownUptoRow : OpenClaim := { program := "ytoidjapenompiaadoor", sum := "21ec4420d06f112e3c3c868dacd098993c1715d12ab62c563a492d2bccf28a3b", func := "sealery/sealerylaw11.VaultKnown", spec := "vaultKnown", unfollowed := true, recurses := true, named := ["sealery/frame.remainders"], apart := false, laid := [("sealery/frame.remainders", laid_sealery_frame_remainders)], narrowed := true }
def VaultKnownUptoSaid : Prop := vaultKnownUptoRow.holds Tryd.pinned (OpenSpec.upto vaultKnownSpec)

end Rows
end Go.Proofs.YtoidjapenompiaaDoor
