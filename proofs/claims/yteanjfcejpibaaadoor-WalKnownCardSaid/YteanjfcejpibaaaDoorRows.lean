/-
  NARROWER THAN 'FOR EVERY INPUT', by the rows' own cells (each row's printed sentence says how): WalLasts: laid · WalAgain: laid · WalFits: laid · WalKnown: laid.
  DERIVED. THE GIVEN ROWS OF THIS SEAT. 4 by the template 'for every input the law returns true; each argument reads behind the call as it read before'; 0 by the template 'total and deterministic' (their statements: YteanjfcejpibaaaDoorTotals.lean).
  GIVEN WITH THE SEED: the statements are not yours to turn. If you find one false, say at which input.
  Laid BY PROGRAM, IN A SANDBOX (cutbox-rows.mjs): the forced cells as the released guide's own fill.sh prints them over the translation 4b4a5ea745ab2062… (all of the seat's roots in one cut). By AI agents, Wed Nov 11 2026. No macro, syntax, notation, axiom, sorry.
-/
import Derived.Test.YteanjfcejpibaaaDoorChecked
import GoSem.Claim
import GoSem.ClaimJoined
import GoSem.ClaimMapViews
import Derived.JoinedTies
import Derived.KernelRfl
namespace Go.Proofs.YteanjfcejpibaaaDoor
/- THE CELL 'sum', in the pinned program and in every row, IS THE sha256 OF THE DUMP (.gsa) THAT YteanjfcejpibaaaDoorProg.lean LOADS. Nothing in Lean hashes anything: it is a label: what it is worth is what the hold of that sum in a sandbox is worth. -/
noncomputable def Tryd.pinned : Pinned := { name := "yteanjfcejpibaaadoor", sum := "4b4a5ea745ab2062c2662a02ee981c48c5aedac93ca9d1f618019a01005e58bb", checked := Tryd.checked }
namespace Rows
def none {H : Type} : Left H := { results := [], args := [] }

/- WHAT THE LISTED PACKAGE-LEVEL VARIABLES READ AS WHEN THE CALL BEGINS. Each datum BY PROGRAM (the guide's laid-datum.mjs) off the statement by which the dump's own 'gosem.cut.vars' lays the variable. In a bare row this is a premise. The card (YteanjfcejpibaaaDoorCards.lean) ties it to the program's text. -/
def laid_sealery_frame_remainders {H : Type} : DataW H := .agg [.lit (.int .u32 0), .lit (.int .u32 498536548), .lit (.int .u32 997073096), .lit (.int .u32 651767980), .lit (.int .u32 1994146192), .lit (.int .u32 1802195444), .lit (.int .u32 1303535960), .lit (.int .u32 1342533948), .lit (.int .u32 3988292384), .lit (.int .u32 4027552580), .lit (.int .u32 3604390888), .lit (.int .u32 3412177804), .lit (.int .u32 2607071920), .lit (.int .u32 2262029012), .lit (.int .u32 2685067896), .lit (.int .u32 3183342108)]

/-- 'sealerylaw10.WalLasts': WHATEVER THE INPUT: true; the input reads as it did. -/
def walLastsSpec : ChangeSpec := { name := "walLasts", fn := fun _ => fun
  | [d] => { results := [.lit (.bool true)], args := [d] }
  | _ => none }
def walLastsRow : OpenClaim := { program := "yteanjfcejpibaaadoor", sum := "4b4a5ea745ab2062c2662a02ee981c48c5aedac93ca9d1f618019a01005e58bb", func := "sealery/sealerylaw10.WalLasts", spec := "walLasts", unfollowed := true, recurses := true, named := ["sealery/frame.remainders"], apart := false, laid := [("sealery/frame.remainders", laid_sealery_frame_remainders)] }
def WalLastsSaid : Prop := walLastsRow.holds Tryd.pinned (OpenSpec.ofChange walLastsSpec)

/-- ITS FALSE NEIGHBOUR: 'it returns false'. Refute it at one input. -/
def walLastsWrong : ChangeSpec := { name := "walLasts", fn := fun _ => fun
  | [d] => { results := [.lit (.bool false)], args := [d] }
  | _ => none }
def WalLastsWrongFalsely : Prop := walLastsRow.holds Tryd.pinned (OpenSpec.ofChange walLastsWrong)

/-- 'sealerylaw10.WalAgain': WHATEVER THE INPUT: true; the input reads as it did. -/
def walAgainSpec : ChangeSpec := { name := "walAgain", fn := fun _ => fun
  | [d1, d2] => { results := [.lit (.bool true)], args := [d1, d2] }
  | _ => none }
def walAgainRow : OpenClaim := { program := "yteanjfcejpibaaadoor", sum := "4b4a5ea745ab2062c2662a02ee981c48c5aedac93ca9d1f618019a01005e58bb", func := "sealery/sealerylaw10.WalAgain", spec := "walAgain", unfollowed := true, recurses := true, named := ["sealery/frame.remainders"], apart := false, laid := [("sealery/frame.remainders", laid_sealery_frame_remainders)] }
def WalAgainSaid : Prop := walAgainRow.holds Tryd.pinned (OpenSpec.ofChange walAgainSpec)

/-- ITS FALSE NEIGHBOUR: 'it returns false'. Refute it at one input. -/
def walAgainWrong : ChangeSpec := { name := "walAgain", fn := fun _ => fun
  | [d1, d2] => { results := [.lit (.bool false)], args := [d1, d2] }
  | _ => none }
def WalAgainWrongFalsely : Prop := walAgainRow.holds Tryd.pinned (OpenSpec.ofChange walAgainWrong)

/-- 'sealerylaw10.WalFits': WHATEVER THE INPUT: true; the input reads as it did. -/
def walFitsSpec : ChangeSpec := { name := "walFits", fn := fun _ => fun
  | [d1, d2] => { results := [.lit (.bool true)], args := [d1, d2] }
  | _ => none }
def walFitsRow : OpenClaim := { program := "yteanjfcejpibaaadoor", sum := "4b4a5ea745ab2062c2662a02ee981c48c5aedac93ca9d1f618019a01005e58bb", func := "sealery/sealerylaw10.WalFits", spec := "walFits", unfollowed := true, recurses := true, named := ["sealery/frame.remainders"], apart := false, laid := [("sealery/frame.remainders", laid_sealery_frame_remainders)] }
def WalFitsSaid : Prop := walFitsRow.holds Tryd.pinned (OpenSpec.ofChange walFitsSpec)

/-- ITS FALSE NEIGHBOUR: 'it returns false'. Refute it at one input. -/
def walFitsWrong : ChangeSpec := { name := "walFits", fn := fun _ => fun
  | [d1, d2] => { results := [.lit (.bool false)], args := [d1, d2] }
  | _ => none }
def WalFitsWrongFalsely : Prop := walFitsRow.holds Tryd.pinned (OpenSpec.ofChange walFitsWrong)

/-- 'sealerylaw10.WalKnown': WHATEVER THE INPUT: true; the input reads as it did. -/
def walKnownSpec : ChangeSpec := { name := "walKnown", fn := fun _ => fun
  | [] => { results := [.lit (.bool true)], args := [] }
  | _ => none }
def walKnownRow : OpenClaim := { program := "yteanjfcejpibaaadoor", sum := "4b4a5ea745ab2062c2662a02ee981c48c5aedac93ca9d1f618019a01005e58bb", func := "sealery/sealerylaw10.WalKnown", spec := "walKnown", unfollowed := true, recurses := true, named := ["sealery/frame.remainders"], apart := false, laid := [("sealery/frame.remainders", laid_sealery_frame_remainders)] }
def WalKnownSaid : Prop := walKnownRow.holds Tryd.pinned (OpenSpec.ofChange walKnownSpec)

/-- ITS FALSE NEIGHBOUR: 'it returns false'. Refute it at one input. -/
def walKnownWrong : ChangeSpec := { name := "walKnown", fn := fun _ => fun
  | [] => { results := [.lit (.bool false)], args := [] }
  | _ => none }
def WalKnownWrongFalsely : Prop := walKnownRow.holds Tryd.pinned (OpenSpec.ofChange walKnownWrong)

/- THE SECOND FORM. 'bulk': how many values and letters a reading holds, each counted each time it is reached (what is shared counts as often as it is met; a slice's spare places count too). A statement '..UptoSaid' is the law's where the arguments, and the package variables that the reading takes, are together of bulk at most 1048576: NARROWER than '..Said'. Prove '..Said' where nothing that the law and all that it calls make is longer than what came in: it says more and counts as full. Else prove '..UptoSaid'. A law counts once. -/
mutual
def uptoBulk {H : Type} : DataW H → Nat
  | .lit (.string bytes) => bytes.length + 1
  | .lit _ => 1
  | .nil => 1
  | .ptr d => uptoBulk d + 1
  | .slice elems spare => uptoBulkAll elems + uptoBulkAll spare + 1
  | .agg parts => uptoBulkAll parts + 1
  | .iface _ d => uptoBulk d + 1
  | .map entries => uptoBulkEntries entries + 1
  | .held _ => 1
def uptoBulkAll {H : Type} : List (DataW H) → Nat
  | [] => 0
  | d :: r => uptoBulk d + uptoBulkAll r
def uptoBulkEntries {H : Type} : List (Lit × DataW H) → Nat
  | [] => 0
  | x :: r => uptoBulkEntry x + uptoBulkEntries r
def uptoBulkEntry {H : Type} : Lit × DataW H → Nat
  | (.string bytes, d) => bytes.length + uptoBulk d + 1
  | (_, d) => uptoBulk d + 1
 end
def uptoSmall : (H : Type) → List (DataW H) → Bool := fun _ ds => decide (uptoBulkAll ds ≤ 1048576)
def OpenSpec.upto (s : _root_.Go.ChangeSpec) : _root_.Go.OpenSpec := { _root_.Go.OpenSpec.ofChange s with cond := some uptoSmall }

/-- 'sealerylaw10.WalLasts', WHERE WHAT IT READS IS OF BULK AT MOST 1048576: true; the input reads as it did. -/
def walLastsUptoRow : OpenClaim := { program := "yteanjfcejpibaaadoor", sum := "4b4a5ea745ab2062c2662a02ee981c48c5aedac93ca9d1f618019a01005e58bb", func := "sealery/sealerylaw10.WalLasts", spec := "walLasts", unfollowed := true, recurses := true, named := ["sealery/frame.remainders"], apart := false, laid := [("sealery/frame.remainders", laid_sealery_frame_remainders)], narrowed := true }
def WalLastsUptoSaid : Prop := walLastsUptoRow.holds Tryd.pinned (OpenSpec.upto walLastsSpec)

/-- 'sealerylaw10.WalAgain', WHERE WHAT IT READS IS OF BULK AT MOST 1048576: true; the input reads as it did. -/
def walAgainUptoRow : OpenClaim := { program := "yteanjfcejpibaaadoor", sum := "4b4a5ea745ab2062c2662a02ee981c48c5aedac93ca9d1f618019a01005e58bb", func := "sealery/sealerylaw10.WalAgain", spec := "walAgain", unfollowed := true, recurses := true, named := ["sealery/frame.remainders"], apart := false, laid := [("sealery/frame.remainders", laid_sealery_frame_remainders)], narrowed := true }
def WalAgainUptoSaid : Prop := walAgainUptoRow.holds Tryd.pinned (OpenSpec.upto walAgainSpec)

/-- 'sealerylaw10.WalFits', WHERE WHAT IT READS IS OF BULK AT MOST 1048576: true; the input reads as it did. -/
def walFitsUptoRow : OpenClaim := { program := "yteanjfcejpibaaadoor", sum := "4b4a5ea745ab2062c2662a02ee981c48c5aedac93ca9d1f618019a01005e58bb", func := "sealery/sealerylaw10.WalFits", spec := "walFits", unfollowed := true, recurses := true, named := ["sealery/frame.remainders"], apart := false, laid := [("sealery/frame.remainders", laid_sealery_frame_remainders)], narrowed := true }
def WalFitsUptoSaid : Prop := walFitsUptoRow.holds Tryd.pinned (OpenSpec.upto walFitsSpec)

/-- 'sealerylaw10.WalKnown', WHERE WHAT IT READS IS OF BULK AT MOST 1048576: true; the input reads as it did. -/
def walKnownUptoRow : OpenClaim := { program := "yteanjfcejpibaaadoor", sum := "4b4a5ea745ab2062c2662a02ee981c48c5aedac93ca9d1f618019a01005e58bb", func := "sealery/sealerylaw10.WalKnown", spec := "walKnown", unfollowed := true, recurses := true, named := ["sealery/frame.remainders"], apart := false, laid := [("sealery/frame.remainders", laid_sealery_frame_remainders)], narrowed := true }
def WalKnownUptoSaid : Prop := walKnownUptoRow.holds Tryd.pinned (OpenSpec.upto walKnownSpec)

end Rows
end Go.Proofs.YteanjfcejpibaaaDoor
