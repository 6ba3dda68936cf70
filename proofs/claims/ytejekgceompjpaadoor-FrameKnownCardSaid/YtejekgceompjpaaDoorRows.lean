/-
  NARROWER THAN 'FOR EVERY INPUT', by the rows' own cells (each row's printed sentence says how): FramePuts: laid · FrameGets: laid · FrameBack: laid · FrameTurned: laid · FrameScans: laid · FrameForm: laid · FrameLinear: laid · FrameKnown: laid.
  DERIVED. THE GIVEN ROWS OF THIS SEAT. 8 by the template 'for every input the law returns true; each argument reads behind the call as it read before'; 0 by the template 'total and deterministic' (their statements: YtejekgceompjpaaDoorTotals.lean).
  GIVEN WITH THE SEED: the statements are not yours to turn. If you find one false, say at which input.
  Laid BY PROGRAM, IN A SANDBOX (cutbox-rows.mjs): the forced cells as the released guide's own fill.sh prints them over the translation 41d17e7ae2a1004a… (all of the seat's roots in one cut). By AI agents, Wed Nov 11 2026. No macro, syntax, notation, axiom, sorry.
-/
import Derived.Test.YtejekgceompjpaaDoorChecked
import GoSem.Claim
import GoSem.ClaimJoined
import GoSem.ClaimMapViews
import Derived.JoinedTies
import Derived.KernelRfl
namespace Go.Proofs.YtejekgceompjpaaDoor
/- THE CELL 'sum', in the pinned program and in every row, IS THE sha256 OF THE DUMP (.gsa) THAT YtejekgceompjpaaDoorProg.lean LOADS. Nothing in Lean hashes anything: it is a label: what it is worth is what the hold of that sum in a sandbox is worth. -/
noncomputable def Tryd.pinned : Pinned := { name := "ytejekgceompjpaadoor", sum := "41d17e7ae2a1004a5a0eaecee0aa4aee8d92e2f854359279968fc32d4b219813", checked := Tryd.checked }
namespace Rows
def none {H : Type} : Left H := { results := [], args := [] }

/- WHAT THE LISTED PACKAGE-LEVEL VARIABLES READ AS WHEN THE CALL BEGINS. Each datum BY PROGRAM (the guide's laid-datum.mjs) off the statement by which the dump's own 'gosem.cut.vars' lays the variable. In a bare row this is a premise. The card (YtejekgceompjpaaDoorCards.lean) ties it to the program's text. -/
def laid_sealery_frame_remainders {H : Type} : DataW H := .agg [.lit (.int .u32 0), .lit (.int .u32 498536548), .lit (.int .u32 997073096), .lit (.int .u32 651767980), .lit (.int .u32 1994146192), .lit (.int .u32 1802195444), .lit (.int .u32 1303535960), .lit (.int .u32 1342533948), .lit (.int .u32 3988292384), .lit (.int .u32 4027552580), .lit (.int .u32 3604390888), .lit (.int .u32 3412177804), .lit (.int .u32 2607071920), .lit (.int .u32 2262029012), .lit (.int .u32 2685067896), .lit (.int .u32 3183342108)]

/-- 'sealerylaw09.FramePuts': WHATEVER THE INPUT: true; the input reads as it did. -/
def framePutsSpec : ChangeSpec := { name := "framePuts", fn := fun _ => fun
  | [d1, d2] => { results := [.lit (.bool true)], args := [d1, d2] }
  | _ => none }
def framePutsRow : OpenClaim := { program := "ytejekgceompjpaadoor", sum := "41d17e7ae2a1004a5a0eaecee0aa4aee8d92e2f854359279968fc32d4b219813", func := "sealery/sealerylaw09.FramePuts", spec := "framePuts", named := ["sealery/frame.remainders"], apart := false, laid := [("sealery/frame.remainders", laid_sealery_frame_remainders)] }
def FramePutsSaid : Prop := framePutsRow.holds Tryd.pinned (OpenSpec.ofChange framePutsSpec)

/-- ITS FALSE NEIGHBOUR: 'it returns false'. Refute it at one input. -/
def framePutsWrong : ChangeSpec := { name := "framePuts", fn := fun _ => fun
  | [d1, d2] => { results := [.lit (.bool false)], args := [d1, d2] }
  | _ => none }
def FramePutsWrongFalsely : Prop := framePutsRow.holds Tryd.pinned (OpenSpec.ofChange framePutsWrong)

/-- 'sealerylaw09.FrameGets': WHATEVER THE INPUT: true; the input reads as it did. -/
def frameGetsSpec : ChangeSpec := { name := "frameGets", fn := fun _ => fun
  | [d] => { results := [.lit (.bool true)], args := [d] }
  | _ => none }
def frameGetsRow : OpenClaim := { program := "ytejekgceompjpaadoor", sum := "41d17e7ae2a1004a5a0eaecee0aa4aee8d92e2f854359279968fc32d4b219813", func := "sealery/sealerylaw09.FrameGets", spec := "frameGets", unfollowed := true, recurses := true, named := ["sealery/frame.remainders"], apart := false, laid := [("sealery/frame.remainders", laid_sealery_frame_remainders)] }
def FrameGetsSaid : Prop := frameGetsRow.holds Tryd.pinned (OpenSpec.ofChange frameGetsSpec)

/-- ITS FALSE NEIGHBOUR: 'it returns false'. Refute it at one input. -/
def frameGetsWrong : ChangeSpec := { name := "frameGets", fn := fun _ => fun
  | [d] => { results := [.lit (.bool false)], args := [d] }
  | _ => none }
def FrameGetsWrongFalsely : Prop := frameGetsRow.holds Tryd.pinned (OpenSpec.ofChange frameGetsWrong)

/-- 'sealerylaw09.FrameBack': WHATEVER THE INPUT: true; the input reads as it did. -/
def frameBackSpec : ChangeSpec := { name := "frameBack", fn := fun _ => fun
  | [d1, d2, d3, d4] => { results := [.lit (.bool true)], args := [d1, d2, d3, d4] }
  | _ => none }
def frameBackRow : OpenClaim := { program := "ytejekgceompjpaadoor", sum := "41d17e7ae2a1004a5a0eaecee0aa4aee8d92e2f854359279968fc32d4b219813", func := "sealery/sealerylaw09.FrameBack", spec := "frameBack", named := ["sealery/frame.remainders"], apart := false, laid := [("sealery/frame.remainders", laid_sealery_frame_remainders)] }
def FrameBackSaid : Prop := frameBackRow.holds Tryd.pinned (OpenSpec.ofChange frameBackSpec)

/-- ITS FALSE NEIGHBOUR: 'it returns false'. Refute it at one input. -/
def frameBackWrong : ChangeSpec := { name := "frameBack", fn := fun _ => fun
  | [d1, d2, d3, d4] => { results := [.lit (.bool false)], args := [d1, d2, d3, d4] }
  | _ => none }
def FrameBackWrongFalsely : Prop := frameBackRow.holds Tryd.pinned (OpenSpec.ofChange frameBackWrong)

/-- 'sealerylaw09.FrameTurned': WHATEVER THE INPUT: true; the input reads as it did. -/
def frameTurnedSpec : ChangeSpec := { name := "frameTurned", fn := fun _ => fun
  | [d1, d2, d3, d4] => { results := [.lit (.bool true)], args := [d1, d2, d3, d4] }
  | _ => none }
def frameTurnedRow : OpenClaim := { program := "ytejekgceompjpaadoor", sum := "41d17e7ae2a1004a5a0eaecee0aa4aee8d92e2f854359279968fc32d4b219813", func := "sealery/sealerylaw09.FrameTurned", spec := "frameTurned", named := ["sealery/frame.remainders"], apart := false, laid := [("sealery/frame.remainders", laid_sealery_frame_remainders)] }
def FrameTurnedSaid : Prop := frameTurnedRow.holds Tryd.pinned (OpenSpec.ofChange frameTurnedSpec)

/-- ITS FALSE NEIGHBOUR: 'it returns false'. Refute it at one input. -/
def frameTurnedWrong : ChangeSpec := { name := "frameTurned", fn := fun _ => fun
  | [d1, d2, d3, d4] => { results := [.lit (.bool false)], args := [d1, d2, d3, d4] }
  | _ => none }
def FrameTurnedWrongFalsely : Prop := frameTurnedRow.holds Tryd.pinned (OpenSpec.ofChange frameTurnedWrong)

/-- 'sealerylaw09.FrameScans': WHATEVER THE INPUT: true; the input reads as it did. -/
def frameScansSpec : ChangeSpec := { name := "frameScans", fn := fun _ => fun
  | [d1, d2, d3] => { results := [.lit (.bool true)], args := [d1, d2, d3] }
  | _ => none }
def frameScansRow : OpenClaim := { program := "ytejekgceompjpaadoor", sum := "41d17e7ae2a1004a5a0eaecee0aa4aee8d92e2f854359279968fc32d4b219813", func := "sealery/sealerylaw09.FrameScans", spec := "frameScans", unfollowed := true, recurses := true, named := ["sealery/frame.remainders"], apart := false, laid := [("sealery/frame.remainders", laid_sealery_frame_remainders)] }
def FrameScansSaid : Prop := frameScansRow.holds Tryd.pinned (OpenSpec.ofChange frameScansSpec)

/-- ITS FALSE NEIGHBOUR: 'it returns false'. Refute it at one input. -/
def frameScansWrong : ChangeSpec := { name := "frameScans", fn := fun _ => fun
  | [d1, d2, d3] => { results := [.lit (.bool false)], args := [d1, d2, d3] }
  | _ => none }
def FrameScansWrongFalsely : Prop := frameScansRow.holds Tryd.pinned (OpenSpec.ofChange frameScansWrong)

/-- 'sealerylaw09.FrameForm': WHATEVER THE INPUT: true; the input reads as it did. -/
def frameFormSpec : ChangeSpec := { name := "frameForm", fn := fun _ => fun
  | [d] => { results := [.lit (.bool true)], args := [d] }
  | _ => none }
def frameFormRow : OpenClaim := { program := "ytejekgceompjpaadoor", sum := "41d17e7ae2a1004a5a0eaecee0aa4aee8d92e2f854359279968fc32d4b219813", func := "sealery/sealerylaw09.FrameForm", spec := "frameForm", unfollowed := true, recurses := true, named := ["sealery/frame.remainders"], apart := false, laid := [("sealery/frame.remainders", laid_sealery_frame_remainders)] }
def FrameFormSaid : Prop := frameFormRow.holds Tryd.pinned (OpenSpec.ofChange frameFormSpec)

/-- ITS FALSE NEIGHBOUR: 'it returns false'. Refute it at one input. -/
def frameFormWrong : ChangeSpec := { name := "frameForm", fn := fun _ => fun
  | [d] => { results := [.lit (.bool false)], args := [d] }
  | _ => none }
def FrameFormWrongFalsely : Prop := frameFormRow.holds Tryd.pinned (OpenSpec.ofChange frameFormWrong)

/-- 'sealerylaw09.FrameLinear': WHATEVER THE INPUT: true; the input reads as it did. -/
def frameLinearSpec : ChangeSpec := { name := "frameLinear", fn := fun _ => fun
  | [d1, d2, d3] => { results := [.lit (.bool true)], args := [d1, d2, d3] }
  | _ => none }
def frameLinearRow : OpenClaim := { program := "ytejekgceompjpaadoor", sum := "41d17e7ae2a1004a5a0eaecee0aa4aee8d92e2f854359279968fc32d4b219813", func := "sealery/sealerylaw09.FrameLinear", spec := "frameLinear", named := ["sealery/frame.remainders"], apart := false, laid := [("sealery/frame.remainders", laid_sealery_frame_remainders)] }
def FrameLinearSaid : Prop := frameLinearRow.holds Tryd.pinned (OpenSpec.ofChange frameLinearSpec)

/-- ITS FALSE NEIGHBOUR: 'it returns false'. Refute it at one input. -/
def frameLinearWrong : ChangeSpec := { name := "frameLinear", fn := fun _ => fun
  | [d1, d2, d3] => { results := [.lit (.bool false)], args := [d1, d2, d3] }
  | _ => none }
def FrameLinearWrongFalsely : Prop := frameLinearRow.holds Tryd.pinned (OpenSpec.ofChange frameLinearWrong)

/-- 'sealerylaw09.FrameKnown': WHATEVER THE INPUT: true; the input reads as it did. -/
def frameKnownSpec : ChangeSpec := { name := "frameKnown", fn := fun _ => fun
  | [] => { results := [.lit (.bool true)], args := [] }
  | _ => none }
def frameKnownRow : OpenClaim := { program := "ytejekgceompjpaadoor", sum := "41d17e7ae2a1004a5a0eaecee0aa4aee8d92e2f854359279968fc32d4b219813", func := "sealery/sealerylaw09.FrameKnown", spec := "frameKnown", unfollowed := true, recurses := true, named := ["sealery/frame.remainders"], apart := false, laid := [("sealery/frame.remainders", laid_sealery_frame_remainders)] }
def FrameKnownSaid : Prop := frameKnownRow.holds Tryd.pinned (OpenSpec.ofChange frameKnownSpec)

/-- ITS FALSE NEIGHBOUR: 'it returns false'. Refute it at one input. -/
def frameKnownWrong : ChangeSpec := { name := "frameKnown", fn := fun _ => fun
  | [] => { results := [.lit (.bool false)], args := [] }
  | _ => none }
def FrameKnownWrongFalsely : Prop := frameKnownRow.holds Tryd.pinned (OpenSpec.ofChange frameKnownWrong)

/- THE SECOND FORM. 'bulk': how many values and letters a reading holds, each counted each time it is reached (what is shared counts as often as it is met; a slice's spare places count too). A statement '..UptoSaid' is the law's where the arguments, and the package variables that the reading takes, are together of bulk at most 1048576: NARROWER than '..Said'. Prove '..Said' where nothing that the law and all that it calls make is longer than what came in: it says more and counts as full. Else prove '..UptoSaid'. A law counts once. -/
mutual
def uptoBulk {H : Type} : DataW H → Nat
  | .lit (.string bytes) => bytes.length + 1
  | .lit _ => 1
  | .nil => 1
  | .ptr d => uptoBulk d + 1
  | .slice elems spare => uptoBulkAll elems + uptoBulkAll spare + 1
  | .agg parts => uptoBulkAll parts + 1
  | .iface _ d => uptoBulk d + 1
  | .map entries => uptoBulkEntries entries + 1
  | .held _ => 1
def uptoBulkAll {H : Type} : List (DataW H) → Nat
  | [] => 0
  | d :: r => uptoBulk d + uptoBulkAll r
def uptoBulkEntries {H : Type} : List (Lit × DataW H) → Nat
  | [] => 0
  | x :: r => uptoBulkEntry x + uptoBulkEntries r
def uptoBulkEntry {H : Type} : Lit × DataW H → Nat
  | (.string bytes, d) => bytes.length + uptoBulk d + 1
  | (_, d) => uptoBulk d + 1
 end
def uptoSmall : (H : Type) → List (DataW H) → Bool := fun _ ds => decide (uptoBulkAll ds ≤ 1048576)
def OpenSpec.upto (s : _root_.Go.ChangeSpec) : _root_.Go.OpenSpec := { _root_.Go.OpenSpec.ofChange s with cond := some uptoSmall }

/-- 'sealerylaw09.FramePuts', WHERE WHAT IT READS IS OF BULK AT MOST 1048576: true; the input reads as it did. -/
def framePutsUptoRow : OpenClaim := { program := "ytejekgceompjpaadoor", sum := "41d17e7ae2a1004a5a0eaecee0aa4aee8d92e2f854359279968fc32d4b219813", func := "sealery/sealerylaw09.FramePuts", spec := "framePuts", named := ["sealery/frame.remainders"], apart := false, laid := [("sealery/frame.remainders", laid_sealery_frame_remainders)], narrowed := true }
def FramePutsUptoSaid : Prop := framePutsUptoRow.holds Tryd.pinned (OpenSpec.upto framePutsSpec)

/-- 'sealerylaw09.FrameGets', WHERE WHAT IT READS IS OF BULK AT MOST 1048576: true; the input reads as it did. -/
def frameGetsUptoRow : OpenClaim := { program := "ytejekgceompjpaadoor", sum := "41d17e7ae2a1004a5a0eaecee0aa4aee8d92e2f854359279968fc32d4b219813", func := "sealery/sealerylaw09.FrameGets", spec := "frameGets", unfollowed := true, recurses := true, named := ["sealery/frame.remainders"], apart := false, laid := [("sealery/frame.remainders", laid_sealery_frame_remainders)], narrowed := true }
def FrameGetsUptoSaid : Prop := frameGetsUptoRow.holds Tryd.pinned (OpenSpec.upto frameGetsSpec)

/-- 'sealerylaw09.FrameBack', WHERE WHAT IT READS IS OF BULK AT MOST 1048576: true; the input reads as it did. -/
def frameBackUptoRow : OpenClaim := { program := "ytejekgceompjpaadoor", sum := "41d17e7ae2a1004a5a0eaecee0aa4aee8d92e2f854359279968fc32d4b219813", func := "sealery/sealerylaw09.FrameBack", spec := "frameBack", named := ["sealery/frame.remainders"], apart := false, laid := [("sealery/frame.remainders", laid_sealery_frame_remainders)], narrowed := true }
def FrameBackUptoSaid : Prop := frameBackUptoRow.holds Tryd.pinned (OpenSpec.upto frameBackSpec)

/-- 'sealerylaw09.FrameTurned', WHERE WHAT IT READS IS OF BULK AT MOST 1048576: true; the input reads as it did. -/
def frameTurnedUptoRow : OpenClaim := { program := "ytejekgceompjpaadoor", sum := "41d17e7ae2a1004a5a0eaecee0aa4aee8d92e2f854359279968fc32d4b219813", func := "sealery/sealerylaw09.FrameTurned", spec := "frameTurned", named := ["sealery/frame.remainders"], apart := false, laid := [("sealery/frame.remainders", laid_sealery_frame_remainders)], narrowed := true }
def FrameTurnedUptoSaid : Prop := frameTurnedUptoRow.holds Tryd.pinned (OpenSpec.upto frameTurnedSpec)

/-- 'sealerylaw09.FrameScans', WHERE WHAT IT READS IS OF BULK AT MOST 1048576: true; the input reads as it did. -/
def frameScansUptoRow : OpenClaim := { program := "ytejekgceompjpaadoor", sum := "41d17e7ae2a1004a5a0eaecee0aa4aee8d92e2f854359279968fc32d4b219813", func := "sealery/sealerylaw09.FrameScans", spec := "frameScans", unfollowed := true, recurses := true, named := ["sealery/frame.remainders"], apart := false, laid := [("sealery/frame.remainders", laid_sealery_frame_remainders)], narrowed := true }
def FrameScansUptoSaid : Prop := frameScansUptoRow.holds Tryd.pinned (OpenSpec.upto frameScansSpec)

/-- 'sealerylaw09.FrameForm', WHERE WHAT IT READS IS OF BULK AT MOST 1048576: true; the input reads as it did. -/
def frameFormUptoRow : OpenClaim := { program := "ytejekgceompjpaadoor", sum := "41d17e7ae2a1004a5a0eaecee0aa4aee8d92e2f854359279968fc32d4b219813", func := "sealery/sealerylaw09.FrameForm", spec := "frameForm", unfollowed := true, recurses := true, named := ["sealery/frame.remainders"], apart := false, laid := [("sealery/frame.remainders", laid_sealery_frame_remainders)], narrowed := true }
def FrameFormUptoSaid : Prop := frameFormUptoRow.holds Tryd.pinned (OpenSpec.upto frameFormSpec)

/-- 'sealerylaw09.FrameLinear', WHERE WHAT IT READS IS OF BULK AT MOST 1048576: true; the input reads as it did. -/
def frameLinearUptoRow : OpenClaim := { program := "ytejekgceompjpaadoor", sum := "41d17e7ae2a1004a5a0eaecee0aa4aee8d92e2f854359279968fc32d4b219813", func := "sealery/sealerylaw09.FrameLinear", spec := "frameLinear", named := ["sealery/frame.remainders"], apart := false, laid := [("sealery/frame.remainders", laid_sealery_frame_remainders)], narrowed := true }
def FrameLinearUptoSaid : Prop := frameLinearUptoRow.holds Tryd.pinned (OpenSpec.upto frameLinearSpec)

/-- 'sealerylaw09.FrameKnown', WHERE WHAT IT READS IS OF BULK AT MOST 1048576: true; the input reads as it did. -/
def frameKnownUptoRow : OpenClaim := { program := "ytejekgceompjpaadoor", sum := "41d17e7ae2a1004a5a0eaecee0aa4aee8d92e2f854359279968fc32d4b219813", func := "sealery/sealerylaw09.FrameKnown", spec := "frameKnown", unfollowed := true, recurses := true, named := ["sealery/frame.remainders"], apart := false, laid := [("sealery/frame.remainders", laid_sealery_frame_remainders)], narrowed := true }
def FrameKnownUptoSaid : Prop := frameKnownUptoRow.holds Tryd.pinned (OpenSpec.upto frameKnownSpec)

end Rows
end Go.Proofs.YtejekgceompjpaaDoor
