/-
  No cell of these rows narrows 'for every input' (looked for: loops, veiled, ifaces, maps, wideKeys, modest, calm, conditions, laid).
  DERIVED. THE GIVEN ROWS OF THIS SEAT. 7 by the template 'for every input the law returns true; each argument reads behind the call as it read before'; 0 by the template 'total and deterministic' (their statements: YtkfkdomjjepmdaaTotals.lean).
  GIVEN WITH THE SEED: the statements are not yours to turn. If you find one false, say at which input.
  Laid BY PROGRAM, IN A SANDBOX (cutbox-rows.mjs): the forced cells as the released guide's own fill.sh prints them over the translation 4f695905b271aeac… (all of the seat's roots in one cut). By AI agents, Wed Nov 11 2026. No macro, syntax, notation, axiom, sorry.
-/
import Derived.Test.YtkfkdomjjepmdaaChecked
import GoSem.Claim
import GoSem.ClaimJoined
import GoSem.ClaimMapViews
import Derived.JoinedTies
import Derived.KernelRfl
namespace Go.Proofs.Ytkfkdomjjepmdaa
/- THE CELL 'sum', in the pinned program and in every row, IS THE sha256 OF THE DUMP (.gsa) THAT YtkfkdomjjepmdaaProg.lean LOADS. Nothing in Lean hashes anything: it is a label: what it is worth is what the hold of that sum in a sandbox is worth. -/
noncomputable def Try.pinned : Pinned := { name := "ytkfkdomjjepmdaa", sum := "4f695905b271aeac7fba9353c02c7b3ffdf630aee7dbb48e2737f600486e60b0", checked := Try.checked }
namespace Rows
def none {H : Type} : Left H := { results := [], args := [] }

/-- 'sealerylaw13.RightGrants': WHATEVER THE INPUT: true; the input reads as it did. -/
def rightGrantsSpec : ChangeSpec := { name := "rightGrants", fn := fun _ => fun
  | [d1, d2, d3, d4] => { results := [.lit (.bool true)], args := [d1, d2, d3, d4] }
  | _ => none }
def rightGrantsRow : OpenClaim := { program := "ytkfkdomjjepmdaa", sum := "4f695905b271aeac7fba9353c02c7b3ffdf630aee7dbb48e2737f600486e60b0", func := "sealery/sealerylaw13.RightGrants", spec := "rightGrants", apart := false }
def RightGrantsSaid : Prop := rightGrantsRow.holds Try.pinned (OpenSpec.ofChange rightGrantsSpec)

/-- ITS FALSE NEIGHBOUR: 'it returns false'. Refute it at one input. -/
def rightGrantsWrong : ChangeSpec := { name := "rightGrants", fn := fun _ => fun
  | [d1, d2, d3, d4] => { results := [.lit (.bool false)], args := [d1, d2, d3, d4] }
  | _ => none }
def RightGrantsWrongFalsely : Prop := rightGrantsRow.holds Try.pinned (OpenSpec.ofChange rightGrantsWrong)

/-- 'sealerylaw13.RightRules': WHATEVER THE INPUT: true; the input reads as it did. -/
def rightRulesSpec : ChangeSpec := { name := "rightRules", fn := fun _ => fun
  | [d1, d2, d3] => { results := [.lit (.bool true)], args := [d1, d2, d3] }
  | _ => none }
def rightRulesRow : OpenClaim := { program := "ytkfkdomjjepmdaa", sum := "4f695905b271aeac7fba9353c02c7b3ffdf630aee7dbb48e2737f600486e60b0", func := "sealery/sealerylaw13.RightRules", spec := "rightRules", apart := false }
def RightRulesSaid : Prop := rightRulesRow.holds Try.pinned (OpenSpec.ofChange rightRulesSpec)

/-- ITS FALSE NEIGHBOUR: 'it returns false'. Refute it at one input. -/
def rightRulesWrong : ChangeSpec := { name := "rightRules", fn := fun _ => fun
  | [d1, d2, d3] => { results := [.lit (.bool false)], args := [d1, d2, d3] }
  | _ => none }
def RightRulesWrongFalsely : Prop := rightRulesRow.holds Try.pinned (OpenSpec.ofChange rightRulesWrong)

/-- 'sealerylaw13.RightLess': WHATEVER THE INPUT: true; the input reads as it did. -/
def rightLessSpec : ChangeSpec := { name := "rightLess", fn := fun _ => fun
  | [d1, d2, d3, d4, d5] => { results := [.lit (.bool true)], args := [d1, d2, d3, d4, d5] }
  | _ => none }
def rightLessRow : OpenClaim := { program := "ytkfkdomjjepmdaa", sum := "4f695905b271aeac7fba9353c02c7b3ffdf630aee7dbb48e2737f600486e60b0", func := "sealery/sealerylaw13.RightLess", spec := "rightLess", apart := false }
def RightLessSaid : Prop := rightLessRow.holds Try.pinned (OpenSpec.ofChange rightLessSpec)

/-- ITS FALSE NEIGHBOUR: 'it returns false'. Refute it at one input. -/
def rightLessWrong : ChangeSpec := { name := "rightLess", fn := fun _ => fun
  | [d1, d2, d3, d4, d5] => { results := [.lit (.bool false)], args := [d1, d2, d3, d4, d5] }
  | _ => none }
def RightLessWrongFalsely : Prop := rightLessRow.holds Try.pinned (OpenSpec.ofChange rightLessWrong)

/-- 'sealerylaw13.RightOrder': WHATEVER THE INPUT: true; the input reads as it did. -/
def rightOrderSpec : ChangeSpec := { name := "rightOrder", fn := fun _ => fun
  | [d1, d2, d3, d4, d5] => { results := [.lit (.bool true)], args := [d1, d2, d3, d4, d5] }
  | _ => none }
def rightOrderRow : OpenClaim := { program := "ytkfkdomjjepmdaa", sum := "4f695905b271aeac7fba9353c02c7b3ffdf630aee7dbb48e2737f600486e60b0", func := "sealery/sealerylaw13.RightOrder", spec := "rightOrder", apart := false }
def RightOrderSaid : Prop := rightOrderRow.holds Try.pinned (OpenSpec.ofChange rightOrderSpec)

/-- ITS FALSE NEIGHBOUR: 'it returns false'. Refute it at one input. -/
def rightOrderWrong : ChangeSpec := { name := "rightOrder", fn := fun _ => fun
  | [d1, d2, d3, d4, d5] => { results := [.lit (.bool false)], args := [d1, d2, d3, d4, d5] }
  | _ => none }
def RightOrderWrongFalsely : Prop := rightOrderRow.holds Try.pinned (OpenSpec.ofChange rightOrderWrong)

/-- 'sealerylaw13.RightAdded': WHATEVER THE INPUT: true; the input reads as it did. -/
def rightAddedSpec : ChangeSpec := { name := "rightAdded", fn := fun _ => fun
  | [d1, d2, d3, d4, d5] => { results := [.lit (.bool true)], args := [d1, d2, d3, d4, d5] }
  | _ => none }
def rightAddedRow : OpenClaim := { program := "ytkfkdomjjepmdaa", sum := "4f695905b271aeac7fba9353c02c7b3ffdf630aee7dbb48e2737f600486e60b0", func := "sealery/sealerylaw13.RightAdded", spec := "rightAdded", apart := false }
def RightAddedSaid : Prop := rightAddedRow.holds Try.pinned (OpenSpec.ofChange rightAddedSpec)

/-- ITS FALSE NEIGHBOUR: 'it returns false'. Refute it at one input. -/
def rightAddedWrong : ChangeSpec := { name := "rightAdded", fn := fun _ => fun
  | [d1, d2, d3, d4, d5] => { results := [.lit (.bool false)], args := [d1, d2, d3, d4, d5] }
  | _ => none }
def RightAddedWrongFalsely : Prop := rightAddedRow.holds Try.pinned (OpenSpec.ofChange rightAddedWrong)

/-- 'sealerylaw13.RightNames': WHATEVER THE INPUT: true; the input reads as it did. -/
def rightNamesSpec : ChangeSpec := { name := "rightNames", fn := fun _ => fun
  | [d1, d2, d3, d4] => { results := [.lit (.bool true)], args := [d1, d2, d3, d4] }
  | _ => none }
def rightNamesRow : OpenClaim := { program := "ytkfkdomjjepmdaa", sum := "4f695905b271aeac7fba9353c02c7b3ffdf630aee7dbb48e2737f600486e60b0", func := "sealery/sealerylaw13.RightNames", spec := "rightNames", apart := false }
def RightNamesSaid : Prop := rightNamesRow.holds Try.pinned (OpenSpec.ofChange rightNamesSpec)

/-- ITS FALSE NEIGHBOUR: 'it returns false'. Refute it at one input. -/
def rightNamesWrong : ChangeSpec := { name := "rightNames", fn := fun _ => fun
  | [d1, d2, d3, d4] => { results := [.lit (.bool false)], args := [d1, d2, d3, d4] }
  | _ => none }
def RightNamesWrongFalsely : Prop := rightNamesRow.holds Try.pinned (OpenSpec.ofChange rightNamesWrong)

/-- 'sealerylaw13.RightKnown': WHATEVER THE INPUT: true; the input reads as it did. -/
def rightKnownSpec : ChangeSpec := { name := "rightKnown", fn := fun _ => fun
  | [] => { results := [.lit (.bool true)], args := [] }
  | _ => none }
def rightKnownRow : OpenClaim := { program := "ytkfkdomjjepmdaa", sum := "4f695905b271aeac7fba9353c02c7b3ffdf630aee7dbb48e2737f600486e60b0", func := "sealery/sealerylaw13.RightKnown", spec := "rightKnown", apart := false }
def RightKnownSaid : Prop := rightKnownRow.holds Try.pinned (OpenSpec.ofChange rightKnownSpec)

/-- ITS FALSE NEIGHBOUR: 'it returns false'. Refute it at one input. -/
def rightKnownWrong : ChangeSpec := { name := "rightKnown", fn := fun _ => fun
  | [] => { results := [.lit (.bool false)], args := [] }
  | _ => none }
def RightKnownWrongFalsely : Prop := rightKnownRow.holds Try.pinned (OpenSpec.ofChange rightKnownWrong)

/- THE SECOND FORM. 'bulk': how many values and letters a reading holds, each counted each time it is reached (what is shared counts as often as it is met; a slice's spare places count too). A statement '..UptoSaid' is the law's where the arguments, and the package variables that the reading takes, are together of bulk at most 1048576: NARROWER than '..Said'. Prove '..Said' where nothing that the law and all that it calls make is longer than what came in: it says more and counts as full. Else prove '..UptoSaid'. A law counts once. -/
mutual
def uptoBulk {H : Type} : DataW H → Nat
  | .lit (.string bytes) => bytes.length + 1
  | .lit _ => 1
  | .nil => 1
  | .ptr d => uptoBulk d + 1
  | .slice elems spare => uptoBulkAll elems + uptoBulkAll spare + 1
  | .agg parts => uptoBulkAll parts + 1
  | .iface _ d => uptoBulk d + 1
  | .map entries => uptoBulkEntries entries + 1
  | .held _ => 1
def uptoBulkAll {H : Type} : List (DataW H) → Nat
  | [] => 0
  | d :: r => uptoBulk d + uptoBulkAll r
def uptoBulkEntries {H : Type} : List (Lit × DataW H) → Nat
  | [] => 0
  | x :: r => uptoBulkEntry x + uptoBulkEntries r
def uptoBulkEntry {H : Type} : Lit × DataW H → Nat
  | (.string bytes, d) => bytes.length + uptoBulk d + 1
  | (_, d) => uptoBulk d + 1
 end
def uptoSmall : (H : Type) → List (DataW H) → Bool := fun _ ds => decide (uptoBulkAll ds ≤ 1048576)
def OpenSpec.upto (s : _root_.Go.ChangeSpec) : _root_.Go.OpenSpec := { _root_.Go.OpenSpec.ofChange s with cond := some uptoSmall }

/-- 'sealerylaw13.RightGrants', WHERE WHAT IT READS IS OF BULK AT MOST 1048576: true; the input reads as it did. -/
def rightGrantsUptoRow : OpenClaim := { program := "ytkfkdomjjepmdaa", sum := "4f695905b271aeac7fba9353c02c7b3ffdf630aee7dbb48e2737f600486e60b0", func := "sealery/sealerylaw13.RightGrants", spec := "rightGrants", apart := false, narrowed := true }
def RightGrantsUptoSaid : Prop := rightGrantsUptoRow.holds Try.pinned (OpenSpec.upto rightGrantsSpec)

/-- 'sealerylaw13.RightRules', WHERE WHAT IT READS IS OF BULK AT MOST 1048576: true; the input reads as it did. -/
def rightRulesUptoRow : OpenClaim := { program := "ytkfkdomjjepmdaa", sum := "4f695905b271aeac7fba9353c02c7b3ffdf630aee7dbb48e2737f600486e60b0", func := "sealery/sealerylaw13.RightRules", spec := "rightRules", apart := false, narrowed := true }
def RightRulesUptoSaid : Prop := rightRulesUptoRow.holds Try.pinned (OpenSpec.upto rightRulesSpec)

/-- 'sealerylaw13.RightLess', WHERE WHAT IT READS IS OF BULK AT MOST 1048576: true; the input reads as it did. -/
def rightLessUptoRow : OpenClaim := { program := "ytkfkdomjjepmdaa", sum := "4f695905b271aeac7fba9353c02c7b3ffdf630aee7dbb48e2737f600486e60b0", func := "sealery/sealerylaw13.RightLess", spec := "rightLess", apart := false, narrowed := true }
def RightLessUptoSaid : Prop := rightLessUptoRow.holds Try.pinned (OpenSpec.upto rightLessSpec)

/-- 'sealerylaw13.RightOrder', WHERE WHAT IT READS IS OF BULK AT MOST 1048576: true; the input reads as it did. -/
def rightOrderUptoRow : OpenClaim := { program := "ytkfkdomjjepmdaa", sum := "4f695905b271aeac7fba9353c02c7b3ffdf630aee7dbb48e2737f600486e60b0", func := "sealery/sealerylaw13.RightOrder", spec := "rightOrder", apart := false, narrowed := true }
def RightOrderUptoSaid : Prop := rightOrderUptoRow.holds Try.pinned (OpenSpec.upto rightOrderSpec)

/-- 'sealerylaw13.RightAdded', WHERE WHAT IT READS IS OF BULK AT MOST 1048576: true; the input reads as it did. -/
def rightAddedUptoRow : OpenClaim := { program := "ytkfkdomjjepmdaa", sum := "4f695905b271aeac7fba9353c02c7b3ffdf630aee7dbb48e2737f600486e60b0", func := "sealery/sealerylaw13.RightAdded", spec := "rightAdded", apart := false, narrowed := true }
def RightAddedUptoSaid : Prop := rightAddedUptoRow.holds Try.pinned (OpenSpec.upto rightAddedSpec)

/-- 'sealerylaw13.RightNames', WHERE WHAT IT READS IS OF BULK AT MOST 1048576: true; the input reads as it did. -/
def rightNamesUptoRow : OpenClaim := { program := "ytkfkdomjjepmdaa", sum := "4f695905b271aeac7fba9353c02c7b3ffdf630aee7dbb48e2737f600486e60b0", func := "sealery/sealerylaw13.RightNames", spec := "rightNames", apart := false, narrowed := true }
def RightNamesUptoSaid : Prop := rightNamesUptoRow.holds Try.pinned (OpenSpec.upto rightNamesSpec)

/-- 'sealerylaw13.RightKnown', WHERE WHAT IT READS IS OF BULK AT MOST 1048576: true; the input reads as it did. -/
def rightKnownUptoRow : OpenClaim := { program := "ytkfkdomjjepmdaa", sum := "4f695905b271aeac7fba9353c02c7b3ffdf630aee7dbb48e2737f600486e60b0", func := "sealery/sealerylaw13.RightKnown", spec := "rightKnown", apart := false, narrowed := true }
def RightKnownUptoSaid : Prop := rightKnownUptoRow.holds Try.pinned (OpenSpec.upto rightKnownSpec)

end Rows
end Go.Proofs.Ytkfkdomjjepmdaa
