/-
  NARROWER THAN 'FOR EVERY INPUT', by the rows' own cells (each row's printed sentence says how): AeadSeals: laid · AeadOpens: laid · AeadBack: laid · AeadTags: laid · AeadStream: laid · AeadKnown: laid.
  DERIVED. THE GIVEN ROWS OF THIS SEAT. 6 by the template 'for every input the law returns true; each argument reads behind the call as it read before'; 0 by the template 'total and deterministic' (their statements: YtagkkihnfipfeaaDoorTotals.lean).
  GIVEN WITH THE SEED: the statements are not yours to turn. If you find one false, say at which input.
  Laid BY PROGRAM, IN A SANDBOX (cutbox-rows.mjs): the forced cells as the released guide's own fill.sh prints them over the translation 5d3302e46ae39e9f… (all of the seat's roots in one cut). By AI agents, Wed Nov 11 2026. No macro, syntax, notation, axiom, sorry.
-/
import Derived.Test.YtagkkihnfipfeaaDoorChecked
import GoSem.Claim
import GoSem.ClaimJoined
import GoSem.ClaimMapViews
import Derived.JoinedTies
import Derived.KernelRfl
namespace Go.Proofs.YtagkkihnfipfeaaDoor
/- THE CELL 'sum', in the pinned program and in every row, IS THE sha256 OF THE DUMP (.gsa) THAT YtagkkihnfipfeaaDoorProg.lean LOADS. Nothing in Lean hashes anything: it is a label: what it is worth is what the hold of that sum in a sandbox is worth. -/
noncomputable def Tryd.pinned : Pinned := { name := "ytagkkihnfipfeaadoor", sum := "5d3302e46ae39e9f23e4441578df4f55312dcd6967b81feb22005d82f5513af1", checked := Tryd.checked }
namespace Rows
def none {H : Type} : Left H := { results := [], args := [] }

/- WHAT THE LISTED PACKAGE-LEVEL VARIABLES READ AS WHEN THE CALL BEGINS. Each datum BY PROGRAM (the guide's laid-datum.mjs) off the statement by which the dump's own 'gosem.cut.vars' lays the variable. In a bare row this is a premise. The card (YtagkkihnfipfeaaDoorCards.lean) ties it to the program's text. -/
def laid_sealery_chacha_quarters {H : Type} : DataW H := .agg [.agg [.lit (.int .i64 0), .lit (.int .i64 4), .lit (.int .i64 8), .lit (.int .i64 12)], .agg [.lit (.int .i64 1), .lit (.int .i64 5), .lit (.int .i64 9), .lit (.int .i64 13)], .agg [.lit (.int .i64 2), .lit (.int .i64 6), .lit (.int .i64 10), .lit (.int .i64 14)], .agg [.lit (.int .i64 3), .lit (.int .i64 7), .lit (.int .i64 11), .lit (.int .i64 15)], .agg [.lit (.int .i64 0), .lit (.int .i64 5), .lit (.int .i64 10), .lit (.int .i64 15)], .agg [.lit (.int .i64 1), .lit (.int .i64 6), .lit (.int .i64 11), .lit (.int .i64 12)], .agg [.lit (.int .i64 2), .lit (.int .i64 7), .lit (.int .i64 8), .lit (.int .i64 13)], .agg [.lit (.int .i64 3), .lit (.int .i64 4), .lit (.int .i64 9), .lit (.int .i64 14)]]

/-- 'sealerylaw05.AeadSeals': WHATEVER THE INPUT: true; the input reads as it did. -/
def aeadSealsSpec : ChangeSpec := { name := "aeadSeals", fn := fun _ => fun
  | [d1, d2, d3, d4] => { results := [.lit (.bool true)], args := [d1, d2, d3, d4] }
  | _ => none }
def aeadSealsRow : OpenClaim := { program := "ytagkkihnfipfeaadoor", sum := "5d3302e46ae39e9f23e4441578df4f55312dcd6967b81feb22005d82f5513af1", func := "sealery/sealerylaw05.AeadSeals", spec := "aeadSeals", unfollowed := true, recurses := true, named := ["sealery/chacha.quarters"], apart := false, laid := [("sealery/chacha.quarters", laid_sealery_chacha_quarters)] }
def AeadSealsSaid : Prop := aeadSealsRow.holds Tryd.pinned (OpenSpec.ofChange aeadSealsSpec)

/-- ITS FALSE NEIGHBOUR: 'it returns false'. Refute it at one input. -/
def aeadSealsWrong : ChangeSpec := { name := "aeadSeals", fn := fun _ => fun
  | [d1, d2, d3, d4] => { results := [.lit (.bool false)], args := [d1, d2, d3, d4] }
  | _ => none }
def AeadSealsWrongFalsely : Prop := aeadSealsRow.holds Tryd.pinned (OpenSpec.ofChange aeadSealsWrong)

/-- 'sealerylaw05.AeadOpens': WHATEVER THE INPUT: true; the input reads as it did. -/
def aeadOpensSpec : ChangeSpec := { name := "aeadOpens", fn := fun _ => fun
  | [d1, d2, d3, d4, d5, d6] => { results := [.lit (.bool true)], args := [d1, d2, d3, d4, d5, d6] }
  | _ => none }
def aeadOpensRow : OpenClaim := { program := "ytagkkihnfipfeaadoor", sum := "5d3302e46ae39e9f23e4441578df4f55312dcd6967b81feb22005d82f5513af1", func := "sealery/sealerylaw05.AeadOpens", spec := "aeadOpens", unfollowed := true, recurses := true, named := ["sealery/chacha.quarters"], apart := false, laid := [("sealery/chacha.quarters", laid_sealery_chacha_quarters)] }
def AeadOpensSaid : Prop := aeadOpensRow.holds Tryd.pinned (OpenSpec.ofChange aeadOpensSpec)

/-- ITS FALSE NEIGHBOUR: 'it returns false'. Refute it at one input. -/
def aeadOpensWrong : ChangeSpec := { name := "aeadOpens", fn := fun _ => fun
  | [d1, d2, d3, d4, d5, d6] => { results := [.lit (.bool false)], args := [d1, d2, d3, d4, d5, d6] }
  | _ => none }
def AeadOpensWrongFalsely : Prop := aeadOpensRow.holds Tryd.pinned (OpenSpec.ofChange aeadOpensWrong)

/-- 'sealerylaw05.AeadBack': WHATEVER THE INPUT: true; the input reads as it did. -/
def aeadBackSpec : ChangeSpec := { name := "aeadBack", fn := fun _ => fun
  | [d1, d2, d3, d4] => { results := [.lit (.bool true)], args := [d1, d2, d3, d4] }
  | _ => none }
def aeadBackRow : OpenClaim := { program := "ytagkkihnfipfeaadoor", sum := "5d3302e46ae39e9f23e4441578df4f55312dcd6967b81feb22005d82f5513af1", func := "sealery/sealerylaw05.AeadBack", spec := "aeadBack", unfollowed := true, recurses := true, named := ["sealery/chacha.quarters"], apart := false, laid := [("sealery/chacha.quarters", laid_sealery_chacha_quarters)] }
def AeadBackSaid : Prop := aeadBackRow.holds Tryd.pinned (OpenSpec.ofChange aeadBackSpec)

/-- ITS FALSE NEIGHBOUR: 'it returns false'. Refute it at one input. -/
def aeadBackWrong : ChangeSpec := { name := "aeadBack", fn := fun _ => fun
  | [d1, d2, d3, d4] => { results := [.lit (.bool false)], args := [d1, d2, d3, d4] }
  | _ => none }
def AeadBackWrongFalsely : Prop := aeadBackRow.holds Tryd.pinned (OpenSpec.ofChange aeadBackWrong)

/-- 'sealerylaw05.AeadTags': WHATEVER THE INPUT: true; the input reads as it did. -/
def aeadTagsSpec : ChangeSpec := { name := "aeadTags", fn := fun _ => fun
  | [d1, d2, d3, d4, d5] => { results := [.lit (.bool true)], args := [d1, d2, d3, d4, d5] }
  | _ => none }
def aeadTagsRow : OpenClaim := { program := "ytagkkihnfipfeaadoor", sum := "5d3302e46ae39e9f23e4441578df4f55312dcd6967b81feb22005d82f5513af1", func := "sealery/sealerylaw05.AeadTags", spec := "aeadTags", unfollowed := true, recurses := true, named := ["sealery/chacha.quarters"], apart := false, laid := [("sealery/chacha.quarters", laid_sealery_chacha_quarters)] }
def AeadTagsSaid : Prop := aeadTagsRow.holds Tryd.pinned (OpenSpec.ofChange aeadTagsSpec)

/-- ITS FALSE NEIGHBOUR: 'it returns false'. Refute it at one input. -/
def aeadTagsWrong : ChangeSpec := { name := "aeadTags", fn := fun _ => fun
  | [d1, d2, d3, d4, d5] => { results := [.lit (.bool false)], args := [d1, d2, d3, d4, d5] }
  | _ => none }
def AeadTagsWrongFalsely : Prop := aeadTagsRow.holds Tryd.pinned (OpenSpec.ofChange aeadTagsWrong)

/-- 'sealerylaw05.AeadStream': WHATEVER THE INPUT: true; the input reads as it did. -/
def aeadStreamSpec : ChangeSpec := { name := "aeadStream", fn := fun _ => fun
  | [d1, d2, d3, d4, d5] => { results := [.lit (.bool true)], args := [d1, d2, d3, d4, d5] }
  | _ => none }
def aeadStreamRow : OpenClaim := { program := "ytagkkihnfipfeaadoor", sum := "5d3302e46ae39e9f23e4441578df4f55312dcd6967b81feb22005d82f5513af1", func := "sealery/sealerylaw05.AeadStream", spec := "aeadStream", unfollowed := true, recurses := true, named := ["sealery/chacha.quarters"], apart := false, laid := [("sealery/chacha.quarters", laid_sealery_chacha_quarters)] }
def AeadStreamSaid : Prop := aeadStreamRow.holds Tryd.pinned (OpenSpec.ofChange aeadStreamSpec)

/-- ITS FALSE NEIGHBOUR: 'it returns false'. Refute it at one input. -/
def aeadStreamWrong : ChangeSpec := { name := "aeadStream", fn := fun _ => fun
  | [d1, d2, d3, d4, d5] => { results := [.lit (.bool false)], args := [d1, d2, d3, d4, d5] }
  | _ => none }
def AeadStreamWrongFalsely : Prop := aeadStreamRow.holds Tryd.pinned (OpenSpec.ofChange aeadStreamWrong)

/-- 'sealerylaw05.AeadKnown': WHATEVER THE INPUT: true; the input reads as it did. -/
def aeadKnownSpec : ChangeSpec := { name := "aeadKnown", fn := fun _ => fun
  | [] => { results := [.lit (.bool true)], args := [] }
  | _ => none }
def aeadKnownRow : OpenClaim := { program := "ytagkkihnfipfeaadoor", sum := "5d3302e46ae39e9f23e4441578df4f55312dcd6967b81feb22005d82f5513af1", func := "sealery/sealerylaw05.AeadKnown", spec := "aeadKnown", unfollowed := true, recurses := true, named := ["sealery/chacha.quarters"], apart := false, laid := [("sealery/chacha.quarters", laid_sealery_chacha_quarters)] }
def AeadKnownSaid : Prop := aeadKnownRow.holds Tryd.pinned (OpenSpec.ofChange aeadKnownSpec)

/-- ITS FALSE NEIGHBOUR: 'it returns false'. Refute it at one input. -/
def aeadKnownWrong : ChangeSpec := { name := "aeadKnown", fn := fun _ => fun
  | [] => { results := [.lit (.bool false)], args := [] }
  | _ => none }
def AeadKnownWrongFalsely : Prop := aeadKnownRow.holds Tryd.pinned (OpenSpec.ofChange aeadKnownWrong)

/- THE SECOND FORM. 'bulk': how many values and letters a reading holds, each counted each time it is reached (what is shared counts as often as it is met; a slice's spare places count too). A statement '..UptoSaid' is the law's where the arguments, and the package variables that the reading takes, are together of bulk at most 1048576: NARROWER than '..Said'. Prove '..Said' where nothing that the law and all that it calls make is longer than what came in: it says more and counts as full. Else prove '..UptoSaid'. A law counts once. -/
mutual
def uptoBulk {H : Type} : DataW H → Nat
  | .lit (.string bytes) => bytes.length + 1
  | .lit _ => 1
  | .nil => 1
  | .ptr d => uptoBulk d + 1
  | .slice elems spare => uptoBulkAll elems + uptoBulkAll spare + 1
  | .agg parts => uptoBulkAll parts + 1
  | .iface _ d => uptoBulk d + 1
  | .map entries => uptoBulkEntries entries + 1
  | .held _ => 1
def uptoBulkAll {H : Type} : List (DataW H) → Nat
  | [] => 0
  | d :: r => uptoBulk d + uptoBulkAll r
def uptoBulkEntries {H : Type} : List (Lit × DataW H) → Nat
  | [] => 0
  | x :: r => uptoBulkEntry x + uptoBulkEntries r
def uptoBulkEntry {H : Type} : Lit × DataW H → Nat
  | (.string bytes, d) => bytes.length + uptoBulk d + 1
  | (_, d) => uptoBulk d + 1
 end
def uptoSmall : (H : Type) → List (DataW H) → Bool := fun _ ds => decide (uptoBulkAll ds ≤ 1048576)
def OpenSpec.upto (s : _root_.Go.ChangeSpec) : _root_.Go.OpenSpec := { _root_.Go.OpenSpec.ofChange s with cond := some uptoSmall }

/-- 'sealerylaw05.AeadSeals', WHERE WHAT IT READS IS OF BULK AT MOST 1048576: true; the input reads as it did. -/
def aeadSealsUptoRow : OpenClaim := { program := "ytagkkihnfipfeaadoor", sum := "5d3302e46ae39e9f23e4441578df4f55312dcd6967b81feb22005d82f5513af1", func := "sealery/sealerylaw05.AeadSeals", spec := "aeadSeals", unfollowed := true, recurses := true, named := ["sealery/chacha.quarters"], apart := false, laid := [("sealery/chacha.quarters", laid_sealery_chacha_quarters)], narrowed := true }
def AeadSealsUptoSaid : Prop := aeadSealsUptoRow.holds Tryd.pinned (OpenSpec.upto aeadSealsSpec)

/-- 'sealerylaw05.AeadOpens', WHERE WHAT IT READS IS OF BULK AT MOST 1048576: true; the input reads as it did. -/
def aeadOpensUptoRow : OpenClaim := { program := "ytagkkihnfipfeaadoor", sum := "5d3302e46ae39e9f23e4441578df4f55312dcd6967b81feb22005d82f5513af1", func := "sealery/sealerylaw05.AeadOpens", spec := "aeadOpens", unfollowed := true, recurses := true, named := ["sealery/chacha.quarters"], apart := false, laid := [("sealery/chacha.quarters", laid_sealery_chacha_quarters)], narrowed := true }
def AeadOpensUptoSaid : Prop := aeadOpensUptoRow.holds Tryd.pinned (OpenSpec.upto aeadOpensSpec)

/-- 'sealerylaw05.AeadBack', WHERE WHAT IT READS IS OF BULK AT MOST 1048576: true; the input reads as it did. -/
def aeadBackUptoRow : OpenClaim := { program := "ytagkkihnfipfeaadoor", sum := "5d3302e46ae39e9f23e4441578df4f55312dcd6967b81feb22005d82f5513af1", func := "sealery/sealerylaw05.AeadBack", spec := "aeadBack", unfollowed := true, recurses := true, named := ["sealery/chacha.quarters"], apart := false, laid := [("sealery/chacha.quarters", laid_sealery_chacha_quarters)], narrowed := true }
def AeadBackUptoSaid : Prop := aeadBackUptoRow.holds Tryd.pinned (OpenSpec.upto aeadBackSpec)

/-- 'sealerylaw05.AeadTags', WHERE WHAT IT READS IS OF BULK AT MOST 1048576: true; the input reads as it did. -/
def aeadTagsUptoRow : OpenClaim := { program := "ytagkkihnfipfeaadoor", sum := "5d3302e46ae39e9f23e4441578df4f55312dcd6967b81feb22005d82f5513af1", func := "sealery/sealerylaw05.AeadTags", spec := "aeadTags", unfollowed := true, recurses := true, named := ["sealery/chacha.quarters"], apart := false, laid := [("sealery/chacha.quarters", laid_sealery_chacha_quarters)], narrowed := true }
def AeadTagsUptoSaid : Prop := aeadTagsUptoRow.holds Tryd.pinned (OpenSpec.upto aeadTagsSpec)

/-- 'sealerylaw05.AeadStream', WHERE WHAT IT READS IS OF BULK AT MOST 1048576: true; the input reads as it did. -/
def aeadStreamUptoRow : OpenClaim := { program := "ytagkkihnfipfeaadoor", sum := "5d3302e46ae39e9f23e4441578df4f55312dcd6967b81feb22005d82f5513af1", func := "sealery/sealerylaw05.AeadStream", spec := "aeadStream", unfollowed := true, recurses := true, named := ["sealery/chacha.quarters"], apart := false, laid := [("sealery/chacha.quarters", laid_sealery_chacha_quarters)], narrowed := true }
def AeadStreamUptoSaid : Prop := aeadStreamUptoRow.holds Tryd.pinned (OpenSpec.upto aeadStreamSpec)

/-- 'sealerylaw05.AeadKnown', WHERE WHAT IT READS IS OF BULK AT MOST 1048576: true; the input reads as it did. -/
def aeadKnownUptoRow : OpenClaim := { program := "ytagkkihnfipfeaadoor", sum := "5d3302e46ae39e9f23e4441578df4f55312dcd6967b81feb22005d82f5513af1", func := "sealery/sealerylaw05.AeadKnown", spec := "aeadKnown", unfollowed := true, recurses := true, named := ["sealery/chacha.quarters"], apart := false, laid := [("sealery/chacha.quarters", laid_sealery_chacha_quarters)], narrowed := true }
def AeadKnownUptoSaid : Prop := aeadKnownUptoRow.holds Tryd.pinned (OpenSpec.upto aeadKnownSpec)

end Rows
end Go.Proofs.YtagkkihnfipfeaaDoor
