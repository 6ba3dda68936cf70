/-
  NARROWER THAN 'FOR EVERY INPUT', by the rows' own cells (each row's printed sentence says how): VaultKnown: laid · TokenMakes: laid · TokenVerifies: laid · TokenBytes: laid · TokenMade: laid · TokenJust: laid · TokenBack: laid · TokenKnown: laid.
  DERIVED. THE GIVEN ROWS OF THIS SEAT. 8 by the template 'for every input the law returns true; each argument reads behind the call as it read before'; 0 by the template 'total and deterministic' (their statements: YtgeacocdnenhdaaDoorTotals.lean).
  GIVEN WITH THE SEED: the statements are not yours to turn. If you find one false, say at which input.
  Laid BY PROGRAM, IN A SANDBOX (cutbox-rows.mjs): the forced cells as the released guide's own fill.sh prints them over the translation acef2a53f5e7bfae… (all of the seat's roots in one cut). By AI agents, Wed Nov 11 2026. No macro, syntax, notation, axiom, sorry.
-/
import Derived.Test.YtgeacocdnenhdaaDoorChecked
import GoSem.Claim
import GoSem.ClaimJoined
import GoSem.ClaimMapViews
import Derived.JoinedTies
import Derived.KernelRfl
namespace Go.Proofs.YtgeacocdnenhdaaDoor
/- THE CELL 'sum', in the pinned program and in every row, IS THE sha256 OF THE DUMP (.gsa) THAT YtgeacocdnenhdaaDoorProg.lean LOADS. Nothing in Lean hashes anything: it is a label: what it is worth is what the hold of that sum in a sandbox is worth. -/
noncomputable def Tryd.pinned : Pinned := { name := "ytgeacocdnenhdaadoor", sum := "acef2a53f5e7bfaed7b49d0ea6e29de41af3cc5dd128265530b6de8dc0f6b91a", checked := Tryd.checked }
namespace Rows
def none {H : Type} : Left H := { results := [], args := [] }

/- WHAT THE LISTED PACKAGE-LEVEL VARIABLES READ AS WHEN THE CALL BEGINS. Each datum BY PROGRAM (the guide's laid-datum.mjs) off the statement by which the dump's own 'gosem.cut.vars' lays the variable. In a bare row this is a premise. The card (YtgeacocdnenhdaaDoorCards.lean) ties it to the program's text. -/
def laid_sealery_frame_remainders {H : Type} : DataW H := .agg [.lit (.int .u32 0), .lit (.int .u32 498536548), .lit (.int .u32 997073096), .lit (.int .u32 651767980), .lit (.int .u32 1994146192), .lit (.int .u32 1802195444), .lit (.int .u32 1303535960), .lit (.int .u32 1342533948), .lit (.int .u32 3988292384), .lit (.int .u32 4027552580), .lit (.int .u32 3604390888), .lit (.int .u32 3412177804), .lit (.int .u32 2607071920), .lit (.int .u32 2262029012), .lit (.int .u32 2685067896), .lit (.int .u32 3183342108)]
def laid_sealery_sha_starts {H : Type} : DataW H := .agg [.lit (.int .u32 1779033703), .lit (.int .u32 3144134277), .lit (.int .u32 1013904242), .lit (.int .u32 2773480762), .lit (.int .u32 1359893119), .lit (.int .u32 2600822924), .lit (.int .u32 528734635), .lit (.int .u32 1541459225)]
def laid_sealery_sha_constants {H : Type} : DataW H := .agg [.lit (.int .u32 1116352408), .lit (.int .u32 1899447441), .lit (.int .u32 3049323471), .lit (.int .u32 3921009573), .lit (.int .u32 961987163), .lit (.int .u32 1508970993), .lit (.int .u32 2453635748), .lit (.int .u32 2870763221), .lit (.int .u32 3624381080), .lit (.int .u32 310598401), .lit (.int .u32 607225278), .lit (.int .u32 1426881987), .lit (.int .u32 1925078388), .lit (.int .u32 2162078206), .lit (.int .u32 2614888103), .lit (.int .u32 3248222580), .lit (.int .u32 3835390401), .lit (.int .u32 4022224774), .lit (.int .u32 264347078), .lit (.int .u32 604807628), .lit (.int .u32 770255983), .lit (.int .u32 1249150122), .lit (.int .u32 1555081692), .lit (.int .u32 1996064986), .lit (.int .u32 2554220882), .lit (.int .u32 2821834349), .lit (.int .u32 2952996808), .lit (.int .u32 3210313671), .lit (.int .u32 3336571891), .lit (.int .u32 3584528711), .lit (.int .u32 113926993), .lit (.int .u32 338241895), .lit (.int .u32 666307205), .lit (.int .u32 773529912), .lit (.int .u32 1294757372), .lit (.int .u32 1396182291), .lit (.int .u32 1695183700), .lit (.int .u32 1986661051), .lit (.int .u32 2177026350), .lit (.int .u32 2456956037), .lit (.int .u32 2730485921), .lit (.int .u32 2820302411), .lit (.int .u32 3259730800), .lit (.int .u32 3345764771), .lit (.int .u32 3516065817), .lit (.int .u32 3600352804), .lit (.int .u32 4094571909), .lit (.int .u32 275423344), .lit (.int .u32 430227734), .lit (.int .u32 506948616), .lit (.int .u32 659060556), .lit (.int .u32 883997877), .lit (.int .u32 958139571), .lit (.int .u32 1322822218), .lit (.int .u32 1537002063), .lit (.int .u32 1747873779), .lit (.int .u32 1955562222), .lit (.int .u32 2024104815), .lit (.int .u32 2227730452), .lit (.int .u32 2361852424), .lit (.int .u32 2428436474), .lit (.int .u32 2756734187), .lit (.int .u32 3204031479), .lit (.int .u32 3329325298)]

/-- 'sealerylaw11.VaultKnown': WHATEVER THE INPUT: true; the input reads as it did. -/
def vaultKnownSpec : ChangeSpec := { name := "vaultKnown", fn := fun _ => fun
  | [] => { results := [.lit (.bool true)], args := [] }
  | _ => none }
def vaultKnownRow : OpenClaim := { program := "ytgeacocdnenhdaadoor", sum := "acef2a53f5e7bfaed7b49d0ea6e29de41af3cc5dd128265530b6de8dc0f6b91a", func := "sealery/sealerylaw11.VaultKnown", spec := "vaultKnown", unfollowed := true, recurses := true, named := ["sealery/frame.remainders"], apart := false, laid := [("sealery/frame.remainders", laid_sealery_frame_remainders)] }
def VaultKnownSaid : Prop := vaultKnownRow.holds Tryd.pinned (OpenSpec.ofChange vaultKnownSpec)

/-- ITS FALSE NEIGHBOUR: 'it returns false'. Refute it at one input. -/
def vaultKnownWrong : ChangeSpec := { name := "vaultKnown", fn := fun _ => fun
  | [] => { results := [.lit (.bool false)], args := [] }
  | _ => none }
def VaultKnownWrongFalsely : Prop := vaultKnownRow.holds Tryd.pinned (OpenSpec.ofChange vaultKnownWrong)

/-- 'sealerylaw14.TokenMakes': WHATEVER THE INPUT: true; the input reads as it did. -/
def tokenMakesSpec : ChangeSpec := { name := "tokenMakes", fn := fun _ => fun
  | [d1, d2] => { results := [.lit (.bool true)], args := [d1, d2] }
  | _ => none }
def tokenMakesRow : OpenClaim := { program := "ytgeacocdnenhdaadoor", sum := "acef2a53f5e7bfaed7b49d0ea6e29de41af3cc5dd128265530b6de8dc0f6b91a", func := "sealery/sealerylaw14.TokenMakes", spec := "tokenMakes", unfollowed := true, recurses := true, named := ["sealery/sha.starts", "sealery/sha.constants"], apart := false, laid := [("sealery/sha.starts", laid_sealery_sha_starts), ("sealery/sha.constants", laid_sealery_sha_constants)] }
def TokenMakesSaid : Prop := tokenMakesRow.holds Tryd.pinned (OpenSpec.ofChange tokenMakesSpec)

/-- ITS FALSE NEIGHBOUR: 'it returns false'. Refute it at one input. -/
def tokenMakesWrong : ChangeSpec := { name := "tokenMakes", fn := fun _ => fun
  | [d1, d2] => { results := [.lit (.bool false)], args := [d1, d2] }
  | _ => none }
def TokenMakesWrongFalsely : Prop := tokenMakesRow.holds Tryd.pinned (OpenSpec.ofChange tokenMakesWrong)

/-- 'sealerylaw14.TokenVerifies': WHATEVER THE INPUT: true; the input reads as it did. -/
def tokenVerifiesSpec : ChangeSpec := { name := "tokenVerifies", fn := fun _ => fun
  | [d1, d2, d3] => { results := [.lit (.bool true)], args := [d1, d2, d3] }
  | _ => none }
def tokenVerifiesRow : OpenClaim := { program := "ytgeacocdnenhdaadoor", sum := "acef2a53f5e7bfaed7b49d0ea6e29de41af3cc5dd128265530b6de8dc0f6b91a", func := "sealery/sealerylaw14.TokenVerifies", spec := "tokenVerifies", unfollowed := true, recurses := true, named := ["sealery/sha.starts", "sealery/sha.constants"], apart := false, laid := [("sealery/sha.starts", laid_sealery_sha_starts), ("sealery/sha.constants", laid_sealery_sha_constants)] }
def TokenVerifiesSaid : Prop := tokenVerifiesRow.holds Tryd.pinned (OpenSpec.ofChange tokenVerifiesSpec)

/-- ITS FALSE NEIGHBOUR: 'it returns false'. Refute it at one input. -/
def tokenVerifiesWrong : ChangeSpec := { name := "tokenVerifies", fn := fun _ => fun
  | [d1, d2, d3] => { results := [.lit (.bool false)], args := [d1, d2, d3] }
  | _ => none }
def TokenVerifiesWrongFalsely : Prop := tokenVerifiesRow.holds Tryd.pinned (OpenSpec.ofChange tokenVerifiesWrong)

/-- 'sealerylaw14.TokenBytes': WHATEVER THE INPUT: true; the input reads as it did. -/
def tokenBytesSpec : ChangeSpec := { name := "tokenBytes", fn := fun _ => fun
  | [d1, d2] => { results := [.lit (.bool true)], args := [d1, d2] }
  | _ => none }
def tokenBytesRow : OpenClaim := { program := "ytgeacocdnenhdaadoor", sum := "acef2a53f5e7bfaed7b49d0ea6e29de41af3cc5dd128265530b6de8dc0f6b91a", func := "sealery/sealerylaw14.TokenBytes", spec := "tokenBytes", unfollowed := true, recurses := true, named := ["sealery/sha.starts", "sealery/sha.constants"], apart := false, laid := [("sealery/sha.starts", laid_sealery_sha_starts), ("sealery/sha.constants", laid_sealery_sha_constants)] }
def TokenBytesSaid : Prop := tokenBytesRow.holds Tryd.pinned (OpenSpec.ofChange tokenBytesSpec)

/-- ITS FALSE NEIGHBOUR: 'it returns false'. Refute it at one input. -/
def tokenBytesWrong : ChangeSpec := { name := "tokenBytes", fn := fun _ => fun
  | [d1, d2] => { results := [.lit (.bool false)], args := [d1, d2] }
  | _ => none }
def TokenBytesWrongFalsely : Prop := tokenBytesRow.holds Tryd.pinned (OpenSpec.ofChange tokenBytesWrong)

/-- 'sealerylaw14.TokenMade': WHATEVER THE INPUT: true; the input reads as it did. -/
def tokenMadeSpec : ChangeSpec := { name := "tokenMade", fn := fun _ => fun
  | [d1, d2, d3] => { results := [.lit (.bool true)], args := [d1, d2, d3] }
  | _ => none }
def tokenMadeRow : OpenClaim := { program := "ytgeacocdnenhdaadoor", sum := "acef2a53f5e7bfaed7b49d0ea6e29de41af3cc5dd128265530b6de8dc0f6b91a", func := "sealery/sealerylaw14.TokenMade", spec := "tokenMade", unfollowed := true, recurses := true, named := ["sealery/sha.starts", "sealery/sha.constants"], apart := false, laid := [("sealery/sha.starts", laid_sealery_sha_starts), ("sealery/sha.constants", laid_sealery_sha_constants)] }
def TokenMadeSaid : Prop := tokenMadeRow.holds Tryd.pinned (OpenSpec.ofChange tokenMadeSpec)

/-- ITS FALSE NEIGHBOUR: 'it returns false'. Refute it at one input. -/
def tokenMadeWrong : ChangeSpec := { name := "tokenMade", fn := fun _ => fun
  | [d1, d2, d3] => { results := [.lit (.bool false)], args := [d1, d2, d3] }
  | _ => none }
def TokenMadeWrongFalsely : Prop := tokenMadeRow.holds Tryd.pinned (OpenSpec.ofChange tokenMadeWrong)

/-- 'sealerylaw14.TokenJust': WHATEVER THE INPUT: true; the input reads as it did. -/
def tokenJustSpec : ChangeSpec := { name := "tokenJust", fn := fun _ => fun
  | [d1, d2, d3] => { results := [.lit (.bool true)], args := [d1, d2, d3] }
  | _ => none }
def tokenJustRow : OpenClaim := { program := "ytgeacocdnenhdaadoor", sum := "acef2a53f5e7bfaed7b49d0ea6e29de41af3cc5dd128265530b6de8dc0f6b91a", func := "sealery/sealerylaw14.TokenJust", spec := "tokenJust", unfollowed := true, recurses := true, named := ["sealery/sha.starts", "sealery/sha.constants"], apart := false, laid := [("sealery/sha.starts", laid_sealery_sha_starts), ("sealery/sha.constants", laid_sealery_sha_constants)] }
def TokenJustSaid : Prop := tokenJustRow.holds Tryd.pinned (OpenSpec.ofChange tokenJustSpec)

/-- ITS FALSE NEIGHBOUR: 'it returns false'. Refute it at one input. -/
def tokenJustWrong : ChangeSpec := { name := "tokenJust", fn := fun _ => fun
  | [d1, d2, d3] => { results := [.lit (.bool false)], args := [d1, d2, d3] }
  | _ => none }
def TokenJustWrongFalsely : Prop := tokenJustRow.holds Tryd.pinned (OpenSpec.ofChange tokenJustWrong)

/-- 'sealerylaw14.TokenBack': WHATEVER THE INPUT: true; the input reads as it did. -/
def tokenBackSpec : ChangeSpec := { name := "tokenBack", fn := fun _ => fun
  | [d1, d2, d3] => { results := [.lit (.bool true)], args := [d1, d2, d3] }
  | _ => none }
def tokenBackRow : OpenClaim := { program := "ytgeacocdnenhdaadoor", sum := "acef2a53f5e7bfaed7b49d0ea6e29de41af3cc5dd128265530b6de8dc0f6b91a", func := "sealery/sealerylaw14.TokenBack", spec := "tokenBack", unfollowed := true, recurses := true, named := ["sealery/sha.starts", "sealery/sha.constants"], apart := false, laid := [("sealery/sha.starts", laid_sealery_sha_starts), ("sealery/sha.constants", laid_sealery_sha_constants)] }
def TokenBackSaid : Prop := tokenBackRow.holds Tryd.pinned (OpenSpec.ofChange tokenBackSpec)

/-- ITS FALSE NEIGHBOUR: 'it returns false'. Refute it at one input. -/
def tokenBackWrong : ChangeSpec := { name := "tokenBack", fn := fun _ => fun
  | [d1, d2, d3] => { results := [.lit (.bool false)], args := [d1, d2, d3] }
  | _ => none }
def TokenBackWrongFalsely : Prop := tokenBackRow.holds Tryd.pinned (OpenSpec.ofChange tokenBackWrong)

/-- 'sealerylaw14.TokenKnown': WHATEVER THE INPUT: true; the input reads as it did. -/
def tokenKnownSpec : ChangeSpec := { name := "tokenKnown", fn := fun _ => fun
  | [] => { results := [.lit (.bool true)], args := [] }
  | _ => none }
def tokenKnownRow : OpenClaim := { program := "ytgeacocdnenhdaadoor", sum := "acef2a53f5e7bfaed7b49d0ea6e29de41af3cc5dd128265530b6de8dc0f6b91a", func := "sealery/sealerylaw14.TokenKnown", spec := "tokenKnown", unfollowed := true, recurses := true, named := ["sealery/sha.starts", "sealery/sha.constants"], apart := false, laid := [("sealery/sha.starts", laid_sealery_sha_starts), ("sealery/sha.constants", laid_sealery_sha_constants)] }
def TokenKnownSaid : Prop := tokenKnownRow.holds Tryd.pinned (OpenSpec.ofChange tokenKnownSpec)

/-- ITS FALSE NEIGHBOUR: 'it returns false'. Refute it at one input. -/
def tokenKnownWrong : ChangeSpec := { name := "tokenKnown", fn := fun _ => fun
  | [] => { results := [.lit (.bool false)], args := [] }
  | _ => none }
def TokenKnownWrongFalsely : Prop := tokenKnownRow.holds Tryd.pinned (OpenSpec.ofChange tokenKnownWrong)

/- THE SECOND FORM. 'bulk': how many values and letters a reading holds, each counted each time it is reached (what is shared counts as often as it is met; a slice's spare places count too). A statement '..UptoSaid' is the law's where the arguments, and the package variables that the reading takes, are together of bulk at most 1048576: NARROWER than '..Said'. Prove '..Said' where nothing that the law and all that it calls make is longer than what came in: it says more and counts as full. Else prove '..UptoSaid'. A law counts once. -/
mutual
def uptoBulk {H : Type} : DataW H → Nat
  | .lit (.string bytes) => bytes.length + 1
  | .lit _ => 1
  | .nil => 1
  | .ptr d => uptoBulk d + 1
  | .slice elems spare => uptoBulkAll elems + uptoBulkAll spare + 1
  | .agg parts => uptoBulkAll parts + 1
  | .iface _ d => uptoBulk d + 1
  | .map entries => uptoBulkEntries entries + 1
  | .held _ => 1
def uptoBulkAll {H : Type} : List (DataW H) → Nat
  | [] => 0
  | d :: r => uptoBulk d + uptoBulkAll r
def uptoBulkEntries {H : Type} : List (Lit × DataW H) → Nat
  | [] => 0
  | x :: r => uptoBulkEntry x + uptoBulkEntries r
def uptoBulkEntry {H : Type} : Lit × DataW H → Nat
  | (.string bytes, d) => bytes.length + uptoBulk d + 1
  | (_, d) => uptoBulk d + 1
 end
def uptoSmall : (H : Type) → List (DataW H) → Bool := fun _ ds => decide (uptoBulkAll ds ≤ 1048576)
def OpenSpec.upto (s : _root_.Go.ChangeSpec) : _root_.Go.OpenSpec := { _root_.Go.OpenSpec.ofChange s with cond := some uptoSmall }

/-- 'sealerylaw11.VaultKnown', WHERE WHAT IT READS IS OF BULK AT MOST 1048576: true; the input reads as it did. -/
def vaultKnownUptoRow : OpenClaim := { program := "ytgeacocdnenhdaadoor", sum := "acef2a53f5e7bfaed7b49d0ea6e29de41af3cc5dd128265530b6de8dc0f6b91a", func := "sealery/sealerylaw11.VaultKnown", spec := "vaultKnown", unfollowed := true, recurses := true, named := ["sealery/frame.remainders"], apart := false, laid := [("sealery/frame.remainders", laid_sealery_frame_remainders)], narrowed := true }
def VaultKnownUptoSaid : Prop := vaultKnownUptoRow.holds Tryd.pinned (OpenSpec.upto vaultKnownSpec)

/-- 'sealerylaw14.TokenMakes', WHERE WHAT IT READS IS OF BULK AT MOST 1048576: true; the input reads as it did. -/
def tokenMakesUptoRow : OpenClaim := { program := "ytgeacocdnenhdaadoor", sum := "acef2a53f5e7bfaed7b49d0ea6e29de41af3cc5dd128265530b6de8dc0f6b91a", func := "sealery/sealerylaw14.TokenMakes", spec := "tokenMakes", unfollowed := true, recurses := true, named := ["sealery/sha.starts", "sealery/sha.constants"], apart := false, laid := [("sealery/sha.starts", laid_sealery_sha_starts), ("sealery/sha.constants", laid_sealery_sha_constants)], narrowed := true }
def TokenMakesUptoSaid : Prop := tokenMakesUptoRow.holds Tryd.pinned (OpenSpec.upto tokenMakesSpec)

/-- 'sealerylaw14.TokenVerifies', WHERE WHAT IT READS IS OF BULK AT MOST 1048576: true; the input reads as it did. -/
def tokenVerifiesUptoRow : OpenClaim := { program := "ytgeacocdnenhdaadoor", sum := "acef2a53f5e7bfaed7b49d0ea6e29de41af3cc5dd128265530b6de8dc0f6b91a", func := "sealery/sealerylaw14.TokenVerifies", spec := "tokenVerifies", unfollowed := true, recurses := true, named := ["sealery/sha.starts", "sealery/sha.constants"], apart := false, laid := [("sealery/sha.starts", laid_sealery_sha_starts), ("sealery/sha.constants", laid_sealery_sha_constants)], narrowed := true }
def TokenVerifiesUptoSaid : Prop := tokenVerifiesUptoRow.holds Tryd.pinned (OpenSpec.upto tokenVerifiesSpec)

/-- 'sealerylaw14.TokenBytes', WHERE WHAT IT READS IS OF BULK AT MOST 1048576: true; the input reads as it did. -/
def tokenBytesUptoRow : OpenClaim := { program := "ytgeacocdnenhdaadoor", sum := "acef2a53f5e7bfaed7b49d0ea6e29de41af3cc5dd128265530b6de8dc0f6b91a", func := "sealery/sealerylaw14.TokenBytes", spec := "tokenBytes", unfollowed := true, recurses := true, named := ["sealery/sha.starts", "sealery/sha.constants"], apart := false, laid := [("sealery/sha.starts", laid_sealery_sha_starts), ("sealery/sha.constants", laid_sealery_sha_constants)], narrowed := true }
def TokenBytesUptoSaid : Prop := tokenBytesUptoRow.holds Tryd.pinned (OpenSpec.upto tokenBytesSpec)

/-- 'sealerylaw14.TokenMade', WHERE WHAT IT READS IS OF BULK AT MOST 1048576: true; the input reads as it did. -/
def tokenMadeUptoRow : OpenClaim := { program := "ytgeacocdnenhdaadoor", sum := "acef2a53f5e7bfaed7b49d0ea6e29de41af3cc5dd128265530b6de8dc0f6b91a", func := "sealery/sealerylaw14.TokenMade", spec := "tokenMade", unfollowed := true, recurses := true, named := ["sealery/sha.starts", "sealery/sha.constants"], apart := false, laid := [("sealery/sha.starts", laid_sealery_sha_starts), ("sealery/sha.constants", laid_sealery_sha_constants)], narrowed := true }
def TokenMadeUptoSaid : Prop := tokenMadeUptoRow.holds Tryd.pinned (OpenSpec.upto tokenMadeSpec)

/-- 'sealerylaw14.TokenJust', WHERE WHAT IT READS IS OF BULK AT MOST 1048576: true; the input reads as it did. -/
def tokenJustUptoRow : OpenClaim := { program := "ytgeacocdnenhdaadoor", sum := "acef2a53f5e7bfaed7b49d0ea6e29de41af3cc5dd128265530b6de8dc0f6b91a", func := "sealery/sealerylaw14.TokenJust", spec := "tokenJust", unfollowed := true, recurses := true, named := ["sealery/sha.starts", "sealery/sha.constants"], apart := false, laid := [("sealery/sha.starts", laid_sealery_sha_starts), ("sealery/sha.constants", laid_sealery_sha_constants)], narrowed := true }
def TokenJustUptoSaid : Prop := tokenJustUptoRow.holds Tryd.pinned (OpenSpec.upto tokenJustSpec)

/-- 'sealerylaw14.TokenBack', WHERE WHAT IT READS IS OF BULK AT MOST 1048576: true; the input reads as it did. -/
def tokenBackUptoRow : OpenClaim := { program := "ytgeacocdnenhdaadoor", sum := "acef2a53f5e7bfaed7b49d0ea6e29de41af3cc5dd128265530b6de8dc0f6b91a", func := "sealery/sealerylaw14.TokenBack", spec := "tokenBack", unfollowed := true, recurses := true, named := ["sealery/sha.starts", "sealery/sha.constants"], apart := false, laid := [("sealery/sha.starts", laid_sealery_sha_starts), ("sealery/sha.constants", laid_sealery_sha_constants)], narrowed := true }
def TokenBackUptoSaid : Prop := tokenBackUptoRow.holds Tryd.pinned (OpenSpec.upto tokenBackSpec)

/-- 'sealerylaw14.TokenKnown', WHERE WHAT IT READS IS OF BULK AT MOST 1048576: true; the input reads as it did. -/
def tokenKnownUptoRow : OpenClaim := { program := "ytgeacocdnenhdaadoor", sum := "acef2a53f5e7bfaed7b49d0ea6e29de41af3cc5dd128265530b6de8dc0f6b91a", func := "sealery/sealerylaw14.TokenKnown", spec := "tokenKnown", unfollowed := true, recurses := true, named := ["sealery/sha.starts", "sealery/sha.constants"], apart := false, laid := [("sealery/sha.starts", laid_sealery_sha_starts), ("sealery/sha.constants", laid_sealery_sha_constants)], narrowed := true }
def TokenKnownUptoSaid : Prop := tokenKnownUptoRow.holds Tryd.pinned (OpenSpec.upto tokenKnownSpec)

end Rows
end Go.Proofs.YtgeacocdnenhdaaDoor
