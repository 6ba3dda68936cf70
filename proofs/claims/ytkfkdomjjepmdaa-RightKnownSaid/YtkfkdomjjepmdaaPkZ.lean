/-
  What other texts lean on: DkCalls2, DkCrash, OpenS, OpenSW, KrOpen.
-/
import Derived.Test.YtkfkdomjjepmdaaPkA
import Derived.Test.YtkfkdomjjepmdaaPkY
import Derived.BigQuiet
import Derived.SizedLaws
/-
  The program's disk: Sync, Cut, Over.
-/
namespace Go.Proofs.Ytkfkdomjjepmdaa
open Go.RowKit Go.Proofs.ShaWords
section
variable {ρ : Operand → Value} {o : Oper} {x y : Operand}
end
end Go.Proofs.Ytkfkdomjjepmdaa

/-
  The program's disk: Crash, New, Arm. Slices of any whole numbers.
-/
namespace Go.Proofs.Ytkfkdomjjepmdaa
open Go.RowKit Go.Proofs.ShaWords
def intsV (l : List Int) : List Value := l.map fun n => .int .i64 n
/-- Numbers that a slice's address leads to. -/
def LiesZ (w : World) (p : Option Addr) (l : List Int) : Prop := l = [] ∨ ∃ b off, p = some ⟨b, off, none⟩ ∧ w.rangeAt b off (intsV l)
theorem LiesZ.below {w w' : World} {p : Option Addr} {l : List Int} (h : LiesZ w p l) (hb : Below w.heap.size w w') : LiesZ w' p l := by
  rcases h with h | ⟨b, off, hp, hr⟩
  · exact Or.inl h
  · exact Or.inr ⟨b, off, hp, range_keep hr hb⟩
/-- Numbers that lie in no block of S. -/
def LiesZO (S : Nat → Prop) (w : World) (p : Option Addr) (l : List Int) : Prop := l = [] ∨ ∃ b off, p = some ⟨b, off, none⟩ ∧ ¬ S b ∧ b < w.heap.size ∧ w.rangeAt b off (intsV l)
theorem LiesZO.stay {S S' : Nat → Prop} {w w' : World} {p : Option Addr} {l : List Int} (h : LiesZO S w p l) (hs : Stays S w w') (hS : ∀ k, S' k → S k ∨ w.heap.size ≤ k) : LiesZO S' w' p l := by
  rcases h with h | ⟨b, off, hp, h1, h2, hr⟩
  · exact Or.inl h
  · exact Or.inr ⟨b, off, hp, fun s => (hS b s).elim h1 (fun h => by omega), Nat.lt_of_lt_of_le h2 hs.size, range_of_block hr (hs.block b h2 h1)⟩
section
variable {ρ : Operand → Value} {o : Oper} {x y : Operand}
end
end Go.Proofs.Ytkfkdomjjepmdaa

/-
  What came in, opened: slices of structs of any kind; slices of bytes and of whole numbers as fields.
-/
namespace Go.Proofs.Ytkfkdomjjepmdaa
open Go.ChangeShapes Go.WideShapes Go.ChangeAt Go.RowKit Go.Proofs.ShaWords Go.Deep
/-- Things of N cells each, one behind the other. -/
structure RowOf {α : Type} (N : Nat) (cells : α → List Value) (W : World) (a : Option Addr) (os : List α) : Prop where
  at' : os = [] ∨ ∃ b off, a = some ⟨b, off, none⟩ ∧ ∀ k (h : k < os.length), W.rangeAt b (off + k * N) (cells os[k])
theorem RowOf.below {α : Type} {N : Nat} {cells : α → List Value} {w w' : World} {a : Option Addr} {os : List α} (h : RowOf N cells w a os) (hb : Below w.heap.size w w') : RowOf N cells w' a os := by
  refine ⟨?_⟩
  rcases h.at' with h0 | ⟨b, off, h1, h2⟩
  · exact Or.inl h0
  · exact Or.inr ⟨b, off, h1, fun k hk => range_keep (h2 k hk) hb⟩
end Go.Proofs.Ytkfkdomjjepmdaa

/-
  What came in, opened, with its sizes: slices of structs of any kind; a field that is a slice of bytes.
-/
namespace Go.Proofs.Ytkfkdomjjepmdaa
open Go.ChangeShapes Go.WideShapes Go.ChangeAt Go.RowKit Go.Proofs.ShaWords Go.Deep
end Go.Proofs.Ytkfkdomjjepmdaa

/-
  What comes in at layer 12, opened: calls on subjects, pairs of subjects.
-/
namespace Go.Proofs.Ytkfkdomjjepmdaa
open Go.ChangeShapes Go.WideShapes Go.ChangeAt Go.RowKit Go.Proofs.ShaWords Go.Deep
/-- A call on a ring that came in. -/
structure Op12 where
  kind : Int
  n : Int
  t : ByteArray
  s : ByteArray
instance : Inhabited Op12 := ⟨⟨0, 0, ⟨#[]⟩, ⟨#[]⟩⟩⟩
def Op12.cells (x : Op12) : List Value := [.int .i64 x.kind, .int .i64 x.n, .string x.t, .string x.s]
structure Op12.Ok (x : Op12) : Prop where
  kw : wrap64 x.kind = x.kind
  nw : wrap64 x.n = x.n
  ts : x.t.size ≤ 140737488351232
  ss : x.s.size ≤ 140737488351232
/-- RingApart's argument. -/
structure Pair12 where
  t : ByteArray
  s : ByteArray
  o : ByteArray
  z : Int
  n : Int
def Pair12.cells (x : Pair12) : List Value := [.string x.t, .string x.s, .string x.o, .int .i64 x.z, .int .i64 x.n]
structure Pair12.Ok (x : Pair12) : Prop where
  ts : x.t.size ≤ 140737488351232
  ss : x.s.size ≤ 140737488351232
  os : x.o.size ≤ 140737488351232
  zw : wrap64 x.z = x.z
  nw : wrap64 x.n = x.n
end Go.Proofs.Ytkfkdomjjepmdaa
