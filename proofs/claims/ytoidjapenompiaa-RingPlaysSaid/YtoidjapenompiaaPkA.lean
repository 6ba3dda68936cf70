/-
  What other texts lean on: Words, Gen, Bytes, WordsAt, OwnBytes, BytesBig, Foot, Structs, KrModel, BaseG, KrKey, X2, Elems, KrAt, Tree, KrHold, KrCalls, KrClone, KrMake, Phase, ArrEq, KeyBoxes, KrNonce, StdBytes, AppendAt, Met, MetBefore, Pick, KrRef, KrRefCalls, KrRefNonce.
-/
import Derived.WalkKit
import Derived.WalkLawsBesides
import Derived.Laws.BitsAllLaws
import Derived.Test.YtoidjapenompiaaProg
import Derived.WalkSpells
import Derived.Lib.Hide
import Derived.StillTailTactics
import Derived.IntWalk
import Derived.Laws.CopyOwn
import Derived.Laws.Rows
import Derived.Deep.QuietTactic
import Derived.BigQuiet
import Derived.Deep.RegionHeld3
import Derived.Deep.DeepFit
import Derived.Lib.SlBytesConst
import Derived.Laws.OwnMore
import Derived.Great.BuildSlice
import Derived.RowKit
import Derived.Test.YtoidjapenompiaaRows
import Derived.ProofKit
import Derived.OpenShut
import Derived.ShutString
import Derived.ChangeOld
import Derived.Below
import Derived.LaidMore
import Derived.Lib.LaidTab
import Derived.Stop.Joined
import Derived.Deep.Matrix
import Derived.SizedLaws
import Derived.Maps.RangeRun
import Derived.Maps.Keyed
import Derived.DeepKeys4
import Derived.Maps.AppendAt
import Derived.Carry
import Derived.Deep.DeepCutAuto
import Derived.Shelf.Pu.Clone
import Derived.Stop.BytesEq
import Derived.LoopTactic
import Derived.Deep.Cut
import Derived.Laws.AppendOwnNone
import Derived.Laws.BytesArg
import Derived.Laws.BytesString
import Derived.Lib.SliceRun
import Derived.Lib.Bytes
/-
  Words of 32 bits and bytes as plain bit vectors: what the model's integer operations at uint32 and uint8 come to on them. Without any condition.
-/
namespace Go.Proofs.ShaWords
open Go

/-- A word as the number that the model holds. -/
def n32 (x : BitVec 32) : Int := (x.toNat : Int)
/-- A byte as the number that the model holds. -/
def n8 (x : BitVec 8) : Int := (x.toNat : Int)

/-- A byte as a word; a word's last byte. -/
def ext (b : BitVec 8) : BitVec 32 := b.setWidth 32
end Go.Proofs.ShaWords

/-
  What every layer leans on: bytes and words in memory; blocks that hold bytes; loads, stores, copies and makes of whole rows; a region that draws its order, carried out along one list of its operations; calls.
-/
namespace Go.Proofs.Ytoidjapenompiaa
open Go.RowKit Go.Proofs.ShaWords

def bytesV (l : List (BitVec 8)) : List Value := l.map fun b => .int .u8 (n8 b)
def wordsV (l : List (BitVec 32)) : List Value := l.map fun x => .int .u32 (n32 x)
theorem cell_bytesV {w : World} {g j : Nat} {l : List (BitVec 8)} {t : TypeId} {fr : Nat × Nat} (h : w.heap[g]? = some (.cells (bytesV l).toArray t fr)) (hj : j < l.length) : w.cell? ⟨g, j, none⟩ = some (.int .u8 (n8 l[j])) := by
  rw [cell_of_row w g j _ t fr h]; simp [bytesV, hj]
theorem cell_wordsV {w : World} {g j : Nat} {l : List (BitVec 32)} {t : TypeId} {fr : Nat × Nat} (h : w.heap[g]? = some (.cells (wordsV l).toArray t fr)) (hj : j < l.length) : w.cell? ⟨g, j, none⟩ = some (.int .u32 (n32 l[j])) := by
  rw [cell_of_row w g j _ t fr h]; simp [wordsV, hj]
theorem wordsV_set (l : List (BitVec 32)) (k : Nat) (x : BitVec 32) : (wordsV l).toArray.setIfInBounds k (.int .u32 (n32 x)) = (wordsV (l.set k x)).toArray := by
  simp [wordsV, List.map_set]
theorem bytesV_one (l : List (BitVec 8)) : (bytesV l).toArray.all (·.oneCell') = true :=
  Array.all_eq_true_iff_forall_mem.2 fun v hv => by
    simp only [bytesV, List.mem_toArray, List.mem_map] at hv
    obtain ⟨x, _, rfl⟩ := hv
    rfl
theorem heap_new_at {w : World} {o : Obj} {n : Nat} (h : w.heap.size = n) : (w.alloc o).heap[n]? = some o := by
  subst h; exact _root_.Go.heap_alloc_new w o
theorem size_alloc (w : World) (o : Obj) : (w.alloc o).heap.size = w.heap.size + 1 := by simp
theorem bytesV_size (l : List (BitVec 8)) (n : Nat) (h : l.length = n) : (bytesV l).toArray.size = n := by simp [bytesV, h]
theorem wp_gen {P : Program} {c : Code} {Q : Exit → Act → World → Prop} {a : Act} {w : World} (F : World → Prop) (hF : F w) (h : ∀ w, F w → Code.wp P c Q a w) : Code.wp P c Q a w := h w hF
theorem bytesV_length (l : List (BitVec 8)) : (bytesV l).length = l.length := by simp [bytesV]
/-- Bytes that a slice's address leads to, in a block other than g. -/
def Reads (w : World) (g : Nat) (p : Option Addr) (bs : List (BitVec 8)) : Prop :=
  bs = [] ∨ ∃ b off, p = some ⟨b, off, none⟩ ∧ b ≠ g ∧ w.rangeAt b off (bytesV bs)
theorem grown_setCell (w : World) (g j : Nat) (v : Value) : w.grownBy (w.setCell ⟨g, j, none⟩ v) (some g) :=
  ⟨rfl, rfl, rfl, by simp [World.setCell], fun k _ hk => heap_setCell_other _ _ _ _ (fun e => hk (by rw [e]))⟩
theorem Reads.grown {w w' : World} {g b off : Nat} {l : List Value} (h : w.rangeAt b off l) (hb : w.grownBy w' (some g)) (hg : b ≠ g) : w'.rangeAt b off l := fun j v hv =>
  (World.cell?_of_block (a := ⟨b, off + j, none⟩) (hb.block b (World.block_lt_of_cell? w _ (h j v hv)) (fun e => hg (Option.some.inj e)))).trans (h j v hv)
theorem put_size (a : Act) (d : Nat) (v : Value) : (a.put (some d) v).tmps.size = a.tmps.size := by simp [Act.put]
theorem eval_same (a : Act) (d : Nat) (v : Value) (h : d < a.tmps.size) : (a.put (some d) v).eval (.tmp d) = v := by simp [Act.eval, Act.put, h]
theorem eval_other (a : Act) (d t : Nat) (v : Value) (h : d ≠ t) : (a.put (some d) v).eval (.tmp t) = a.eval (.tmp t) := Act.eval_put (fun e he hx => by cases he; cases hx; exact h rfl)
theorem run_move {P : Program} {ρ : Operand → Value} {o : Oper} {x : Operand} {v : Value} (ho : o.op = .move x) (h : ρ x = v) (w : World) : (execOp ρ o).run P w = .ok (.value v) w := by
  unfold execOp; simp only [ho, h, Sem.run_pure]
theorem wanted_of {o : Oper} {ops : Array Oper} {t : Array Value} (h : o.guard = none) : Region.wanted o (yielded ops t) = true := by simp [Region.wanted, h]
theorem grown_below {w w1 : World} {B : Nat} (hb : Below B w w1) (hB : w.heap.size ≤ B) (r : Option Nat) : w.grownBy w1 r :=
  ⟨hb.os, hb.tape, hb.output, hb.size, fun k hk _ => hb.block k (by omega)⟩
theorem range_bytesV {w : World} {g : Nat} {l : List (BitVec 8)} {t : TypeId} {fr : Nat × Nat} (h : w.heap[g]? = some (.cells (bytesV l).toArray t fr)) : w.rangeAt g 0 (bytesV l) := fun j v hv => by
  rw [Nat.zero_add, cell_of_row w g j _ t fr h]; simpa using hv
/-- Bytes that a slice's address leads to. -/
def Lies (w : World) (p : Option Addr) (bs : List (BitVec 8)) : Prop := bs = [] ∨ ∃ b off, p = some ⟨b, off, none⟩ ∧ w.rangeAt b off (bytesV bs)
theorem Lies.below {w w' : World} {p : Option Addr} {bs : List (BitVec 8)} (h : Lies w p bs) (hb : Below w.heap.size w w') : Lies w' p bs := by
  rcases h with h | ⟨b, off, hp, hr⟩
  · exact Or.inl h
  · exact Or.inr ⟨b, off, hp, fun j v hv => (hb.cell (p := ⟨b, off + j, none⟩) (World.block_lt_of_cell? w _ (hr j v hv))).trans (hr j v hv)⟩
/-- What lies in a world lies in no block that was made later. -/
theorem Lies.reads {w w' : World} {p : Option Addr} {bs : List (BitVec 8)} (h : Lies w p bs) (hb : Below w.heap.size w w') (g : Nat) (hg : w.heap.size ≤ g) : Reads w' g p bs := by
  rcases h with h | ⟨b, off, hp, hr⟩
  · exact Or.inl h
  · by_cases hne : bs = []
    · exact Or.inl hne
    · refine Or.inr ⟨b, off, hp, ?_, fun j v hv => (hb.cell (p := ⟨b, off + j, none⟩) (World.block_lt_of_cell? w _ (hr j v hv))).trans (hr j v hv)⟩
      cases bs with
      | nil => exact absurd rfl hne
      | cons x r =>
        have := World.block_lt_of_cell? w _ (hr 0 _ rfl)
        intro e; subst e; simp at this; omega
section
variable {P : Program} {ops : Array Oper} {Q : Exit → Act → World → Prop} {S : World → Prop} {r : List (Nat × Bool)} {i : Nat} {o : Oper} {d : Option Tmp} {v : Value} {a : Act} {w w' : World}
end
section
variable {P : Program} {ρ : Operand → Value} {o : Oper} {x y c : Operand} {v u : Value}
theorem run_assign (ho : o.op = .assign x) (h : ρ x = v) (w : World) : (execOp ρ o).run P w = .ok (.value v) w := by
  unfold execOp; simp only [ho, h, Sem.run_pure]
theorem range_keep {w w' : World} {b off : Nat} {l : List Value} (h : w.rangeAt b off l) (hb : Below w.heap.size w w') : w'.rangeAt b off l := fun j v hv =>
  (hb.cell (p := ⟨b, off + j, none⟩) (World.block_lt_of_cell? w _ (h j v hv))).trans (h j v hv)
/-- A call of any function of the program that has a body. -/
theorem callFunc_body {P : Program} {f : FuncId} {fn : Func} (hfn : P.funcs[f]? = some fn) (hb : (fn.name == "runtime.NumGoroutine" || fn.body.isNone) = false) (args : Array Value) (w : World) : (callFunc f args).run P w = .ok (.enter f args) w := by
  rw [Bool.or_eq_false_iff] at hb
  have h1 : ¬ fn.name = "runtime.NumGoroutine" := by simpa using hb.1
  have h2 : ¬ fn.body = none := fun h => by rw [h] at hb; exact absurd hb.2 (by decide)
  simp [callFunc, go_sem, hfn, h1, h2]
theorem run_callf1 {P : Program} {f : FuncId} {fn : Func} {T : Array TypeId} (ho : o.op = .call { callee := .value (.func f), args := #[x], argTypes := T }) (hf : ρ (.func f) = .func (.func f) #[] #[]) (hx : ρ x = v) (hfn : P.funcs[f]? = some fn) (hb : (fn.name == "runtime.NumGoroutine" || fn.body.isNone) = false) (w : World) : (execOp ρ o).run P w = .ok (.enter f #[v]) w := by
  obtain ⟨dst, op, ty, pos, after, guard⟩ := o
  simp only at ho
  subst ho
  have h := callFunc_body hfn hb #[v] w
  go_simp
theorem run_callf3 {P : Program} {f : FuncId} {fn : Func} {T : Array TypeId} {z : Value} (ho : o.op = .call { callee := .value (.func f), args := #[x, y, c], argTypes := T }) (hf : ρ (.func f) = .func (.func f) #[] #[]) (hx : ρ x = v) (hy : ρ y = u) (hz : ρ c = z) (hfn : P.funcs[f]? = some fn) (hb : (fn.name == "runtime.NumGoroutine" || fn.body.isNone) = false) (w : World) : (execOp ρ o).run P w = .ok (.enter f #[v, u, z]) w := by
  obtain ⟨dst, op, ty, pos, after, guard⟩ := o
  simp only at ho
  subst ho
  have h := callFunc_body hfn hb #[v, u, z] w
  go_simp
theorem run_callf4 {P : Program} {f : FuncId} {fn : Func} {T : Array TypeId} {z z2 : Value} {c2 : Operand} (ho : o.op = .call { callee := .value (.func f), args := #[x, y, c, c2], argTypes := T }) (hf : ρ (.func f) = .func (.func f) #[] #[]) (hx : ρ x = v) (hy : ρ y = u) (hz : ρ c = z) (hz2 : ρ c2 = z2) (hfn : P.funcs[f]? = some fn) (hb : (fn.name == "runtime.NumGoroutine" || fn.body.isNone) = false) (w : World) : (execOp ρ o).run P w = .ok (.enter f #[v, u, z, z2]) w := by
  obtain ⟨dst, op, ty, pos, after, guard⟩ := o
  simp only at ho
  subst ho
  have h := callFunc_body hfn hb #[v, u, z, z2] w
  go_simp
end
/-- A block that holds these bytes. -/
def BytesAt (w : World) (g : Nat) (t : TypeId) (l : List (BitVec 8)) : Prop := w.heap[g]? = some (.cells (bytesV l).toArray t (0, 0))
theorem BytesAt.size {w : World} {g : Nat} {t : TypeId} {l : List (BitVec 8)} (h : BytesAt w g t l) : g < w.heap.size := (Array.getElem?_eq_some_iff.1 h).1
theorem BytesAt.keep {w w' : World} {g : Nat} {t : TypeId} {l : List (BitVec 8)} (h : BytesAt w g t l) (hb : Below w.heap.size w w') : BytesAt w' g t l := (hb.block _ h.size).trans h
theorem BytesAt.range {w : World} {g : Nat} {t : TypeId} {l : List (BitVec 8)} (h : BytesAt w g t l) : w.rangeAt g 0 (bytesV l) := range_bytesV h
def noughts (n : Nat) : List (BitVec 8) := List.replicate n 0#8
theorem noughts_length (n : Nat) : (noughts n).length = n := by simp [noughts]
theorem setCell_bytes {w : World} {g : Nat} {l : List (BitVec 8)} {t : TypeId} {k : Nat} (h : w.heap[g]? = some (.cells (bytesV l).toArray t (0, 0))) (x : BitVec 8) :
    (w.setCell ⟨g, k, none⟩ (.int .u8 (n8 x))).heap[g]? = some (.cells (bytesV (l.set k x)).toArray t (0, 0)) := by
  rw [heap_setCell_same _ _ _ _ _ _ h, List.setIfInBounds_toArray]
  simp [bytesV, List.map_set]
theorem Reads.on {w w' : World} {g : Nat} {p : Option Addr} {bs : List (BitVec 8)} (h : Reads w g p bs) (hb : Below w.heap.size w w') : Reads w' g p bs := by
  rcases h with h | ⟨b, off, hp, hne, hr⟩
  · exact Or.inl h
  · exact Or.inr ⟨b, off, hp, hne, range_keep hr hb⟩
end Go.Proofs.Ytoidjapenompiaa

/-
  The contracts of the kit's own functions on bytes: CopyBytes, markBytes, LentBytes, SameBytes at equal lists, KeptBytes at what LentBytes made.
-/
namespace Go.Proofs.Ytoidjapenompiaa
open Go.RowKit Go.Proofs.ShaWords

/-- A slice of the call's own that holds these bytes. -/
def Own (B : Nat) (w : World) (l : List (BitVec 8)) (v : Value) : Prop := w.ownsRow B 5 1 v l.length (bytesV l)
theorem Own.nil (B : Nat) (w : World) : Own B w [] (.slice none 0 0) := World.ownsRow_nil w B 5 1
theorem Own.lies {B : Nat} {w : World} {l : List (BitVec 8)} {v : Value} (h : Own B w l v) : ∃ p cap, v = .slice p l.length cap ∧ l.length ≤ cap ∧ cap ≤ maxLen ∧ Lies w p l := by
  rcases h.2 with ⟨rfl, h0⟩ | ⟨g, cap, cur, rfl, hg, hh, hc, hm, hs, ht⟩
  · have : l = [] := List.length_eq_zero_iff.1 h0
    subst this
    exact ⟨none, 0, rfl, Nat.le_refl _, Nat.zero_le _, Or.inl rfl⟩
  · refine ⟨some ⟨g, 0, none⟩, cap, rfl, hc, hm, Or.inr ⟨g, 0, rfl, fun j v hv => ?_⟩⟩
    rw [Nat.zero_add, cell_of_row w g j cur 5 (0, 0) hh]
    rw [← ht, Nat.mul_one, List.getElem?_take] at hv
    split at hv
    · rw [← hv]; simp
    · cases hv
theorem Own.below {B : Nat} {w w' : World} {l : List (BitVec 8)} {v : Value} (h : Own B w l v) (hb : Below w.heap.size w w') : Own B w' l v :=
  World.ownsRow.kept h (grown_below hb (Nat.le_refl _) none) (by cases v.ownBlock <;> simp)
/-- The kit's marks. -/
def mark (i : Nat) : BitVec 8 := BitVec.ofNat 8 (201 + 7 * i)
def marks (k : Nat) : List (BitVec 8) := (List.range k).map mark
end Go.Proofs.Ytoidjapenompiaa

/-
  A block that holds words; pieces of a list written over.
-/
namespace Go.Proofs.Ytoidjapenompiaa
open Go.RowKit Go.Proofs.ShaWords

/-- A block that holds these words. -/
def WordsAt (w : World) (g : Nat) (t : TypeId) (l : List (BitVec 32)) : Prop := w.heap[g]? = some (.cells (wordsV l).toArray t (0, 0))
theorem WordsAt.size {w : World} {g : Nat} {t : TypeId} {l : List (BitVec 32)} (h : WordsAt w g t l) : g < w.heap.size := (Array.getElem?_eq_some_iff.1 h).1
theorem WordsAt.keep {w w' : World} {g : Nat} {t : TypeId} {l : List (BitVec 32)} (h : WordsAt w g t l) (hb : Below w.heap.size w w') : WordsAt w' g t l := (hb.block _ h.size).trans h
theorem WordsAt.cell {w : World} {g : Nat} {t : TypeId} {l : List (BitVec 32)} (h : WordsAt w g t l) (k : Nat) (hk : k < l.length) : w.cell? ⟨g, k, none⟩ = some (.int .u32 (n32 (l.getD k 0#32))) := by
  rw [cell_wordsV h hk]; simp [List.getD, hk]
theorem WordsAt.set {w : World} {g : Nat} {t : TypeId} {l : List (BitVec 32)} (h : WordsAt w g t l) (k : Nat) (x : BitVec 32) : WordsAt (w.setCell ⟨g, k, none⟩ (.int .u32 (n32 x))) g t (l.set k x) := by
  show _ = _
  rw [heap_setCell_same _ _ _ _ _ _ h, wordsV_set]
theorem WordsAt.range {w : World} {g : Nat} {t : TypeId} {l : List (BitVec 32)} (h : WordsAt w g t l) : w.rangeAt g 0 (wordsV l) := fun j v hv => by
  rw [Nat.zero_add, cell_of_row w g j _ t _ h]; simpa using hv
theorem WordsAt.drew {w : World} {g : Nat} {t : TypeId} {l : List (BitVec 32)} (h : WordsAt w g t l) : WordsAt w.drew g t l := h
theorem BytesAt.cell {w : World} {g : Nat} {t : TypeId} {l : List (BitVec 8)} (h : BytesAt w g t l) (k : Nat) (hk : k < l.length) : w.cell? ⟨g, k, none⟩ = some (.int .u8 (n8 (l.getD k 0#8))) := by
  rw [cell_bytesV h hk]; simp [List.getD, hk]
theorem BytesAt.put {w : World} {g : Nat} {t : TypeId} {l : List (BitVec 8)} (h : BytesAt w g t l) (k : Nat) (x : BitVec 8) : BytesAt (w.setCell ⟨g, k, none⟩ (.int .u8 (n8 x))) g t (l.set k x) := setCell_bytes h x
end Go.Proofs.Ytoidjapenompiaa

/-
  A slice of bytes of the call's own: its block; a byte written. Blocks of bytes, many at once.
-/
namespace Go.Proofs.Ytoidjapenompiaa
open Go.RowKit Go.Proofs.ShaWords
theorem Own.put {B g n cap : Nat} {w : World} {l : List (BitVec 8)} (h : Own B w l (.slice (some ⟨g, 0, none⟩) n cap)) (k : Nat) (x : BitVec 8) : Own B (w.setCell ⟨g, k, none⟩ (.int .u8 (n8 x))) (l.set k x) (.slice (some ⟨g, 0, none⟩) n cap) := by
  rcases h.2 with ⟨h0, _⟩ | ⟨g', cap', cur, he, hg, hh, hc, hm, hs, ht⟩
  · cases h0
  · cases he
    refine ⟨by rw [bytesV_length, Nat.mul_one], .inr ⟨g, cap, cur.setIfInBounds k (.int .u8 (n8 x)), by rw [List.length_set], hg, heap_setCell_same _ _ _ _ _ _ hh, by rw [List.length_set]; exact hc, hm, by rw [Array.size_setIfInBounds]; exact hs, ?_⟩⟩
    rw [Nat.mul_one] at ht
    rw [List.length_set, Array.toList_setIfInBounds, Nat.mul_one, List.take_set, ht]
    simp [bytesV, List.map_set]
/-- Blocks of bytes that the call has made. -/
structure Has (w0 : World) (L : List (Nat × TypeId × List (BitVec 8))) (w : World) : Prop where
  below : Below w0.heap.size w0 w
  all : ∀ (i g : Nat) (t : TypeId) (l : List (BitVec 8)), L[i]? = some (g, t, l) → BytesAt w g t l ∧ w0.heap.size ≤ g
theorem Has.on {w0 wr w' : World} {L : List (Nat × TypeId × List (BitVec 8))} (h : Has w0 L wr) (hb : Below wr.heap.size wr w') : Has w0 L w' :=
  ⟨h.below.trans (hb.mono h.below.size), fun i g t l e => ⟨(h.all i g t l e).1.keep hb, (h.all i g t l e).2⟩⟩
theorem Has.add {w0 wr : World} {L : List (Nat × TypeId × List (BitVec 8))} (h : Has w0 L wr) {g : Nat} {t : TypeId} {l : List (BitVec 8)} (hb : BytesAt wr g t l) (hg : w0.heap.size ≤ g) : Has w0 ((g, t, l) :: L) wr :=
  ⟨h.below, fun i g' t' l' e => by
    cases i with
    | zero => simp only [List.getElem?_cons_zero, Option.some.injEq, Prod.mk.injEq] at e; obtain ⟨rfl, rfl, rfl⟩ := e; exact ⟨hb, hg⟩
    | succ i => rw [List.getElem?_cons_succ] at e; exact h.all i g' t' l' e⟩
end Go.Proofs.Ytoidjapenompiaa

/-
  The kit's functions on byte lists, whatever their length.
-/
namespace Go.Proofs.Ytoidjapenompiaa
open Go.RowKit Go.Proofs.ShaWords
end Go.Proofs.Ytoidjapenompiaa

/-
  A call that changes a few blocks alone: what it leaves; bytes that lie in blocks of a set.
-/
namespace Go.Proofs.Ytoidjapenompiaa
open Go.RowKit Go.Proofs.ShaWords

/-- All blocks stay but those of F; new ones come. -/
structure Stays (F : Nat → Prop) (w w' : World) : Prop where
  os : w'.os = w.os
  tape : w'.tape = w.tape
  output : w'.output = w.output
  size : w.heap.size ≤ w'.heap.size
  block : ∀ k, k < w.heap.size → ¬ F k → w'.heap[k]? = w.heap[k]?
theorem Stays.refl (F : Nat → Prop) (w : World) : Stays F w w := ⟨rfl, rfl, rfl, Nat.le_refl _, fun _ _ _ => rfl⟩
theorem Stays.trans {F G : Nat → Prop} {w w' w'' : World} (h : Stays F w w') (h2 : Stays G w' w'') (hG : ∀ k, G k → k < w.heap.size → F k) : Stays F w w'' :=
  ⟨h2.os.trans h.os, h2.tape.trans h.tape, h2.output.trans h.output, Nat.le_trans h.size h2.size, fun k hk hn => (h2.block k (Nat.lt_of_lt_of_le hk h.size) (fun g => hn (hG k g hk))).trans (h.block k hk hn)⟩
theorem Stays.more {F G : Nat → Prop} {w w' : World} (h : Stays F w w') (hG : ∀ k, F k → G k) : Stays G w w' := ⟨h.os, h.tape, h.output, h.size, fun k hk hn => h.block k hk (fun f => hn (hG k f))⟩
theorem Below.stays {F : Nat → Prop} {w w' : World} (h : Below w.heap.size w w') : Stays F w w' := ⟨h.os, h.tape, h.output, h.size, fun k hk _ => h.block k hk⟩
theorem Stays.below {F : Nat → Prop} {B : Nat} {w w' : World} (h : Stays F w w') (hF : ∀ k, F k → B ≤ k) (hB : B ≤ w.heap.size) : Below B w w' := ⟨h.os, h.tape, h.output, h.size, fun k hk => h.block k (by omega) (fun f => by have := hF k f; omega)⟩
theorem grown_stays {F : Nat → Prop} {r : Option Nat} {w w' : World} (h : w.grownBy w' r) (hF : ∀ k, r = some k → F k) : Stays F w w' := ⟨h.os, h.tape, h.output, h.size, fun k hk hn => h.block k hk (fun e => hn (hF k e.symm))⟩
theorem ownsRow_stays {F : Nat → Prop} {w w' : World} {B size n : Nat} {e : TypeId} {v : Value} {xs : List Value} (h : w.ownsRow B e size v n xs) (hk : Stays F w w') (hne : ∀ k, v.ownBlock = some k → ¬ F k) : w'.ownsRow B e size v n xs := by
  refine ⟨h.1, ?_⟩
  rcases h.2 with h0 | ⟨g, cap, cur, he, hg, hh, r⟩
  · exact Or.inl h0
  · exact Or.inr ⟨g, cap, cur, he, hg, (hk.block g (Array.getElem?_eq_some_iff.1 hh).1 (hne g (by rw [he]; rfl))).trans hh, r⟩
/-- Bytes that lie in a block of D. -/
def LiesIn (D : Nat → Prop) (w : World) (p : Option Addr) (l : List (BitVec 8)) : Prop := l = [] ∨ ∃ b off, p = some ⟨b, off, none⟩ ∧ D b ∧ b < w.heap.size ∧ w.rangeAt b off (bytesV l)
theorem LiesIn.lies {D : Nat → Prop} {w : World} {p : Option Addr} {l : List (BitVec 8)} (h : LiesIn D w p l) : Lies w p l := by
  rcases h with h0 | ⟨b, off, rfl, _, _, hr⟩
  · exact Or.inl h0
  · exact Or.inr ⟨b, off, rfl, hr⟩
theorem LiesIn.more {D E : Nat → Prop} {w : World} {p : Option Addr} {l : List (BitVec 8)} (h : LiesIn D w p l) (hE : ∀ k, D k → k < w.heap.size → E k) : LiesIn E w p l := by
  rcases h with h0 | ⟨b, off, rfl, hd, hb, hr⟩
  · exact Or.inl h0
  · exact Or.inr ⟨b, off, rfl, hE b hd hb, hb, hr⟩
theorem range_of_block {w w' : World} {b off : Nat} {xs : List Value} (h : w.rangeAt b off xs) (hb : w'.heap[b]? = w.heap[b]?) : w'.rangeAt b off xs := fun j v hv => (World.cell?_of_block (a := ⟨b, off + j, none⟩) hb).trans (h j v hv)
theorem LiesIn.keep {D F : Nat → Prop} {w w' : World} {p : Option Addr} {l : List (BitVec 8)} (h : LiesIn D w p l) (hk : Stays F w w') (hD : ∀ k, F k → ¬ D k) : LiesIn D w' p l := by
  rcases h with h0 | ⟨b, off, rfl, hd, hb, hr⟩
  · exact Or.inl h0
  · exact Or.inr ⟨b, off, rfl, hd, Nat.lt_of_lt_of_le hb hk.size, range_of_block hr (hk.block b hb (fun f => hD b f hd))⟩
theorem Lies.stay {b : Nat} {w w' : World} {p : Option Addr} {l : List (BitVec 8)} (h : Lies w p l) (hk : Stays (fun k => k = b) w w') (hb : ∀ (off : Nat) (x : BitVec 8), w.cell? ⟨b, off, none⟩ ≠ some (.int .u8 (n8 x))) : Lies w' p l := by
  rcases h with h0 | ⟨c, off, rfl, hr⟩
  · exact Or.inl h0
  · cases l with
    | nil => exact Or.inl rfl
    | cons x l =>
      have h0 := hr 0 (.int .u8 (n8 x)) rfl
      have h1 : c < w.heap.size := World.block_lt_of_cell? w _ h0
      exact Or.inr ⟨c, off, rfl, range_of_block hr (hk.block c h1 (fun e => by subst e; exact hb _ _ h0))⟩
/-- A slice of bytes that lie in a block of D. -/
def SliceIn (D : Nat → Prop) (w : World) (v : Value) (l : List (BitVec 8)) : Prop := ∃ q c, v = .slice q l.length c ∧ l.length ≤ c ∧ c ≤ maxLen ∧ LiesIn D w q l
theorem SliceIn.keep {D F : Nat → Prop} {w w' : World} {v : Value} {l : List (BitVec 8)} (h : SliceIn D w v l) (hk : Stays F w w') (hD : ∀ k, F k → ¬ D k) : SliceIn D w' v l := by
  obtain ⟨q, c, rfl, h1, h2, h3⟩ := h
  exact ⟨q, c, rfl, h1, h2, h3.keep hk hD⟩
theorem SliceIn.more {D E : Nat → Prop} {w : World} {v : Value} {l : List (BitVec 8)} (h : SliceIn D w v l) (hE : ∀ k, D k → k < w.heap.size → E k) : SliceIn E w v l := by
  obtain ⟨q, c, rfl, h1, h2, h3⟩ := h
  exact ⟨q, c, rfl, h1, h2, h3.more hE⟩
end Go.Proofs.Ytoidjapenompiaa

/-
  A struct built out of its parts, one behind the other; a slice of one struct.
-/
namespace Go.Proofs.Ytoidjapenompiaa
open Go.RowKit Go.Proofs.ShaWords

end Go.Proofs.Ytoidjapenompiaa

/-
  What is known of subjects' keys, as a list of holds in the order in which they were made: make, use, shred, the slots.
-/
namespace Go.Proofs.Ytoidjapenompiaa
open Go.RowKit
/-- A subject's hold. -/
structure HoldK where
  t : ByteArray
  s : ByteArray
  slot : Nat
  uses : Nat
  shred : Bool
def HoldK.zero : HoldK := ⟨⟨#[]⟩, ⟨#[]⟩, 0, 0, false⟩
instance : Inhabited HoldK := ⟨HoldK.zero⟩
def HoldK.cells (h : HoldK) : Array Value := #[.int .i64 (h.slot : Int), .int .i64 (h.uses : Int), .bool h.shred]
def HoldK.is (t s : ByteArray) (h : HoldK) : Bool := decide (h.t = t) && decide (h.s = s)
/-- A subject's place. -/
def atK (l : List HoldK) (t s : ByteArray) : Option Nat := l.findIdx? (HoldK.is t s)
def getK (l : List HoldK) (i : Nat) : HoldK := l.getD i default
def makeK (l : List HoldK) (t s : ByteArray) (n : Int) : Int × List HoldK :=
  if n < 1 ∨ n > 64 then (1, l) else
  match atK l t s with
  | some _ => (13, l)
  | none => (0, l ++ [⟨t, s, n.toNat, 0, false⟩])
def holdK (l : List HoldK) (t s : ByteArray) : HoldK × Bool :=
  match atK l t s with
  | some i => (getK l i, true)
  | none => (HoldK.zero, false)
def useK (l : List HoldK) (t s : ByteArray) (n : Int) : Int × List HoldK :=
  if n < 1 then (1, l) else
  match atK l t s with
  | none => (12, l)
  | some i => if (getK l i).shred then (17, l) else if n > 200 - ((getK l i).uses : Int) then (16, l) else (0, l.modify i (fun h => { h with uses := h.uses + n.toNat }))
def shredK (l : List HoldK) (t s : ByteArray) : Int × List HoldK :=
  match atK l t s with
  | none => (12, l)
  | some i => if (getK l i).shred then (17, l) else (0, l.modify i (fun h => { h with shred := true }))
def slotsK (l : List HoldK) (b : Bool) : List Nat := (List.range 65).filter fun k => l.any fun h => h.slot == k && h.shred == b
/-- What all calls keep. -/
structure OkK (l : List HoldK) : Prop where
  slot : ∀ h ∈ l, 1 ≤ h.slot ∧ h.slot ≤ 64
  uses : ∀ h ∈ l, h.uses ≤ 200
  apart : l.Pairwise fun a b => ¬ (a.t = b.t ∧ a.s = b.s)
  size : ∀ h ∈ l, h.t.size ≤ 281474976710656 ∧ h.s.size ≤ 281474976710656
theorem HoldK.is_iff {t s : ByteArray} {h : HoldK} : HoldK.is t s h = true ↔ h.t = t ∧ h.s = s := by
  unfold HoldK.is
  simp
theorem atK_some {l : List HoldK} {t s : ByteArray} {i : Nat} (h : atK l t s = some i) : ∃ x, l[i]? = some x ∧ x.t = t ∧ x.s = s ∧ getK l i = x ∧ i < l.length := by
  obtain ⟨hi, h1, -⟩ := List.findIdx?_eq_some_iff_getElem.1 h
  have h2 := HoldK.is_iff.1 h1
  refine ⟨l[i], List.getElem?_eq_getElem hi, h2.1, h2.2, ?_, hi⟩
  unfold getK
  rw [List.getD_eq_getElem?_getD, List.getElem?_eq_getElem hi]
  rfl
theorem atK_none {l : List HoldK} {t s : ByteArray} (h : atK l t s = none) : ∀ x ∈ l, ¬ (x.t = t ∧ x.s = s) := fun x hx e => by
  have h1 := List.findIdx?_eq_none_iff.1 h x hx
  rw [HoldK.is_iff.2 e] at h1
  cases h1
theorem atK_of {l : List HoldK} {t s : ByteArray} (hl : OkK l) {i : Nat} {x : HoldK} (hx : l[i]? = some x) (h : x.t = t ∧ x.s = s) : atK l t s = some i := by
  obtain ⟨hi, rfl⟩ := List.getElem?_eq_some_iff.1 hx
  refine List.findIdx?_eq_some_iff_getElem.2 ⟨hi, HoldK.is_iff.2 h, fun j hj hjk => ?_⟩
  have h2 := HoldK.is_iff.1 hjk
  exact List.pairwise_iff_getElem.1 hl.apart j i (by omega) hi hj ⟨h2.1.trans h.1.symm, h2.2.trans h.2.symm⟩
theorem atK_is_none {l : List HoldK} {t s : ByteArray} (h : ∀ x ∈ l, ¬ (x.t = t ∧ x.s = s)) : atK l t s = none := List.findIdx?_eq_none_iff.2 fun x hx => by
  cases e : HoldK.is t s x
  · rfl
  · exact absurd (HoldK.is_iff.1 e) (h x hx)
theorem OkK.snoc {l : List HoldK} (h : OkK l) {x : HoldK} (h1 : 1 ≤ x.slot ∧ x.slot ≤ 64) (h2 : x.uses ≤ 200) (h3 : atK l x.t x.s = none) (h4 : x.t.size ≤ 281474976710656 ∧ x.s.size ≤ 281474976710656) : OkK (l ++ [x]) := by
  refine ⟨fun y hy => ?_, fun y hy => ?_, List.pairwise_append.2 ⟨h.apart, List.pairwise_singleton _ _, fun a ha b hb => ?_⟩, fun y hy => ?_⟩
  · rcases List.mem_append.1 hy with hy | hy
    · exact h.slot y hy
    · rw [List.mem_singleton.1 hy]; exact h1
  · rcases List.mem_append.1 hy with hy | hy
    · exact h.uses y hy
    · rw [List.mem_singleton.1 hy]; exact h2
  · rw [List.mem_singleton.1 hb]; exact atK_none h3 a ha
  · rcases List.mem_append.1 hy with hy | hy
    · exact h.size y hy
    · rw [List.mem_singleton.1 hy]; exact h4
theorem OkK.mod {l : List HoldK} (h : OkK l) (i : Nat) (f : HoldK → HoldK) (hf : ∀ x, l[i]? = some x → (f x).t = x.t ∧ (f x).s = x.s ∧ (f x).slot = x.slot ∧ (f x).uses ≤ 200) : OkK (l.modify i f) := by
  have hg : ∀ (j : Nat) (hj : j < (l.modify i f).length), ∃ y, l[j]? = some y ∧ ((l.modify i f)[j]).t = y.t ∧ ((l.modify i f)[j]).s = y.s ∧ ((l.modify i f)[j]).slot = y.slot ∧ ((l.modify i f)[j]).uses ≤ 200 := fun j hj => by
    have hj' : j < l.length := by simpa using hj
    refine ⟨l[j], List.getElem?_eq_getElem hj', ?_⟩
    rw [List.getElem_modify]
    split
    · rename_i e
      subst e
      exact hf _ (List.getElem?_eq_getElem hj')
    · exact ⟨rfl, rfl, rfl, h.uses _ (List.getElem_mem hj')⟩
  refine ⟨fun y hy => ?_, fun y hy => ?_, List.pairwise_iff_getElem.2 fun a b ha hb hab e => ?_, fun y hy => ?_⟩
  · obtain ⟨j, hj, rfl⟩ := List.getElem_of_mem hy
    obtain ⟨y, h1, h2, h3, h4, h5⟩ := hg j hj
    rw [h4]
    exact h.slot y (List.mem_of_getElem? h1)
  · obtain ⟨j, hj, rfl⟩ := List.getElem_of_mem hy
    obtain ⟨y, h1, h2, h3, h4, h5⟩ := hg j hj
    exact h5
  · obtain ⟨y, h1, h2, h3, -⟩ := hg a ha
    obtain ⟨z, g1, g2, g3, -⟩ := hg b hb
    obtain ⟨ha', rfl⟩ := List.getElem?_eq_some_iff.1 h1
    obtain ⟨hb', rfl⟩ := List.getElem?_eq_some_iff.1 g1
    rw [h2, h3, g2, g3] at e
    exact List.pairwise_iff_getElem.1 h.apart a b ha' hb' hab e
  · obtain ⟨j, hj, rfl⟩ := List.getElem_of_mem hy
    obtain ⟨y, h1, h2, h3, -⟩ := hg j hj
    rw [h2, h3]
    exact h.size y (List.mem_of_getElem? h1)
theorem OkK.nil : OkK [] := ⟨by simp, by simp, List.Pairwise.nil, by simp⟩
theorem OkK.shred {l : List HoldK} (h : OkK l) (t s : ByteArray) : OkK (shredK l t s).2 := by
  unfold shredK
  split
  · exact h
  · rename_i i h2
    split
    · exact h
    · exact h.mod i _ fun y hy => ⟨rfl, rfl, rfl, h.uses y (List.mem_of_getElem? hy)⟩
theorem makeK_length (l : List HoldK) (t s : ByteArray) (n : Int) : (makeK l t s n).2.length ≤ l.length + 1 := by
  unfold makeK
  split
  · exact Nat.le_succ _
  · split
    · exact Nat.le_succ _
    · simp
theorem useK_length (l : List HoldK) (t s : ByteArray) (n : Int) : (useK l t s n).2.length = l.length := by
  unfold useK
  split
  · rfl
  · split
    · rfl
    · split
      · rfl
      · split
        · rfl
        · simp
theorem shredK_length (l : List HoldK) (t s : ByteArray) : (shredK l t s).2.length = l.length := by
  unfold shredK
  split
  · rfl
  · split
    · rfl
    · simp
end Go.Proofs.Ytoidjapenompiaa

/-
  What the rows share: the program's own knobs; bytes out of a slice that came in; arrays of bytes and numbers that came in.
-/
namespace Go.Proofs.Ytoidjapenompiaa
open Go.ChangeShapes Go.WideShapes Go.ChangeAt Go.RowKit Go.Proofs.ShaWords Go.Deep

theorem own : ownKnob Try.prog.godebug = none := by kernel_rfl
theorem laidOut : laidOutB Try.prog = true := by kernel_rfl
end Go.Proofs.Ytoidjapenompiaa

/-
  A subject as a map's key: two strings side by side.
-/
namespace Go.Proofs.Ytoidjapenompiaa
open Go.RowKit Go.Maps
def idV (t s : ByteArray) : Value := .agg #[.string t, .string s]
theorem idV_inj {t s t' s' : ByteArray} (h : idV t s = idV t' s') : t = t' ∧ s = s' := by
  unfold idV at h
  simpa using h
theorem id_wide : (match Try.prog.underlying 62 with | some (.array _ _) | some (.struct _) => true | _ => false) = true := by rw [Try.underlying62]
theorem id_keyed : Keyed Try.prog 62 := Keyed.of_law (deep_law_laid laidOut (m := 2) (by omega) (of_decide_eq_true (by kernel_rfl)) (by kernel_rfl) id_wide)
theorem id_key {t s : ByteArray} (ht : t.size ≤ 281474976710656) (hs : s.size ≤ 281474976710656) : ∃ l, keyOf Try.prog 62 (idV t s) = some l := by
  have h0 : Try.prog.keyType 62 = true := by kernel_rfl
  have hc : Try.prog.cellsOf 62 = 2 := by kernel_rfl
  have h1 : (idV t s).formed Try.prog 62 = true := by simp [Value.formed, idV, Try.underlying62, hc]
  have c9 : Try.prog.cellsOf 9 = 1 := by kernel_rfl
  have k9 : ∀ (d : Nat) (x : ByteArray), x.size ≤ 281474976710656 → Try.prog.keyLits (d + 1) 9 [.string x] = some [.string x.data.toList] := fun d x hx => by
    have hm : x.size ≤ maxLen := by unfold maxLen; omega
    unfold Program.keyLits
    simp only [Try.underlying9, hm, if_true]
  have hsz : ∃ d, Try.prog.types.size = d + 1 := ⟨Try.prog.types.size - 1, by have : 0 < Try.prog.types.size := of_decide_eq_true (by kernel_rfl); omega⟩
  obtain ⟨d, hd⟩ := hsz
  unfold keyOf
  simp only [Try.underlying62, h0, h1, Bool.and_self, if_true]
  have : Try.prog.keyLits (Try.prog.types.size + 1) 62 (idV t s).cells.toList = some [.string t.data.toList, .string s.data.toList] := by
    rw [hd]
    unfold Program.keyLits
    simp [Try.underlying62, hc, idV, Value.cells, c9, k9 d t ht, k9 d s hs]
  rw [this]
  exact ⟨_, rfl⟩
end Go.Proofs.Ytoidjapenompiaa

/-
  Two things side by side, each in blocks of its own, and a list of other blocks.
-/
namespace Go.Proofs.Ytoidjapenompiaa
open Go.RowKit Go.Proofs.ShaWords
/-- A thing in its blocks. -/
structure Part (A : (Nat → Prop) → World → Prop) : Prop where
  dom : ∀ S w, A S w → ∀ k, S k → k < w.heap.size
  keep : ∀ S w w' F, A S w → Stays F w w' → (∀ k, F k → ¬ S k) → A S w'
theorem Part.below {A : (Nat → Prop) → World → Prop} (P : Part A) {S : Nat → Prop} {w w' : World} (h : A S w) (hb : Below w.heap.size w w') : A S w' := P.keep S w w' (fun _ => False) h (Below.stays hb) (fun _ f => f.elim)
def X2 (A B : (Nat → Prop) → World → Prop) (lo : Nat) (w : World) (L : List (Nat × Obj)) : Prop := ∃ S U, A S w ∧ B U w ∧ (∀ k, S k → ¬ U k) ∧ (∀ k, S k → lo ≤ k) ∧ (∀ k, U k → lo ≤ k) ∧ ∀ y ∈ L, ¬ S y.1 ∧ ¬ U y.1 ∧ w.heap[y.1]? = some y.2
section
variable {A B A' B' : (Nat → Prop) → World → Prop} {lo : Nat} {w w' : World} {L L' : List (Nat × Obj)}
theorem X2.symm (h : X2 A B lo w L) : X2 B A lo w L := by
  obtain ⟨S, U, h1, h2, h3, h4, h5, h6⟩ := h
  exact ⟨U, S, h2, h1, fun k u s => h3 k s u, h5, h4, fun y hy => ⟨(h6 y hy).2.1, (h6 y hy).1, (h6 y hy).2.2⟩⟩
theorem X2.all (h : X2 A B lo w L) : ∀ y ∈ L, w.heap[y.1]? = some y.2 := by
  obtain ⟨S, U, _, _, _, _, _, h⟩ := h
  exact fun y hy => (h y hy).2.2
theorem X2.fewer (h : X2 A B lo w L) (hL : ∀ y ∈ L', y ∈ L) : X2 A B lo w L' := by
  obtain ⟨S, U, h1, h2, h3, h4, h5, h6⟩ := h
  exact ⟨S, U, h1, h2, h3, h4, h5, fun y hy => h6 y (hL y hy)⟩
theorem X2.below (PA : Part A) (PB : Part B) (h : X2 A B lo w L) (hb : Below w.heap.size w w') : X2 A B lo w' L := by
  obtain ⟨S, U, h1, h2, h3, h4, h5, h6⟩ := h
  exact ⟨S, U, PA.below h1 hb, PB.below h2 hb, h3, h4, h5, fun y hy => ⟨(h6 y hy).1, (h6 y hy).2.1, (hb.block _ (Array.getElem?_eq_some_iff.1 (h6 y hy).2.2).1).trans (h6 y hy).2.2⟩⟩
theorem X2.add (PA : Part A) (PB : Part B) (h : X2 A B lo w L) (hb : Below w.heap.size w w') (hL : ∀ y ∈ L', w.heap.size ≤ y.1 ∧ w'.heap[y.1]? = some y.2) : X2 A B lo w' (L' ++ L) := by
  obtain ⟨S, U, h1, h2, h3, h4, h5, h6⟩ := h
  refine ⟨S, U, PA.below h1 hb, PB.below h2 hb, h3, h4, h5, fun y hy => ?_⟩
  rcases List.mem_append.1 hy with hy | hy
  · exact ⟨fun s => by have := PA.dom S w h1 _ s; have := (hL y hy).1; omega, fun s => by have := PB.dom U w h2 _ s; have := (hL y hy).1; omega, (hL y hy).2⟩
  · exact ⟨(h6 y hy).1, (h6 y hy).2.1, (hb.block _ (Array.getElem?_eq_some_iff.1 (h6 y hy).2.2).1).trans (h6 y hy).2.2⟩
/-- A block of the list is written to. -/
theorem X2.set (PA : Part A) (PB : Part B) (h : X2 A B lo w L) {k : Nat} {o o' : Obj} (hk : (k, o) ∈ L) (hs : Stays (fun y => y = k) w w') (ho : w'.heap[k]? = some o') (hL : ∀ y ∈ L', y = (k, o') ∨ y ∈ L ∧ y.1 ≠ k) : X2 A B lo w' L' := by
  obtain ⟨S, U, h1, h2, h3, h4, h5, h6⟩ := h
  have hkk := h6 _ hk
  refine ⟨S, U, PA.keep S w w' _ h1 hs (fun y e s => hkk.1 (e ▸ s)), PB.keep U w w' _ h2 hs (fun y e s => hkk.2.1 (e ▸ s)), h3, h4, h5, fun y hy => ?_⟩
  rcases hL y hy with rfl | ⟨hy, hne⟩
  · exact ⟨hkk.1, hkk.2.1, ho⟩
  · exact ⟨(h6 y hy).1, (h6 y hy).2.1, (hs.block _ (Array.getElem?_eq_some_iff.1 (h6 y hy).2.2).1 hne).trans (h6 y hy).2.2⟩
/-- A call of the one side. -/
theorem X2.goI {ι : Type} {C : ι → (Nat → Prop) → World → Prop} {R : ι → Ending → Prop} {f : FuncId} {args : Array Value} (PB : Part B) (h : X2 A B lo w L) (hlo : lo ≤ w.heap.size)
    (hc : ∀ S, A S w → (∀ y ∈ L, ¬ S y.1) → (∀ k, S k → lo ≤ k) → Calls Try.prog f args w fun e w' => ∃ i, R i e ∧ ∃ S', C i S' w' ∧ (∀ k, S' k → S k ∨ w.heap.size ≤ k) ∧ Stays S w w') :
    Calls Try.prog f args w fun e w' => ∃ i, R i e ∧ X2 (C i) B lo w' L ∧ Below lo w w' := by
  obtain ⟨S, U, h1, h2, h3, h4, h5, h6⟩ := h
  refine (hc S h1 (fun y hy => (h6 y hy).1) h4).mono fun _ w' ⟨i, a, S', b1, b2, b3⟩ => ⟨i, a, ⟨S', U, b1, PB.keep U w w' _ h2 b3 h3, fun k s u => (b2 k s).elim (fun s => h3 k s u) (fun h => by have := PB.dom U w h2 k u; omega), fun k s => (b2 k s).elim (h4 k) (fun h => by omega), h5, fun y hy => ?_⟩, b3.below h4 hlo⟩
  have hlt := (Array.getElem?_eq_some_iff.1 (h6 y hy).2.2).1
  exact ⟨fun s => (b2 _ s).elim (h6 y hy).1 (fun h => by omega), (h6 y hy).2.1, (b3.block _ hlt (h6 y hy).1).trans (h6 y hy).2.2⟩
theorem X2.go {C : (Nat → Prop) → World → Prop} {R : Ending → Prop} {f : FuncId} {args : Array Value} (PB : Part B) (h : X2 A B lo w L) (hlo : lo ≤ w.heap.size)
    (hc : ∀ S, A S w → (∀ y ∈ L, ¬ S y.1) → (∀ k, S k → lo ≤ k) → Calls Try.prog f args w fun e w' => R e ∧ ∃ S', C S' w' ∧ (∀ k, S' k → S k ∨ w.heap.size ≤ k) ∧ Stays S w w') :
    Calls Try.prog f args w fun e w' => R e ∧ X2 C B lo w' L ∧ Below lo w w' :=
  (X2.goI (ι := Unit) (C := fun _ => C) (R := fun _ => R) PB h hlo (fun S h1 h2 h3 => (hc S h1 h2 h3).mono fun _ _ h => ⟨(), h⟩)).mono fun _ _ ⟨_, h⟩ => h
theorem X2.goY {C : (Nat → Prop) → World → Prop} {R : Ending → Prop} {f : FuncId} {args : Array Value} (PA : Part A) (h : X2 A B lo w L) (hlo : lo ≤ w.heap.size)
    (hc : ∀ U, B U w → (∀ y ∈ L, ¬ U y.1) → (∀ k, U k → lo ≤ k) → Calls Try.prog f args w fun e w' => R e ∧ ∃ U', C U' w' ∧ (∀ k, U' k → U k ∨ w.heap.size ≤ k) ∧ Stays U w w') :
    Calls Try.prog f args w fun e w' => R e ∧ X2 A C lo w' L ∧ Below lo w w' :=
  (h.symm.go PA hlo hc).mono fun _ _ ⟨a, b, c⟩ => ⟨a, b.symm, c⟩
end
end Go.Proofs.Ytoidjapenompiaa

/-
  Slices of structs, of one's own: a slice of one struct, and one more behind such a slice.
-/
namespace Go.Proofs.Ytoidjapenompiaa
open Go.RowKit Go.Proofs.ShaWords
/-- A struct type of N cells and Z bytes, and the slices of it. -/
structure ElemT (tr ts : TypeId) (N Z : Nat) : Prop where
  sl : Try.prog.underlying ts = some (.slice tr)
  info : ∃ i z, Try.prog.info? tr = some i ∧ i.zero = some z ∧ i.size = N ∧ z.cells.size = N ∧ i.bytes = Z
  pos : 0 < N
  few : N ≤ 1000 ∧ Z ≤ 10000
theorem elemInfo {tr : TypeId} {N Z : Nat} (h1 : (Try.prog.info? tr).isSome = true) (h2 : (Try.prog.info? tr).map (fun i => (i.zero.map (·.cells.size), i.size, i.bytes)) = some (some N, N, Z)) : ∃ i z, Try.prog.info? tr = some i ∧ i.zero = some z ∧ i.size = N ∧ z.cells.size = N ∧ i.bytes = Z := by
  cases hi : Try.prog.info? tr with
  | none => rw [hi] at h1; cases h1
  | some i =>
    rw [hi] at h2
    simp only [Option.map_some, Option.some.injEq, Prod.mk.injEq] at h2
    cases hz : i.zero with
    | none => rw [hz] at h2; simp at h2
    | some z =>
      rw [hz] at h2
      simp only [Option.map_some, Option.some.injEq] at h2
      exact ⟨i, z, rfl, hz, h2.2.1, h2.1, h2.2.2⟩
section
variable {tr ts : TypeId} {N Z : Nat} {ρ : Operand → Value} {o : Oper} {w : World}
theorem ElemT.run_append (T : ElemT tr ts N Z) {s x : Operand} {base g n : Nat} {v : Value} {xs : List Value} {C : Array Value} (ho : o.op = .call { callee := .builtin .append, args := #[s, x], argTypes := #[ts, ts] }) (hs : ρ s = v) (hown : w.ownsRow base tr N v n xs)
    (hx : ρ x = .slice (some ⟨g, 0, none⟩) 1 1) (hc : w.heap[g]? = some (.cells C tr (0, 0))) (hC : C.size = N) (h1 : ∀ u ∈ C.toList, u.oneCell' = true) (hn : n ≤ 1000000) (hb : base ≤ w.heap.size) :
    ∃ v' w', (execOp ρ o).run Try.prog w = .ok (.value v') w' ∧ w'.ownsRow base tr N v' (n + 1) (xs ++ C.toList) ∧ w.grownBy w' v.ownBlock ∧ (v'.ownBlock = v.ownBlock ∨ v'.ownBlock = some w.heap.size) := by
  obtain ⟨it, z, hit, hz, hsz, hzs, hby⟩ := T.info
  have hN := T.few
  have hN1 := T.pos
  obtain ⟨dst, op, ty', pos, after, guard⟩ := o
  simp only at ho
  subst ho
  have hbd : (n + 1) * Z ≤ 1000001 * 10000 := Nat.mul_le_mul (by omega) hN.2
  obtain ⟨v', w', hr, h2, h3, -, h5⟩ := run_append_own_at (P := Try.prog) (w := w) base ts ty' tr it z N Z T.sl hit hz hsz hby hzs (by omega) v n xs hown ⟨g, 0, none⟩ 1 1 C.toList (by rw [Array.length_toList, hC, Nat.one_mul]) (fun j u hu => by
    rw [Addr.add_mid, Nat.zero_add, cell_of_row w g j C tr (0, 0) hc]
    simpa using hu) h1 (by unfold maxLen; omega) (by omega) hb
  refine ⟨v', w', ?_, h2, h3, h5⟩
  unfold execOp
  simp only [resolve, invoke, builtin, Sem.run_bind, Sem.run_pure, Result.andThen_ok, List.map_toArray, List.map_cons, List.map_nil, hs, hx, hr]
theorem ElemT.wpList_append (T : ElemT tr ts N Z) {ops : Array Oper} {rest : List Oper} {a : Act} {Q : Exit → Act → World → Prop} (hw : Region.wanted o (yielded ops a.tmps) = true) {s x : Operand} {base g n : Nat} {v : Value} {xs : List Value} {C : Array Value} (ho : o.op = .call { callee := .builtin .append, args := #[s, x], argTypes := #[ts, ts] }) (hs : a.eval s = v) (hown : w.ownsRow base tr N v n xs)
    (hx : a.eval x = .slice (some ⟨g, 0, none⟩) 1 1) (hc : w.heap[g]? = some (.cells C tr (0, 0))) (hC : C.size = N) (h1 : ∀ u ∈ C.toList, u.oneCell' = true) (hn : n ≤ 1000000) (hb : base ≤ w.heap.size)
    (h : ∀ v' w', w'.ownsRow base tr N v' (n + 1) (xs ++ C.toList) → w.grownBy w' v.ownBlock → (v'.ownBlock = v.ownBlock ∨ v'.ownBlock = some w.heap.size) → wpList Try.prog ops Q rest (a.put o.dst v') w') : wpList Try.prog ops Q (o :: rest) a w := by
  obtain ⟨v', w', hr, h2, h3, h4⟩ := T.run_append (ρ := a.eval) ho hs hown hx hc hC h1 hn hb
  unfold wpList
  rw [if_pos hw]
  refine .inl ?_
  unfold Oper.wp
  rw [hr, Oper.upon_value]
  exact h v' w' h2 h3 h4
end
end Go.Proofs.Ytoidjapenompiaa

/-
  The program's ring in memory: a map from subjects to blocks, each of which is a hold.
-/
namespace Go.Proofs.Ytoidjapenompiaa
open Go.RowKit Go.Proofs.ShaWords Go.Maps
def entK (x : (Nat × HoldK) × Nat) : MapEntry := ⟨idV x.1.2.t x.1.2.s, .pointer (some ⟨x.1.1, 0, none⟩), x.2⟩
def entsK (bs : List Nat) (l : List HoldK) : List MapEntry := (bs.zip l).zipIdx.map entK
theorem entsK_get {bs : List Nat} {l : List HoldK} {i b : Nat} {x : HoldK} (hb : bs[i]? = some b) (hx : l[i]? = some x) : (entsK bs l)[i]? = some ⟨idV x.t x.s, .pointer (some ⟨b, 0, none⟩), i⟩ := by
  have hz : (bs.zip l)[i]? = some (b, x) := List.getElem?_zip_eq_some.2 ⟨hb, hx⟩
  unfold entsK
  rw [List.getElem?_map, List.getElem?_zipIdx, hz]
  simp [entK]
theorem entsK_inv {bs : List Nat} {l : List HoldK} {i : Nat} {e : MapEntry} (h : (entsK bs l)[i]? = some e) : ∃ b x, bs[i]? = some b ∧ l[i]? = some x ∧ e = ⟨idV x.t x.s, .pointer (some ⟨b, 0, none⟩), i⟩ := by
  unfold entsK at h
  rw [List.getElem?_map, List.getElem?_zipIdx] at h
  cases hz : (bs.zip l)[i]? with
  | none => rw [hz] at h; cases h
  | some p =>
    rw [hz] at h
    obtain ⟨b, x⟩ := p
    have h2 := List.getElem?_zip_eq_some.1 hz
    refine ⟨b, x, h2.1, h2.2, ?_⟩
    simp [entK] at h
    exact h.symm
theorem entsK_mem {bs : List Nat} {l : List HoldK} {e : MapEntry} (h : e ∈ entsK bs l) : ∃ i b x, bs[i]? = some b ∧ l[i]? = some x ∧ e = ⟨idV x.t x.s, .pointer (some ⟨b, 0, none⟩), i⟩ := by
  obtain ⟨i, hi⟩ := List.getElem?_of_mem h
  obtain ⟨b, x, h⟩ := entsK_inv hi
  exact ⟨i, b, x, h⟩
theorem entsK_length {bs : List Nat} {l : List HoldK} (h : bs.length = l.length) : (entsK bs l).length = l.length := by
  unfold entsK
  simp [h]
theorem entsK_snoc {bs : List Nat} {l : List HoldK} (h : bs.length = l.length) (b : Nat) (x : HoldK) : entsK (bs ++ [b]) (l ++ [x]) = entsK bs l ++ [⟨idV x.t x.s, .pointer (some ⟨b, 0, none⟩), l.length⟩] := by
  unfold entsK
  rw [List.zip_append h, List.zipIdx_append, List.map_append]
  simp [entK, h]
theorem entsK_mod {bs : List Nat} {l : List HoldK} (h : bs.length = l.length) (i : Nat) (f : HoldK → HoldK) (hf : ∀ x, (f x).t = x.t ∧ (f x).s = x.s) : entsK bs (l.modify i f) = entsK bs l := by
  apply List.ext_getElem?
  intro j
  by_cases hj : j < l.length
  · obtain ⟨b, hb⟩ : ∃ b, bs[j]? = some b := ⟨_, List.getElem?_eq_getElem (by omega)⟩
    obtain ⟨x, hx⟩ : ∃ x, l[j]? = some x := ⟨_, List.getElem?_eq_getElem hj⟩
    rw [entsK_get hb hx]
    have hx' : (l.modify i f)[j]? = some (if i = j then f x else x) := by rw [List.getElem?_modify, hx]; simp
    rw [entsK_get hb hx']
    split
    · rw [(hf x).1, (hf x).2]
    · rfl
  · rw [List.getElem?_eq_none (by rw [entsK_length (by simp [h])]; simp; omega), List.getElem?_eq_none (by rw [entsK_length h]; omega)]
/-- The ring's block r, its map m, a block for each hold. -/
structure KrV (S : Nat → Prop) (w : World) (r m : Nat) (bs : List Nat) (l : List HoldK) : Prop where
  ring : w.heap[r]? = some (.cells #[.map (some m)] 58 (0, 0))
  map : w.heap[m]? = some (.map (entsK bs l).toArray l.length)
  len : bs.length = l.length
  holds : ∀ (i b : Nat) (x : HoldK), bs[i]? = some b → l[i]? = some x → w.heap[b]? = some (.cells x.cells 43 (0, 0))
  nodup : bs.Nodup
  own : S r ∧ S m ∧ ∀ b ∈ bs, S b
  ok : OkK l
  dom : ∀ k, S k → k < w.heap.size
  few : l.length < 1000000
def KrAt (r : Nat) (l : List HoldK) (S : Nat → Prop) (w : World) : Prop := ∃ m bs, KrV S w r m bs l
section
variable {S : Nat → Prop} {w w' : World} {r m : Nat} {bs : List Nat} {l : List HoldK}
theorem KrV.keep (h : KrV S w r m bs l) {F : Nat → Prop} (hs : Stays F w w') (hF : ∀ k, F k → ¬ S k) : KrV S w' r m bs l := by
  have go : ∀ k, S k → w'.heap[k]? = w.heap[k]? := fun k s => hs.block k (h.dom k s) (fun f => hF k f s)
  exact ⟨(go r h.own.1).trans h.ring, (go m h.own.2.1).trans h.map, h.len, fun i b x hb hx => (go b (h.own.2.2 b (List.mem_of_getElem? hb))).trans (h.holds i b x hb hx), h.nodup, h.own, h.ok, fun k s => Nat.lt_of_lt_of_le (h.dom k s) hs.size, h.few⟩
theorem KrAt.part (r : Nat) (l : List HoldK) : Part (KrAt r l) := ⟨fun _ _ ⟨_, _, h⟩ => h.dom, fun _ _ _ _ ⟨m, bs, h⟩ hs hF => ⟨m, bs, h.keep hs hF⟩⟩
theorem KrV.rm (h : KrV S w r m bs l) : r ≠ m := fun e => by
  have h1 := h.ring
  rw [e, h.map] at h1
  cases h1
theorem KrV.bm (h : KrV S w r m bs l) {b : Nat} (hb : b ∈ bs) : b ≠ m := fun e => by
  obtain ⟨i, hi⟩ := List.getElem?_of_mem hb
  have hil : i < bs.length := (List.getElem?_eq_some_iff.1 hi).1
  have h1 := h.holds i b _ hi (List.getElem?_eq_getElem (by rw [← h.len]; exact hil))
  rw [e, h.map] at h1
  cases h1
theorem KrV.br (h : KrV S w r m bs l) {b : Nat} (hb : b ∈ bs) : b ≠ r := fun e => by
  obtain ⟨i, hi⟩ := List.getElem?_of_mem hb
  have hil : i < bs.length := (List.getElem?_eq_some_iff.1 hi).1
  have h1 := h.holds i b _ hi (List.getElem?_eq_getElem (by rw [← h.len]; exact hil))
  rw [e, h.ring] at h1
  cases h1
theorem KrV.cell (h : KrV S w r m bs l) : w.cell? ⟨r, 0, none⟩ = some (.map (some m)) := (cell_of_row _ _ _ _ _ _ h.ring).trans rfl
/-- A look into the map. -/
theorem KrV.find (h : KrV S w r m bs l) {t s : ByteArray} (ht : t.size ≤ 281474976710656) (hs : s.size ≤ 281474976710656) :
    (atK l t s = none ∧ (Instr.findKey 62 (idV t s) (entsK bs l)).run Try.prog w = .ok none w ∧ ∀ e ∈ entsK bs l, e.key ≠ idV t s) ∨
    ∃ i b, atK l t s = some i ∧ bs[i]? = some b ∧ (Instr.findKey 62 (idV t s) (entsK bs l)).run Try.prog w = .ok (some (i, .pointer (some ⟨b, 0, none⟩))) w := by
  obtain ⟨kl, hkl⟩ := id_key ht hs
  rcases id_keyed.find w hkl (entsK bs l) (fun e he => by
    obtain ⟨i, b, x, hb, hx, rfl⟩ := entsK_mem he
    have := h.ok.size x (List.mem_of_getElem? hx)
    exact id_key this.1 this.2) with ⟨h1, h2⟩ | ⟨j, e, h1, h2, h3⟩
  · refine Or.inl ⟨atK_is_none fun x hx e => ?_, h1, h2⟩
    obtain ⟨i, hi⟩ := List.getElem?_of_mem hx
    have hil := (List.getElem?_eq_some_iff.1 hi).1
    have hb : bs[i]? = some (bs[i]'(by rw [h.len]; exact hil)) := List.getElem?_eq_getElem _
    exact h2 _ (List.mem_of_getElem? (entsK_get hb hi)) (by rw [e.1, e.2])
  · obtain ⟨b, x, hb, hx, rfl⟩ := entsK_inv h2
    have h4 := idV_inj h3
    exact Or.inr ⟨j, b, atK_of h.ok hx h4, hb, h1⟩
theorem KrV.look (h : KrV S w r m bs l) {t s : ByteArray} (ht : t.size ≤ 281474976710656) (hs : s.size ≤ 281474976710656) :
    (atK l t s = none ∧ (Instr.lookup 56 (.map (some m)) (idV t s) true).run Try.prog w = .ok (.tuple #[.pointer none, .bool false]) w) ∨
    ∃ i b, atK l t s = some i ∧ bs[i]? = some b ∧ (Instr.lookup 56 (.map (some m)) (idV t s) true).run Try.prog w = .ok (.tuple #[.pointer (some ⟨b, 0, none⟩), .bool true]) w := by
  obtain ⟨kl, hkl⟩ := id_key ht hs
  rcases h.find ht hs with ⟨h0, h1, -⟩ | ⟨i, b, h0, hb, h1⟩
  · refine Or.inl ⟨h0, ?_⟩
    simp [Instr.lookup, run_underlying Try.underlying56, MapKept.run_getObj_map h.map, id_keyed.check w _ hkl, h1, Result.andThen]
  · refine Or.inr ⟨i, b, h0, hb, ?_⟩
    simp [Instr.lookup, run_underlying Try.underlying56, MapKept.run_getObj_map h.map, id_keyed.check w _ hkl, h1, Result.andThen]
end
section
variable {ρ : Operand → Value} {o : Oper} {x y : Operand}
theorem id_built (t s : ByteArray) : Try.prog.built 62 [(0, .string t), (1, .string s)] = some #[.string t, .string s] := by kernel_rfl
theorem run_buildId {a b : Operand} {t s : ByteArray} (ho : o.op = .build 62 #[(0, a), (1, b)]) (hx : ρ a = .string t) (hy : ρ b = .string s) (w : World) :
    (execOp ρ o).run Try.prog w = .ok (.value (idV t s)) w := by
  have hr := Go.run_build (P := Try.prog) w 62 #[(0, .string t), (1, .string s)] _ (id_built t s)
  obtain ⟨dst, op, ty', pos, after, guard⟩ := o
  simp only at ho
  subst ho
  unfold execOp
  simp only [List.map_toArray, List.map_cons, List.map_nil, hx, hy, Sem.run_bind, hr, Result.andThen_ok, Sem.run_pure]
  rfl
end
end Go.Proofs.Ytoidjapenompiaa

/-
  A region that draws its order, carried out along a tree: where two of its operations that are not plain may come up, both ways are gone.
-/
namespace Go.Proofs.Ytoidjapenompiaa
open Go.RowKit Go.Proofs.ShaWords

inductive Tr
  | nil
  | pure (i : Nat) (t : Tr)
  | one (i : Nat) (t : Tr)
  | two (i j : Nat) (s t : Tr)
def Tr.ok (ops : Array Oper) : Tr → Nat → Array Bool → Bool
  | .nil, 0, L => (Region.ready .any ops L).isEmpty
  | .pure i t, n + 1, L => Region.free .any ops L i && (Region.ready .any ops L).contains i && t.ok ops n (L.setIfInBounds i true)
  | .one i t, n + 1, L => decide (Region.ready .any ops L = [i]) && t.ok ops n (L.setIfInBounds i true)
  | .two i j s t, n + 1, L => decide (Region.ready .any ops L = [i, j]) && s.ok ops n (L.setIfInBounds i true) && t.ok ops n (L.setIfInBounds j true)
  | _, _, _ => false
def Tr.wp (P : Program) (ops : Array Oper) (Q : Exit → Act → World → Prop) (S : World → Prop) : Tr → Act → World → Prop
  | .nil, a, w => Q .normal a w
  | .pure i t, a, w => ∃ o v, ops[i]? = some o ∧ YieldsIf P ops S o v a ∧ t.wp P ops Q S (a.put o.dst v) w
  | .one i t, a, w => wpOp P ops Q i (fun a' w' => S w' ∧ t.wp P ops Q S a' w') a w
  | .two i j s t, a, w => wpOp P ops Q i (fun a' w' => S w' ∧ s.wp P ops Q S a' w') a w ∧ wpOp P ops Q j (fun a' w' => S w' ∧ t.wp P ops Q S a' w') a w
section
variable {P : Program} {ops : Array Oper} {Q : Exit → Act → World → Prop} {S : World → Prop} {i : Nat} {o : Oper} {d : Option Tmp} {v : Value} {a : Act} {w w' : World} {K : Act → World → Prop} {t : Tr}
end
end Go.Proofs.Ytoidjapenompiaa

/-
  The program's ring: New, Hold, live.
-/
namespace Go.Proofs.Ytoidjapenompiaa
open Go.RowKit Go.Proofs.ShaWords Go.Maps
theorem ring_built (m : Nat) : Try.prog.built 58 [(0, .map (some m))] = some #[.map (some m)] := by kernel_rfl
theorem run_buildRing {ρ : Operand → Value} {o : Oper} {x : Operand} {m : Nat} (ho : o.op = .build 58 #[(0, x)]) (hx : ρ x = .map (some m)) (w : World) :
    (execOp ρ o).run Try.prog w = .ok (.value (.agg #[.map (some m)])) w := by
  have hr := Go.run_build (P := Try.prog) w 58 #[(0, .map (some m))] _ (ring_built m)
  obtain ⟨dst, op, ty', pos, after, guard⟩ := o
  simp only at ho
  subst ho
  unfold execOp
  simp only [List.map_toArray, List.map_cons, List.map_nil, hx, Sem.run_bind, hr, Result.andThen_ok, Sem.run_pure]
set_option maxRecDepth 100000 in
theorem krNew_any (w : World) : Calls Try.prog 8 #[] w fun e w' => ∃ r, e = .returned (.pointer (some ⟨r, 0, none⟩)) ∧ (∃ S, KrAt r [] S w' ∧ ∀ k, S k → w.heap.size ≤ k) ∧ Below w.heap.size w w' := by
  have hmm := @run_makeMap Try.prog
  go_enter Try.func8, Try.ntmps8
  go_wp2_with (show wpList _ _ _ (⟨_, .build 58 _, _, _, _, _⟩ :: _) _ _; refine wpList_run (by rfl) (run_buildRing (x := .tmp 1) rfl rfl _) ?_)
  go_ret
  refine ⟨w.heap.size + 1, rfl, ⟨fun k => k = w.heap.size ∨ k = w.heap.size + 1, ⟨w.heap.size, [], ?_⟩, fun k hk => by omega⟩, (((Below.refl _ w).alloc (Nat.le_refl _) _).alloc (by simp) _)⟩
  have h1 : ((w.alloc (.map #[] 0)).alloc (.cells #[.map (some w.heap.size)] 58)).heap[w.heap.size]? = some (.map #[] 0) := by
    rw [(MapKept.heap_alloc _ _).2 w.heap.size (by simp)]
    exact heap_alloc_new w _
  have h2 : ((w.alloc (.map #[] 0)).alloc (.cells #[.map (some w.heap.size)] 58)).heap[w.heap.size + 1]? = some (.cells #[.map (some w.heap.size)] 58 (0, 0)) := by
    have := heap_alloc_new (w.alloc (.map #[] 0)) (.cells #[.map (some w.heap.size)] 58)
    simpa using this
  exact ⟨h2, h1, rfl, fun i b x hb => by simp at hb, List.nodup_nil, ⟨Or.inr rfl, Or.inl rfl, by simp⟩, OkK.nil, fun k hk => by simp; omega, by simp⟩
/-- A hold as a struct in memory. -/
theorem sizeHold : (Try.prog.info? 43).map (·.size) = some 3 := by kernel_rfl
theorem results_hold {tmps : Array Value} {w : World} {T : Nat} {C : Array Value} {x : Value} {fr : Nat × Nat} (hp : tmps.getD 6 undef = .pointer (some ⟨T, 0, none⟩)) (hx : tmps.getD 7 undef = x) (hC : w.heap[T]? = some (.cells C 43 fr)) (hs : C.size = 3) :
    (results Try.f16 tmps).run Try.prog w = .ok (.tuple #[.agg C, x]) w := by
  rw [results_cell_tmp Try.results16, hp, hx]
  have h := run_loadVar_row (P := Try.prog) w T 43 43 C fr _ hC Try.underlying43 rfl (by rw [sizeHold, hs])
  simp only [asAddr, Sem.run_pure, Result.andThen_ok, h]
section
variable {S : Nat → Prop} {r : Nat} {l : List HoldK}
set_option maxRecDepth 100000 in
theorem krLive_any (t s : ByteArray) (w : World) (h : KrAt r l S w) (ht : t.size ≤ 281474976710656) (hs : s.size ≤ 281474976710656) :
    Calls Try.prog 30 #[.pointer (some ⟨r, 0, none⟩), .string t, .string s] w fun e w' => w = w' ∧
      ((atK l t s = none ∧ e = .returned (.tuple #[.pointer none, .int .i64 12])) ∨ ∃ i, atK l t s = some i ∧ (((getK l i).shred = true ∧ e = .returned (.tuple #[.pointer none, .int .i64 17])) ∨
        (getK l i).shred = false ∧ ∀ m bs, KrV S w r m bs l → ∃ b, bs[i]? = some b ∧ e = .returned (.tuple #[.pointer (some ⟨b, 0, none⟩), .int .i64 0]))) := by
  obtain ⟨m, bs, hV⟩ := h
  have hc := hV.cell
  rcases hV.look ht hs with ⟨h0, hl⟩ | ⟨i, b, h0, hb, hl⟩
  · unfold idV at hl
    have H0 := Lib.hid h0
    clear h0
    go_enter Try.func30, Try.ntmps30
    go_wp2
    go_ret2
    exact ⟨rfl, Or.inl ⟨H0.out, rfl⟩⟩
  · unfold idV at hl
    obtain ⟨x, hx, -, -, hg, -⟩ := atK_some h0
    have hrow := hV.holds i b x hb hx
    have c2 : w.cell? ⟨b, 2, none⟩ = some (.bool x.shred) := (cell_of_row _ _ _ _ _ _ hrow).trans rfl
    have H0 := Lib.hid h0
    have HG := Lib.hid hg
    have HB : Hid (∀ m bs, KrV S w r m bs l → bs[i]? = some b) := show ∀ _ _, _ → _ from fun m' bs' hV' => by
      have e1 := hV.ring.symm.trans hV'.ring
      simp at e1
      have e2 := hV.map
      rw [e1, hV'.map] at e2
      simp at e2
      have hil := (List.getElem?_eq_some_iff.1 hx).1
      obtain ⟨b', hb'⟩ : ∃ b', bs'[i]? = some b' := ⟨_, List.getElem?_eq_getElem (by rw [hV'.len]; exact hil)⟩
      have g1 := entsK_get hb hx
      rw [← e2, entsK_get hb' hx] at g1
      simp at g1
      rw [hb', g1]
    clear h0 hg hrow hx hb hV
    obtain ⟨sh, hsh⟩ : ∃ sh, x.shred = sh := ⟨_, rfl⟩
    rw [hsh] at c2
    have HSH := Lib.hid hsh
    clear hsh
    go_enter Try.func30, Try.ntmps30
    cases sh with
    | true =>
      go_wp2
      go_ret2
      exact ⟨rfl, Or.inr ⟨i, H0.out, Or.inl ⟨by rw [HG.out, HSH.out], rfl⟩⟩⟩
    | false =>
      go_wp2
      go_ret2
      exact ⟨rfl, Or.inr ⟨i, H0.out, Or.inr ⟨by rw [HG.out, HSH.out], fun m bs hV => ⟨b, HB.out m bs hV, rfl⟩⟩⟩⟩
set_option maxRecDepth 100000 in
theorem krHold_any (t s : ByteArray) (w : World) (h : KrAt r l S w) (ht : t.size ≤ 281474976710656) (hs : s.size ≤ 281474976710656) :
    Calls Try.prog 16 #[.pointer (some ⟨r, 0, none⟩), .string t, .string s] w fun e w' => e = .returned (.tuple #[.agg (holdK l t s).1.cells, .bool (holdK l t s).2]) ∧ Below w.heap.size w w' := by
  obtain ⟨m, bs, hV⟩ := h
  have hB0 : Below w.heap.size w (w.alloc (.cells #[.int .i64 0, .int .i64 0, .bool false] 43)) := (Below.refl _ _).alloc (Nat.le_refl _) _
  have hV := hV.keep (Below.stays hB0) (fun k (f : False) => f.elim)
  have hc := hV.cell
  clear hB0
  rcases hV.look ht hs with ⟨h0, hl⟩ | ⟨i, b, h0, hb, hl⟩
  · have HR : Hid (holdK l t s = (HoldK.zero, false)) := show _ = _ from by unfold holdK; rw [h0]
    unfold idV at hl
    clear h0 hV
    go_enter Try.func16, Try.ntmps16
    go_wp2
    exact bodyPost_ret (v := .tuple #[.agg HoldK.zero.cells, .bool false]) (results_hold rfl rfl (heap_new_at rfl) rfl) rfl ⟨by rw [HR.out], (Below.refl _ _).alloc (Nat.le_refl _) _⟩
  · obtain ⟨x, hx, -, -, hg, -⟩ := atK_some h0
    have HR : Hid (holdK l t s = (x, true)) := show _ = _ from by unfold holdK; rw [h0, ← hg]
    have hrow := hV.holds i b x hb hx
    have c0 := (cell_of_row _ _ 0 _ _ _ hrow).trans (show x.cells[0]? = some (.int .i64 (x.slot : Int)) from rfl)
    have c1 := (cell_of_row _ _ 1 _ _ _ hrow).trans (show x.cells[1]? = some (.int .i64 (x.uses : Int)) from rfl)
    have c2 := (cell_of_row _ _ 2 _ _ _ hrow).trans (show x.cells[2]? = some (.bool x.shred) from rfl)
    unfold idV at hl
    clear h0 hV hx hb hg hrow
    go_enter Try.func16, Try.ntmps16
    go_wp2
    exact bodyPost_ret (v := .tuple #[.agg x.cells, .bool true]) (results_hold rfl rfl (heap_new_at rfl) rfl) rfl ⟨by rw [HR.out], (Below.refl _ _).alloc (Nat.le_refl _) _⟩
end
end Go.Proofs.Ytoidjapenompiaa

/-
  The program's ring: Shred, Use.
-/
namespace Go.Proofs.Ytoidjapenompiaa
open Go.RowKit Go.Proofs.ShaWords Go.Maps
section
variable {S : Nat → Prop} {w w' : World} {r m : Nat} {bs : List Nat} {l : List HoldK}
/-- A hold is turned in its place. -/
theorem KrV.turn (h : KrV S w r m bs l) {i b : Nat} {x : HoldK} (hb : bs[i]? = some b) (hx : l[i]? = some x) (f : HoldK → HoldK) (hf : ∀ x, (f x).t = x.t ∧ (f x).s = x.s ∧ (f x).slot = x.slot) (hu : (f x).uses ≤ 200)
    (hw : w'.heap[b]? = some (.cells (f x).cells 43 (0, 0))) (hs : Stays (fun k => k = b) w w') : KrV S w' r m bs (l.modify i f) := by
  have hbm := List.mem_of_getElem? hb
  have go : ∀ k, S k → k ≠ b → w'.heap[k]? = w.heap[k]? := fun k s n => hs.block k (h.dom k s) n
  refine ⟨(go r h.own.1 (h.br hbm).symm).trans h.ring, ?_, by simp [h.len], fun j c y hc hy => ?_, h.nodup, h.own, ?_, fun k s => Nat.lt_of_lt_of_le (h.dom k s) hs.size, by simpa using h.few⟩
  · rw [go m h.own.2.1 (h.bm hbm).symm, h.map, entsK_mod h.len i f (fun x => ⟨(hf x).1, (hf x).2.1⟩)]
    simp
  · by_cases hji : i = j
    · subst hji
      rw [hb] at hc
      cases hc
      rw [List.getElem?_modify, hx] at hy
      simp at hy
      subst hy
      exact hw
    · rw [List.getElem?_modify] at hy
      simp only [hji, if_false, Option.map_eq_map, Option.map_id'] at hy
      have hne : c ≠ b := fun e => hji (by
        subst e
        obtain ⟨h1, e1⟩ := List.getElem?_eq_some_iff.1 hb
        obtain ⟨h2, e2⟩ := List.getElem?_eq_some_iff.1 hc
        have hp := List.pairwise_iff_getElem.1 h.nodup
        rcases Nat.lt_trichotomy i j with hl | he | hl
        · exact absurd (e1.trans e2.symm) (hp i j h1 h2 hl)
        · exact he
        · exact absurd (e2.trans e1.symm) (hp j i h2 h1 hl))
      rw [go c (h.own.2.2 c (List.mem_of_getElem? hc)) hne]
      exact h.holds j c y hc (by simpa using hy)
  · refine h.ok.mod i f fun y hy => ?_
    rw [hx] at hy
    cases hy
    exact ⟨(hf x).1, (hf x).2.1, (hf x).2.2, hu⟩
end
section
variable {S : Nat → Prop} {r : Nat} {l : List HoldK}
def KrGo (S : Nat → Prop) (r : Nat) (l : List HoldK) (w w' : World) : Prop := ∃ S', KrAt r l S' w' ∧ (∀ k, S' k → S k ∨ w.heap.size ≤ k) ∧ Stays S w w'
theorem KrGo.same {w : World} (h : KrAt r l S w) : KrGo S r l w w := ⟨S, h, fun _ s => Or.inl s, Stays.refl _ _⟩
set_option maxRecDepth 100000 in
theorem krShred_any (t s : ByteArray) (w : World) (h : KrAt r l S w) (ht : t.size ≤ 281474976710656) (hs : s.size ≤ 281474976710656) :
    Calls Try.prog 15 #[.pointer (some ⟨r, 0, none⟩), .string t, .string s] w fun e w' => e = .returned (.int .i64 (shredK l t s).1) ∧ KrGo S r (shredK l t s).2 w w' := by
  have HLV := Lib.hid (krLive_any t s w h ht hs)
  have HH := Lib.hid h
  clear h
  go_enter Try.func15, Try.ntmps15
  go_wp2_with fail
  refine HLV.out.mono ?_
  rintro e w1 ⟨rfl, h1⟩
  rcases h1 with ⟨h0, rfl⟩ | ⟨i, h0, h1⟩
  · have HS : Hid (shredK l t s = (12, l)) := show _ = _ from by unfold shredK; rw [h0]
    clear h0
    go_wp2_with fail
    go_ret
    exact ⟨by rw [HS.out]; rfl, by rw [HS.out]; exact KrGo.same HH.out⟩
  · rcases h1 with ⟨hsh, rfl⟩ | ⟨hsh, h1⟩
    · have HS : Hid (shredK l t s = (17, l)) := show _ = _ from by unfold shredK; rw [h0]; simp only [hsh, if_true]
      clear h0 hsh
      go_wp2_with fail
      go_ret
      exact ⟨by rw [HS.out]; rfl, by rw [HS.out]; exact KrGo.same HH.out⟩
    · have HS : Hid (shredK l t s = (0, l.modify i (fun h => { h with shred := true }))) := show _ = _ from by unfold shredK; rw [h0]; simp [hsh]
      obtain ⟨m, bs, hV⟩ := HH.out
      obtain ⟨b, hb, rfl⟩ := h1 m bs hV
      obtain ⟨x, hx, -, -, hg, -⟩ := atK_some h0
      have hrow := hV.holds i b x hb hx
      have c2 := (cell_of_row _ _ 2 _ _ _ hrow).trans (show x.cells[2]? = some (.bool x.shred) from rfl)
      have f2 : w.frozen? ⟨b, 2, none⟩ = false := frozen_of_row _ _ _ _ _ hrow
      have HE : Hid (KrGo S r (l.modify i (fun h => { h with shred := true })) w (w.setCell ⟨b, 2, none⟩ (.bool true))) := show KrGo _ _ _ _ _ from by
        have hst : Stays (fun k => k = b) w (w.setCell ⟨b, 2, none⟩ (.bool true)) := grown_stays (grown_setCell w b 2 _) (fun k e => by cases e; rfl)
        exact ⟨S, ⟨m, bs, hV.turn hb hx (fun h => { h with shred := true }) (fun _ => ⟨rfl, rfl, rfl⟩) (hV.ok.uses x (List.mem_of_getElem? hx)) (heap_setCell_same w b 2 _ _ _ hrow) hst⟩, fun _ s => Or.inl s, hst.more (fun k e => e ▸ hV.own.2.2 b (List.mem_of_getElem? hb))⟩
      clear h0 hsh h1 hV hb hx hg hrow
      go_wp2_with fail
      go_ret
      exact ⟨by rw [HS.out]; rfl, by rw [HS.out]; exact HE.out⟩
set_option maxRecDepth 100000 in
theorem krUse_any (t s : ByteArray) (n : Int) (w : World) (h : KrAt r l S w) (ht : t.size ≤ 281474976710656) (hs : s.size ≤ 281474976710656) (hn : wrap64 n = n) :
    Calls Try.prog 17 #[.pointer (some ⟨r, 0, none⟩), .string t, .string s, .int .i64 n] w fun e w' => e = .returned (.int .i64 (useK l t s n).1) ∧ KrGo S r (useK l t s n).2 w w' := by
  have HLV := Lib.hid (krLive_any t s w h ht hs)
  have HH := Lib.hid h
  clear h
  by_cases hn1 : n < 1
  · have HS : Hid (useK l t s n = (1, l)) := show _ = _ from by unfold useK; rw [if_pos hn1]
    go_enter Try.func17, Try.ntmps17
    go_wp2_with fail
    go_ret
    exact ⟨by rw [HS.out]; rfl, by rw [HS.out]; exact KrGo.same HH.out⟩
  have HN1 := Lib.hid hn1
  go_enter Try.func17, Try.ntmps17
  go_wp2_with fail
  refine HLV.out.mono ?_
  rintro e w1 ⟨rfl, h1⟩
  rcases h1 with ⟨h0, rfl⟩ | ⟨i, h0, h1⟩
  · have HS : Hid (useK l t s n = (12, l)) := show _ = _ from by unfold useK; rw [if_neg (show ¬ n < 1 from by have := HN1.out; omega), h0]
    clear h0
    go_wp2_with fail
    go_ret
    exact ⟨by rw [HS.out]; rfl, by rw [HS.out]; exact KrGo.same HH.out⟩
  · rcases h1 with ⟨hsh, rfl⟩ | ⟨hsh, h1⟩
    · have HS : Hid (useK l t s n = (17, l)) := show _ = _ from by unfold useK; rw [if_neg (show ¬ n < 1 from by have := HN1.out; omega), h0]; simp only [hsh, if_true]
      clear h0 hsh
      go_wp2_with fail
      go_ret
      exact ⟨by rw [HS.out]; rfl, by rw [HS.out]; exact KrGo.same HH.out⟩
    · obtain ⟨m, bs, hV⟩ := HH.out
      obtain ⟨b, hb, rfl⟩ := h1 m bs hV
      obtain ⟨x, hx, -, -, hg, -⟩ := atK_some h0
      have hrow := hV.holds i b x hb hx
      have hu := hV.ok.uses x (List.mem_of_getElem? hx)
      have c1 := (cell_of_row _ _ 1 _ _ _ hrow).trans (show x.cells[1]? = some (.int .i64 (x.uses : Int)) from rfl)
      have f1 : w.frozen? ⟨b, 1, none⟩ = false := frozen_of_row _ _ _ _ _ hrow
      by_cases hbig : n > 200 - (x.uses : Int)
      · have HS : Hid (useK l t s n = (16, l)) := show _ = _ from by unfold useK; rw [if_neg (show ¬ n < 1 from by have := HN1.out; omega), h0]; simp only [hg, hbig, if_true, hg ▸ hsh]; simp
        clear h0 hsh h1 hV hb hx hg hrow f1
        go_wp2_with fail
        go_ret
        exact ⟨by rw [HS.out]; rfl, by rw [HS.out]; exact KrGo.same HH.out⟩
      · obtain ⟨k, rfl⟩ : ∃ k : Nat, n = (k : Int) := ⟨n.toNat, by omega⟩
        have HS : Hid (useK l t s (k : Int) = (0, l.modify i (fun h => { h with uses := h.uses + k }))) := show _ = _ from by unfold useK; rw [if_neg (by have := HN1.out; omega), h0]; simp only [hg, hbig, if_false, hg ▸ hsh]; simp
        have HE : Hid (KrGo S r (l.modify i (fun h => { h with uses := h.uses + k })) w (w.setCell ⟨b, 1, none⟩ (.int .i64 ((x.uses : Int) + (k : Int))))) := show KrGo _ _ _ _ _ from by
          have hst : Stays (fun k => k = b) w (w.setCell ⟨b, 1, none⟩ (.int .i64 ((x.uses : Int) + (k : Int)))) := grown_stays (grown_setCell w b 1 _) (fun k e => by cases e; rfl)
          exact ⟨S, ⟨m, bs, hV.turn hb hx (fun h => { h with uses := h.uses + k }) (fun _ => ⟨rfl, rfl, rfl⟩) (by show x.uses + k ≤ 200; omega) ((heap_setCell_same w b 1 _ _ _ hrow).trans (by simp [HoldK.cells])) hst⟩, fun _ s => Or.inl s, hst.more (fun k e => e ▸ hV.own.2.2 b (List.mem_of_getElem? hb))⟩
        clear h0 hsh h1 hV hb hx hg hrow
        have q1 : (x.uses : Int) + (k : Int) ≤ 200 := by omega
        go_wp2_with fail
        go_ret
        exact ⟨by rw [HS.out]; rfl, by rw [HS.out]; exact HE.out⟩
end
end Go.Proofs.Ytoidjapenompiaa

/-
  strings.Clone: the same bytes; of what was there nothing changes. (By the shelf's contract on internal/stringslite.Clone.)
-/
namespace Go.Proofs.Ytoidjapenompiaa
open Go.RowKit Go.Shelf
def cloneRen : Ren := ⟨fun _ => 35, fun t => if t = 37 then 73 else if t = 47 then 74 else t, fun g => g⟩
theorem clone_lays : LaysPu.n25 Try.prog cloneRen := by
  constructor
  all_goals first | kernel_rfl | (intro w; kernel_rfl)
set_option maxRecDepth 100000 in
theorem clone_str (s : ByteArray) (w : World) (hlim : s.size ≤ 281474976710656) :
    Calls Try.prog 29 #[.string s] w fun e w' => e = .returned (.string s) ∧ Below w.heap.size w w' := by
  have HC : Calls Try.prog 35 #[.string s] w fun e w' => e = .returned (.string s) ∧ Below w.heap.size w w' := AnyPu.stringslite_Clone clone_lays s w hlim
  go_enter Try.func29, Try.ntmps29
  go_wp2_with fail
  refine HC.mono ?_
  rintro e w' ⟨rfl, hb⟩
  go_wp2_with fail
  go_ret
  exact ⟨rfl, hb⟩
end Go.Proofs.Ytoidjapenompiaa

/-
  The program's ring: Make.
-/
namespace Go.Proofs.Ytoidjapenompiaa
open Go.RowKit Go.Proofs.ShaWords Go.Maps
section
variable {S : Nat → Prop} {w w' : World} {r m : Nat} {bs : List Nat} {l : List HoldK}
def newK (t s : ByteArray) (n : Nat) : HoldK := ⟨t, s, n, 0, false⟩
/-- A new subject's entry, laid into the map; what of it is known. -/
theorem KrV.laid (h : KrV S w r m bs l) {t s : ByteArray} (ht : t.size ≤ 281474976710656) (hs : s.size ≤ 281474976710656) (h0 : atK l t s = none) (hf : l.length + 1 < 1000000) (n : Nat) (hn : 1 ≤ n ∧ n ≤ 64) (b : Nat) (hb : w.heap[b]? = some (.cells (newK t s n).cells 43 (0, 0))) (hSb : ¬ S b) :
    ∃ w', (Instr.mapUpdate 56 (.map (some m)) (idV t s) (.pointer (some ⟨b, 0, none⟩))).run Try.prog w = .ok () w' ∧ KrV (fun k => S k ∨ k = b) w' r m (bs ++ [b]) (l ++ [newK t s n]) ∧ Stays (fun k => k = m) w w' := by
  obtain ⟨kl, hkl⟩ := id_key ht hs
  have hbl := (Array.getElem?_eq_some_iff.1 hb).1
  have hms := (Array.getElem?_eq_some_iff.1 h.map).1
  rcases h.find ht hs with ⟨-, h1, -⟩ | ⟨i, b', h2, -⟩
  · refine ⟨ChangeMaps.setBlock w m (.map ((entsK bs l).toArray.push ⟨idV t s, .pointer (some ⟨b, 0, none⟩), l.length⟩) (l.length + 1)), ?_, ?_, ?_⟩
    · simp [Instr.mapUpdate, run_underlying Try.underlying56, MapKept.run_getObj_map h.map, id_keyed.check w _ hkl, h1, MapKept.run_setObj_map _ h.map, Result.andThen, ChangeMaps.setBlock]
    · have other : ∀ k, k ≠ m → (ChangeMaps.setBlock w m (.map ((entsK bs l).toArray.push ⟨idV t s, .pointer (some ⟨b, 0, none⟩), l.length⟩) (l.length + 1))).heap[k]? = w.heap[k]? := fun k hk => ChangeMaps.heap_setBlock_other h.map _ hk
      have hbm : b ≠ m := fun e => hSb (e ▸ h.own.2.1)
      refine ⟨(other r h.rm).trans h.ring, ?_, by simp [h.len], fun i c x hc hx => ?_, ?_, ⟨Or.inl h.own.1, Or.inl h.own.2.1, fun c hc => ?_⟩, h.ok.snoc hn (by show 0 ≤ 200; omega) h0 ⟨ht, hs⟩, fun k hk => ?_, by simpa using hf⟩
      · rw [ChangeMaps.heap_setBlock_same h.map, entsK_snoc h.len]
        simp [newK]
      · by_cases hi : i < l.length
        · rw [List.getElem?_append_left (by rw [h.len]; exact hi)] at hc
          rw [List.getElem?_append_left hi] at hx
          exact (other c (h.bm (List.mem_of_getElem? hc))).trans (h.holds i c x hc hx)
        · have hi' : i = l.length := by
            have := (List.getElem?_eq_some_iff.1 hx).1
            simp at this
            omega
          subst hi'
          rw [List.getElem?_append_right (by rw [h.len]; exact Nat.le_refl _), h.len] at hc
          rw [List.getElem?_append_right (Nat.le_refl _)] at hx
          simp at hc hx
          subst hc hx
          exact (other b hbm).trans hb
      · exact List.nodup_append.2 ⟨h.nodup, by simp, fun c hc d hd e => by
          rw [List.mem_singleton.1 hd] at e
          exact hSb (e ▸ h.own.2.2 c hc)⟩
      · rcases List.mem_append.1 hc with hc | hc
        · exact Or.inl (h.own.2.2 c hc)
        · exact Or.inr (List.mem_singleton.1 hc)
      · have hz : (ChangeMaps.setBlock w m (.map ((entsK bs l).toArray.push ⟨idV t s, .pointer (some ⟨b, 0, none⟩), l.length⟩) (l.length + 1))).heap.size = w.heap.size := by simp [ChangeMaps.setBlock]
        rw [hz]
        rcases hk with hk | rfl
        · exact h.dom k hk
        · exact hbl
    · exact ⟨rfl, rfl, rfl, by simp [ChangeMaps.setBlock], fun k _ hk => ChangeMaps.heap_setBlock_other h.map _ hk⟩
  · rw [h0] at h2
    cases h2
theorem KrV.go (h : KrV S w r m bs l) {S0 : Nat → Prop} {w0 : World} (hS : ∀ k, S k → S0 k ∨ w0.heap.size ≤ k) (hs : Stays S0 w0 w) : KrGo S0 r l w0 w := ⟨S, ⟨m, bs, h⟩, hS, hs⟩
set_option maxRecDepth 100000 in
theorem krMake_any (t s : ByteArray) (n : Int) (w : World) (h : KrAt r l S w) (ht : t.size ≤ 281474976710656) (hs : s.size ≤ 281474976710656) (hf : l.length + 1 < 1000000) :
    Calls Try.prog 14 #[.pointer (some ⟨r, 0, none⟩), .string t, .string s, .int .i64 n] w fun e w' => e = .returned (.int .i64 (makeK l t s n).1) ∧ KrGo S r (makeK l t s n).2 w w' := by
  have HHO := Lib.hid (krHold_any t s w h ht hs)
  have HH := Lib.hid h
  clear h
  by_cases hn1 : n < 1
  · have HS : Hid (makeK l t s n = (1, l)) := show _ = _ from by unfold makeK; rw [if_pos (Or.inl hn1)]
    go_enter Try.func14, Try.ntmps14
    go_wp2_with fail
    go_ret
    exact ⟨by rw [HS.out]; rfl, by rw [HS.out]; exact KrGo.same HH.out⟩
  by_cases hn2 : n > 64
  · have HS : Hid (makeK l t s n = (1, l)) := show _ = _ from by unfold makeK; rw [if_pos (Or.inr hn2)]
    go_enter Try.func14, Try.ntmps14
    go_wp2_with fail
    go_ret
    exact ⟨by rw [HS.out]; rfl, by rw [HS.out]; exact KrGo.same HH.out⟩
  have HN : Hid (¬ (n < 1 ∨ n > 64) ∧ True) := show _ ∧ _ from ⟨by omega, trivial⟩
  cases h0 : atK l t s with
  | some i =>
    have HS : Hid (makeK l t s n = (13, l)) := show _ = _ from by unfold makeK; rw [if_neg HN.out.1, h0]
    have HK : Hid (holdK l t s = (getK l i, true)) := show _ = _ from by unfold holdK; rw [h0]
    rw [HK.out] at HHO
    clear h0
    go_enter Try.func14, Try.ntmps14
    go_wp2_with fail
    refine HHO.out.mono ?_
    rintro e w1 ⟨rfl, hb⟩
    have HB := Lib.hid hb
    clear hb
    unfold HoldK.cells
    go_wp2_with fail
    go_ret
    have hb2 : Below w.heap.size w (w1.alloc (.cells #[.int .i64 ((getK l i).slot : Int), .int .i64 ((getK l i).uses : Int), .bool (getK l i).shred] 43)) := HB.out.alloc HB.out.size _
    obtain ⟨m, bs, hV⟩ := HH.out
    exact ⟨by rw [HS.out]; rfl, by rw [HS.out]; exact (hV.keep (Below.stays hb2) (fun k (f : False) => f.elim)).go (fun _ s => Or.inl s) (Below.stays hb2)⟩
  | none =>
    obtain ⟨k, rfl⟩ : ∃ k : Nat, n = (k : Int) := ⟨n.toNat, by omega⟩
    have HS : Hid (makeK l t s (k : Int) = (0, l ++ [newK t s k])) := show _ = _ from by unfold makeK; rw [if_neg HN.out.1, h0]; rfl
    have HK : Hid (holdK l t s = (HoldK.zero, false)) := show _ = _ from by unfold holdK; rw [h0]
    have H0 := Lib.hid h0
    rw [HK.out] at HHO
    clear h0
    go_enter Try.func14, Try.ntmps14
    go_wp2_with fail
    refine HHO.out.mono ?_
    rintro e w1 ⟨rfl, hb⟩
    have HB := Lib.hid hb
    clear hb
    unfold HoldK.cells HoldK.zero
    go_wp2_with fail
    refine (clone_str t _ ht).mono ?_
    rintro e w3 ⟨rfl, hb3⟩
    have HB3 : Hid (Below w.heap.size w w3) := show Below _ _ _ from (HB.out.alloc HB.out.size _).trans (hb3.mono (by have := HB.out.size; simp; omega))
    clear hb3 HB
    go_wp2_with fail
    refine (clone_str s w3 hs).mono ?_
    rintro e w4 ⟨rfl, hb4⟩
    have HB4 := Lib.hid (HB3.out.trans (hb4.mono HB3.out.size))
    clear hb4 HB3
    have hb6' : Below w.heap.size w ((w4.alloc (.cells #[.string t, .string s] 62)).alloc (.cells #[.int .i64 (k : Int), .int .i64 0, .bool false] 43)) := (HB4.out.alloc HB4.out.size _).alloc (by have := HB4.out.size; simp; omega) _
    have hb6 : Below w.heap.size w ((w4.alloc (.cells #[.string t, .string s] 62)).alloc (.cells #[.int .i64 (k : Int), .int .i64 0, .bool false] 43)).drew := ⟨hb6'.os, hb6'.tape, hb6'.output, hb6'.size, hb6'.block⟩
    have hb5 : Below w.heap.size w (w4.alloc (.cells #[.string t, .string s] 62)) := HB4.out.alloc HB4.out.size _
    obtain ⟨m, bs, hV⟩ := HH.out
    have c5 := (hV.keep (Below.stays hb5) (fun k (f : False) => f.elim)).cell
    have hV6 := hV.keep (Below.stays hb6) (fun k (f : False) => f.elim)
    have c6 := hV6.cell
    have hrow : ((w4.alloc (.cells #[.string t, .string s] 62)).alloc (.cells #[.int .i64 (k : Int), .int .i64 0, .bool false] 43)).drew.heap[w4.heap.size + 1]? = some (.cells (newK t s k).cells 43 (0, 0)) := by
      have := heap_alloc_new (w4.alloc (.cells #[.string t, .string s] 62)) (.cells #[.int .i64 (k : Int), .int .i64 0, .bool false] 43)
      simpa [newK, HoldK.cells, World.drew] using this
    obtain ⟨w7, hrun, hV7, hst⟩ := hV6.laid ht hs H0.out hf k (by have := HN.out.1; omega) (w4.heap.size + 1) hrow (fun e => by have := hV.dom _ e; have := HB4.out.size; omega)
    have HE : Hid (KrGo S r (l ++ [newK t s k]) w w7) := show KrGo _ _ _ _ _ from by
      refine KrV.go hV7 (fun j hj => ?_) ((Below.stays (F := S) hb6).trans (hst.more (G := fun j => j = m) (fun _ e => e)) (fun j e _ => e ▸ hV.own.2.1))
      rcases hj with hj | rfl
      · exact Or.inl hj
      · exact Or.inr (by have := HB4.out.size; omega)
    unfold idV at hrun
    clear hV hV6 hV7 hst hrow hb5 hb6 hb6' H0 HB4 HN HHO HH HK
    go_upto_region 7 with (show wpList _ _ _ (⟨_, .build 62 _, _, _, _, _⟩ :: _) _ _; refine wpList_run (by rfl) (run_buildId (a := .tmp 27) (b := .tmp 29) rfl rfl rfl _) ?_)
    go_region
    go_wp2_with fail
    go_ret
    exact ⟨by rw [HS.out]; rfl, by rw [HS.out]; exact HE.out⟩
end
end Go.Proofs.Ytoidjapenompiaa

/-
  A region that draws its order, carried out along one list of its operations, where a store z changes what operations ahead of it read: what holds at all times (S), and what holds until z (E).
-/
namespace Go.Proofs.Ytoidjapenompiaa
open Go.RowKit Go.Proofs.ShaWords

/-- Whatever order is picked from here on: behind every operation S holds, and E as long as z has not come up. -/
def wpAnyE (P : Program) (ops : Array Oper) (Q : Exit → Act → World → Prop) (S E : World → Prop) (z : Nat) : Nat → Array Bool → Act → World → Prop
  | 0, L, a, w => Region.ready .any ops L = [] ∧ Q .normal a w
  | f + 1, L, a, w => (Region.ready .any ops L = [] → Q .normal a w) ∧
    ∀ i ∈ Region.ready .any ops L, wpOp P ops Q i (fun a' w' => (S w' ∧ ((L.setIfInBounds i true).getD z true = false → E w')) ∧ wpAnyE P ops Q S E z f (L.setIfInBounds i true) a' w') a w

section
variable {P : Program} {ops : Array Oper} {Q : Exit → Act → World → Prop} {S E : World → Prop} {z : Nat}
theorem wpAny_of_E : ∀ (fuel : Nat) (L : Array Bool) (a : Act) (w : World), wpAnyE P ops Q S E z fuel L a w → wpAny P .any ops Q fuel L a w
  | 0, _, _, _, h => h
  | fuel + 1, _, _, _, h => ⟨h.1, fun i hi => wpOp_mono (fun a' w' h' => wpAny_of_E fuel _ a' w' h'.2) (h.2 i hi)⟩

/-- An operation that may come up now may be taken first: at all times (b false), or because z waits for it (b true). -/
theorem wpAnyE_first {i : Nat} {oi : Oper} {v : Value} (b : Bool) (hi : ops[i]? = some oi) (hsel : ∀ (j : Nat) (o : Oper) cs b, ops[j]? = some o → o.op ≠ .select cs b)
    (hQ : ∀ c a w, Q (.panic c) (a.put oi.dst v) w → Q (.panic c) a w) (hz : b = true → Region.waitsFor .any ops z i = true) (hzi : z ≠ i) :
    ∀ (fuel : Nat) (L : Array Bool) (a : Act) (w : World),
      (∀ j oj, ops[j]? = some oj → j ≠ i → L.getD j true = false → (∀ e ∈ oj.after, Region.binds .any e = true → e.on ≠ i) → oi.apart ops oj = true) →
      i ∈ Region.ready .any ops L → (b = true → L.getD z true = false) → YieldsIf P ops (fun w => S w ∧ (b = true → E w)) oi v a → S w → (L.getD z true = false → E w) →
      wpAnyE P ops Q S E z fuel (L.setIfInBounds i true) (a.put oi.dst v) w → wpAnyE P ops Q S E z (fuel + 1) L a w := by
  intro fuel
  induction fuel with
  | zero =>
    intro L a w _ hr hzl hy hS hE H
    refine ⟨fun h => (by rw [h] at hr; cases hr), fun j hj => ?_⟩
    by_cases hji : j = i
    · subst hji
      refine hy.wpOp hi ⟨hS, fun hb => hE (hzl hb)⟩ ⟨⟨hS, fun h => hE ?_⟩, H⟩
      by_cases hjz : j = z
      · subst hjz
        have hlt : j < L.size := by
          rcases Nat.lt_or_ge j L.size with h' | h'
          · exact h'
          · simp at h
        simp [hlt] at h
      · rw [getD_set_ne true hjz] at h; exact h
    · have := ready_mono hj hji
      rw [H.1] at this
      cases this
  | succ fuel ih =>
    intro L a w hfree hr hzl hy hS hE H
    refine ⟨fun h => (by rw [h] at hr; cases hr), fun j hj => ?_⟩
    by_cases hji : j = i
    · subst hji
      refine hy.wpOp hi ⟨hS, fun hb => hE (hzl hb)⟩ ⟨⟨hS, fun h => hE ?_⟩, H⟩
      by_cases hjz : j = z
      · subst hjz
        have hlt : j < L.size := by
          rcases Nat.lt_or_ge j L.size with h' | h'
          · exact h'
          · simp at h
        simp [hlt] at h
      · rw [getD_set_ne true hjz] at h; exact h
    · have h1 := H.2 j (ready_mono hj hji)
      obtain ⟨hjun, oj, hoj, hall⟩ := mem_ready.1 hj
      have hun : L.getD i false = false := getD_both (mem_ready.1 hr).1
      have hnot : ∀ e ∈ oj.after, Region.binds .any e = true → e.on ≠ i := fun e he hb heq => by
        have h1 := hall e he hb
        rw [heq, hun] at h1; cases h1
      have hjz : b = true → j ≠ z := fun hb e => by
        subst e
        obtain ⟨oz, hoz, e, he, hbd, hon⟩ := Region.waitsFor_spec (hz hb)
        rw [hoj] at hoz; cases hoz
        exact hnot e he hbd hon
      have hset : ((L.setIfInBounds i true).setIfInBounds j true) = ((L.setIfInBounds j true).setIfInBounds i true) := Array.setIfInBounds_comm _ _ (Ne.symm hji)
      have h2 := wpOp_putIf hoj (hfree j oj hoj hji hjun hnot) (fun cs b => hsel i oi cs b hi) (fun cs b => hsel j oj cs b hoj) hQ hy h1
      have hfree' : ∀ k ok, ops[k]? = some ok → k ≠ i → (L.setIfInBounds j true).getD k true = false →
          (∀ e ∈ ok.after, Region.binds .any e = true → e.on ≠ i) → oi.apart ops ok = true := fun k ok hk hki hun hno => by
        refine hfree k ok hk hki ?_ hno
        by_cases hjk : j = k
        · subst hjk; exact hjun
        · rw [getD_set_ne true hjk] at hun; exact hun
      have hE' : ∀ w' : World, (((L.setIfInBounds i true).setIfInBounds j true).getD z true = false → E w') → (L.setIfInBounds j true).getD z true = false → (b = true ∨ z ≠ i) → E w' := fun w' h h0 hbz => by
        refine h ?_
        rw [hset]
        have hiz : i ≠ z := by
          rcases hbz with hb | hb
          · intro e; subst e
            have hj2 := hzl hb
            obtain ⟨oz, hoz, e, he, hbd, hon⟩ := Region.waitsFor_spec (hz hb)
            have := (mem_ready.1 hr).2
            obtain ⟨o', ho', ha⟩ := this
            rw [hoz] at ho'; cases ho'
            have h3 := ha e he hbd
            rw [hon, hun] at h3; cases h3
          · exact fun e => hb e.symm
        rw [getD_set_ne true hiz]; exact h0
      refine wpOp_mono (fun a' w' h3 => ⟨⟨h3.2.1.1, fun h => hE' w' h3.2.1.2 h (.inr hzi)⟩, ih (L.setIfInBounds j true) a' w' hfree' (ready_mono hr (Ne.symm hji)) (fun hb => by rw [getD_set_ne true (hjz hb)]; exact hzl hb) h3.1 h3.2.1.1 (fun h => hE' w' h3.2.1.2 h (.inr hzi)) ?_⟩) h2
      rw [← hset]
      exact h3.2.2
theorem wpAnyE_all {rs : List Nat} {fuel : Nat} {L : Array Bool} {a : Act} {w : World} (hr : Region.ready .any ops L = rs) (hne : rs ≠ [])
    (h : ∀ i ∈ rs, wpOp P ops Q i (fun a' w' => (S w' ∧ ((L.setIfInBounds i true).getD z true = false → E w')) ∧ wpAnyE P ops Q S E z fuel (L.setIfInBounds i true) a' w') a w) : wpAnyE P ops Q S E z (fuel + 1) L a w :=
  ⟨fun h0 => absurd (hr ▸ h0) hne, hr ▸ h⟩
theorem wpAnyE_done {L : Array Bool} {a : Act} {w : World} (hr : Region.ready .any ops L = []) (h : Q .normal a w) : ∀ fuel, wpAnyE P ops Q S E z fuel L a w
  | 0 => ⟨hr, h⟩
  | _ + 1 => ⟨fun _ => h, by rw [hr]; simp⟩
end

/-- How an operation of the list is met: it yields at all times; it yields until z; it stands alone ahead of z; it stands alone, z or behind it. -/
inductive Met where
  | free
  | early
  | before
  | behind
def phaseOk (ops : Array Oper) (z : Nat) : List (Nat × Met) → Array Bool → Bool
  | [], L => (Region.ready .any ops L).isEmpty
  | (i, .free) :: r, L => Region.free .any ops L i && (Region.ready .any ops L).contains i && decide (z ≠ i) && phaseOk ops z r (L.setIfInBounds i true)
  | (i, .early) :: r, L => Region.free .any ops L i && (Region.ready .any ops L).contains i && decide (z ≠ i) && Region.waitsFor .any ops z i && !L.getD z true && phaseOk ops z r (L.setIfInBounds i true)
  | (i, .before) :: r, L => decide (Region.ready .any ops L = [i]) && phaseOk ops z r (L.setIfInBounds i true)
  | (i, .behind) :: r, L => decide (Region.ready .any ops L = [i]) && (L.setIfInBounds i true).getD z true && phaseOk ops z r (L.setIfInBounds i true)
def wpE (P : Program) (ops : Array Oper) (Q : Exit → Act → World → Prop) (S E : World → Prop) : List (Nat × Met) → Act → World → Prop
  | [], a, w => Q .normal a w
  | (i, .free) :: r, a, w => ∃ o v, ops[i]? = some o ∧ YieldsIf P ops S o v a ∧ wpE P ops Q S E r (a.put o.dst v) w
  | (i, .early) :: r, a, w => ∃ o v, ops[i]? = some o ∧ YieldsIf P ops (fun w => S w ∧ E w) o v a ∧ wpE P ops Q S E r (a.put o.dst v) w
  | (i, .before) :: r, a, w => wpOp P ops Q i (fun a' w' => (S w' ∧ E w') ∧ wpE P ops Q S E r a' w') a w
  | (i, .behind) :: r, a, w => wpOp P ops Q i (fun a' w' => S w' ∧ wpE P ops Q S E r a' w') a w
section
variable {P : Program} {ops : Array Oper} {Q : Exit → Act → World → Prop} {S E : World → Prop} {z : Nat}
theorem getD_of_set {L : Array Bool} {i z : Nat} (h : (L.setIfInBounds i true).getD z true = false) : L.getD z true = false := by
  by_cases hiz : i = z
  · subst hiz
    have hlt : i < L.size := by
      rcases Nat.lt_or_ge i L.size with h' | h'
      · exact h'
      · simp at h
    simp [hlt] at h
  · rw [getD_set_ne true hiz] at h; exact h
theorem wpAnyE_phase (hs : Region.noSelect ops = true) (hQ : ∀ c a w, ¬ Q (.panic c) a w) :
    ∀ (r : List (Nat × Met)) (L : Array Bool) (a : Act) (w : World), phaseOk ops z r L = true → S w → (L.getD z true = false → E w) → wpE P ops Q S E r a w → wpAnyE P ops Q S E z r.length L a w
  | [], L, a, w, hc, _, _, h => by
    simp only [phaseOk, List.isEmpty_iff] at hc
    exact wpAnyE_done hc h 0
  | (i, .free) :: r, L, a, w, hc, hS, hE, h => by
    simp only [phaseOk, Bool.and_eq_true, decide_eq_true_eq] at hc
    obtain ⟨o, v, ho, hy, h⟩ := h
    exact wpAnyE_first false ho (Region.noSelect_spec hs) (fun c a w h => absurd h (hQ c _ w)) (by simp) hc.1.2 r.length L a w (Region.free_spec ho hc.1.1.1) (by simpa using hc.1.1.2) (by simp)
      (hy.imp (fun ⟨h1, h2⟩ => ⟨h1, fun w hw => h2 w hw.1⟩) id) hS hE (wpAnyE_phase hs hQ r _ _ w hc.2 hS (fun h0 => hE (getD_of_set h0)) h)
  | (i, .early) :: r, L, a, w, hc, hS, hE, h => by
    simp only [phaseOk, Bool.and_eq_true, decide_eq_true_eq, Bool.not_eq_true'] at hc
    obtain ⟨o, v, ho, hy, h⟩ := h
    exact wpAnyE_first true ho (Region.noSelect_spec hs) (fun c a w h => absurd h (hQ c _ w)) (fun _ => hc.1.1.2) hc.1.1.1.2 r.length L a w (Region.free_spec ho hc.1.1.1.1.1) (by simpa using hc.1.1.1.1.2) (fun _ => hc.1.2)
      (hy.imp (fun ⟨h1, h2⟩ => ⟨h1, fun w hw => h2 w ⟨hw.1, hw.2 rfl⟩⟩) id) hS hE (wpAnyE_phase hs hQ r _ _ w hc.2 hS (fun h0 => hE (getD_of_set h0)) h)
  | (i, .before) :: r, L, a, w, hc, hS, hE, h => by
    simp only [phaseOk, Bool.and_eq_true, decide_eq_true_eq] at hc
    refine wpAnyE_all hc.1 (by simp) (fun j hj => ?_)
    rw [List.mem_singleton.1 hj]
    exact wpOp_mono (fun a' w' h' => ⟨⟨h'.1.1, fun _ => h'.1.2⟩, wpAnyE_phase hs hQ r _ a' w' hc.2 h'.1.1 (fun _ => h'.1.2) h'.2⟩) h
  | (i, .behind) :: r, L, a, w, hc, hS, hE, h => by
    simp only [phaseOk, Bool.and_eq_true, decide_eq_true_eq] at hc
    refine wpAnyE_all hc.1.1 (by simp) (fun j hj => ?_)
    rw [List.mem_singleton.1 hj]
    exact wpOp_mono (fun a' w' h' => ⟨⟨h'.1, fun h0 => by rw [hc.1.2] at h0; cases h0⟩, wpAnyE_phase hs hQ r _ a' w' hc.2 h'.1 (fun h0 => by rw [hc.1.2] at h0; cases h0) h'.2⟩) h
theorem region_phase {id : Nat} {a : Act} {w : World} (S E : World → Prop) (z : Nat) (hS : S w.drew) (hE : E w.drew) (r : List (Nat × Met)) (hm : P.follows .mixedOrders = true) (hs : Region.noSelect ops = true)
    (hl : r.length = ops.size) (hc : phaseOk ops z r (Array.replicate ops.size false) = true)
    (h : ∀ ops', ops' = ops → ∀ A, A = a → wpE P ops' (NoPanic Q) S E r A w.drew) : (Code.region id ops true).wp P Q a w := by
  refine wp_region_noPanic (wp_region_any hm (wpAny_of_E (S := S) (E := E) (z := z) _ _ _ _ ?_))
  rw [← hl]
  exact wpAnyE_phase hs (fun c a w h => h) r _ a w.drew (hl ▸ hc) hS (fun _ => hE) (h ops rfl a rfl)
end

section
variable {P : Program} {ops : Array Oper} {Q : Exit → Act → World → Prop} {S E : World → Prop} {r : List (Nat × Met)} {i : Nat} {o : Oper} {d : Option Tmp} {v : Value} {a : Act} {w w' : World}
theorem met_free (ho : ops[i]? = some o) (hd : o.dst = d) (hw : Region.wanted o (yielded ops a.tmps) = true) (hr : ∀ w, S w → (execOp a.eval o).run P w = .ok (.value v) w) (h : wpE P ops Q S E r (a.put d v) w) : wpE P ops Q S E ((i, .free) :: r) a w :=
  ⟨o, v, ho, .inl ⟨hw, hr⟩, by rw [hd]; exact h⟩
end
end Go.Proofs.Ytoidjapenompiaa

/-
  Two arrays of bytes compared; a step of a region by what it yields.
-/
namespace Go.Proofs.Ytoidjapenompiaa
open Go.RowKit Go.Proofs.ShaWords
theorem wpList_run {P : Program} {ops : Array Oper} {rest : List Oper} {o : Oper} {a : Act} {w : World} {Q : Exit → Act → World → Prop} {v : Value} (hw : Region.wanted o (yielded ops a.tmps) = true) (hr : (execOp a.eval o).run P w = .ok (.value v) w)
    (h : wpList P ops Q rest (a.put o.dst v) w) : wpList P ops Q (o :: rest) a w := by
  unfold wpList
  rw [if_pos hw]
  refine .inl ?_
  unfold Oper.wp
  rw [hr, Oper.upon_value]
  exact h
theorem bytesV_cell (l : List (BitVec 8)) : bytesV l = (l.map UInt8.ofBitVec).map Go.Extern.Stop.cell := by
  simp [bytesV, Go.Extern.Stop.cell, n8, UInt8.toNat]
end Go.Proofs.Ytoidjapenompiaa

/-
  A key and a nonce in blocks of their own.
-/
namespace Go.Proofs.Ytoidjapenompiaa
open Go.RowKit Go.Proofs.ShaWords
theorem infoNonce (l : List (BitVec 8)) (h : l.length = 12) : (Try.prog.info? 33).map (·.size) = some (bytesV l).toArray.size :=
  (show (Try.prog.info? 33).map (·.size) = some 12 by kernel_rfl).trans (congrArg some (bytesV_size _ 12 h).symm)
section
variable {ρ : Operand → Value} {o : Oper} {x : Operand} {w : World}
end
end Go.Proofs.Ytoidjapenompiaa

/-
  A number as a nonce: four bytes 0, then its eight bytes.
-/
namespace Go.Proofs.Ytoidjapenompiaa
open Go.RowKit Go.Proofs.ShaWords
def nonceAt (n : Int) (j : Nat) : BitVec 8 := if j < 4 then 0#8 else BitVec.ofInt 8 (n / ((2 : Int) ^ (8 * (11 - j))))
def nonceTo (n : Int) (k : Nat) : List (BitVec 8) := (List.range 12).map fun j => if 12 ≤ j + k then nonceAt n j else 0#8
def nonceB (n : Int) : List (BitVec 8) := nonceTo n 8
theorem nonceTo_length (n : Int) (k : Nat) : (nonceTo n k).length = 12 := by simp [nonceTo]
theorem nonceB_length (n : Int) : (nonceB n).length = 12 := nonceTo_length n 8
theorem nonceTo_get (n : Int) (k j : Nat) (h : j < (nonceTo n k).length) : (nonceTo n k)[j] = if 12 ≤ j + k then nonceAt n j else 0#8 := by
  simp [nonceTo]
theorem nonceTo_set (n : Int) {k : Nat} (hk : k < 8) : (nonceTo n k).set (11 - k) (nonceAt n (11 - k)) = nonceTo n (k + 1) := by
  apply List.ext_getElem
  · simp [nonceTo]
  · intro j h1 h2
    have hj : j < 12 := by rw [nonceTo_length] at h2; exact h2
    rw [List.getElem_set, nonceTo_get, nonceTo_get]
    split
    · rename_i e
      subst e
      rw [if_pos (by omega)]
    · rename_i e
      by_cases h : 12 ≤ j + k
      · rw [if_pos h, if_pos (by omega)]
      · rw [if_neg h, if_neg (by omega)]
theorem wrap8_ofInt (z : Int) : IntKind.u8.wrap z = n8 (BitVec.ofInt 8 z) := by
  unfold n8
  rw [BitVec.toNat_ofInt, IntKind.wrap_u8]
  omega
theorem nonce_put (n : Int) {k : Nat} (hk : k < 8) (z : Int) (hz : z = n / ((2 : Int) ^ (8 * k))) : IntKind.u8.wrap z = n8 (nonceAt n (11 - k)) := by
  unfold nonceAt
  rw [if_neg (by omega), show 11 - (11 - k) = k by omega, wrap8_ofInt, hz]
theorem zero33 (w : World) : (zeroValue 33).run Try.prog w = .ok (.agg (bytesV (noughts 12)).toArray) w := by kernel_rfl
structure NcK (w : World) (l : List (BitVec 8)) (wr : World) : Prop where
  below : Below w.heap.size w wr
  res : wr.heap[w.heap.size]? = some (.cells (bytesV (noughts 12)).toArray 33 (0, 0))
  row : wr.heap[w.heap.size + 1]? = some (.cells (bytesV l).toArray 33 (0, 0))
theorem NcK.put {w wr : World} {l : List (BitVec 8)} (h : NcK w l wr) (k : Nat) (x : BitVec 8) : NcK w (l.set k x) (wr.setCell ⟨w.heap.size + 1, k, none⟩ (.int .u8 (n8 x))) :=
  ⟨h.below.setCell (by simp) _, (heap_setCell_other _ _ _ _ (by simp)).trans h.res, setCell_bytes h.row x⟩
theorem NcK.start (w : World) : NcK w (noughts 12) ((w.alloc (.cells (bytesV (noughts 12)).toArray 33)).alloc (.cells (bytesV (noughts 12)).toArray 33)) := by
  refine ⟨((Below.refl _ _).alloc (Nat.le_refl _) _).alloc (by simp) _, ?_, ?_⟩
  · rw [(MapKept.heap_alloc _ _).2 _ (by simp)]
    exact heap_alloc_new _ _
  · have := heap_alloc_new (w.alloc (.cells (bytesV (noughts 12)).toArray 33)) (.cells (bytesV (noughts 12)).toArray 33)
    simpa using this
set_option maxRecDepth 100000 in
set_option maxHeartbeats 1000000 in
theorem krNonce_any (n : Int) (w : World) : Calls Try.prog 11 #[.int .i64 n] w fun e w' => e = .returned (.agg (bytesV (nonceB n)).toArray) ∧ Below w.heap.size w w' := by
  have hz0 := zero33
  go_enter Try.func11, Try.ntmps11
  go_upto_region 2 with (fail)
  refine wp_gen (fun A => NcK w (nonceTo n 0) A) (NcK.start w) ?_
  intro A hA
  have HA := Lib.hid hA
  clear hA hz0
  go_wp2_with fail
  go_loopw [4, 5] (fun _ i wr => ∃ k : Nat, k ≤ 8 ∧ i = .int .i64 (k : Int) ∧ NcK w (nonceTo n k) wr) (fun _ i _ => 8 - (intOf i).toNat)
  case atStart => exact ⟨0, by omega, rfl, HA.out⟩
  case round =>
    clear HA
    obtain ⟨k, hk, rfl, hA⟩ := hrel
    have HA := Lib.hid hA
    clear hA
    by_cases hlt : k < 8
    · have hcell : ∃ u, wr.cell? ⟨w.heap.size + 1, 11 - k, none⟩ = some u := ⟨_, (cell_of_row _ _ (11 - k) _ _ _ HA.out.row).trans (Array.getElem?_eq_getElem (by rw [bytesV_size _ 12 (nonceTo_length _ _)]; omega))⟩
      have hfz : wr.frozen? ⟨w.heap.size + 1, 11 - k, none⟩ = false := frozen_of_row _ _ _ _ _ HA.out.row
      have HP : Hid (∀ z, z = n / ((2 : Int) ^ (8 * k)) → NcK w (nonceTo n (k + 1)) (wr.setCell ⟨w.heap.size + 1, 11 - k, none⟩ (.int .u8 (IntKind.u8.wrap z)))) := show ∀ _, _ → _ from fun z hz => by
        rw [nonce_put n hlt z hz, ← nonceTo_set n hlt]
        exact HA.out.put _ _
      obtain ⟨u, hcell⟩ := hcell
      clear HA hk
      have HP2 : Hid (∀ z z2, z = n / ((2 : Int) ^ (8 * k)) → z2 = z % 256 → NcK w (nonceTo n (k + 1)) (wr.setCell ⟨w.heap.size + 1, 11 - k, none⟩ (.int .u8 z2))) := show ∀ _ _, _ → _ → _ from fun z z2 hz h2 => by
        have := HP.out z hz
        rw [IntKind.wrap_u8] at this
        rw [h2]
        exact this
      clear HP
      rcases k with _ | _ | _ | _ | _ | _ | _ | _ | k
      all_goals first
        | (exfalso; omega)
        | (go_wp2_with fail
           go_roundw
           case rel => exact ⟨_, hlt, rfl, HP2.out _ _ rfl (by simp)⟩
           case measure => simp [intOf])
    · obtain rfl : k = 8 := by omega
      have HI := Lib.hid (infoNonce _ (nonceTo_length n 8))
      have HOLD := Lib.hid (show (bytesV (noughts 12)).toArray.size = (bytesV (nonceTo n 8)).toArray.size by rw [bytesV_size _ 12 (nonceTo_length _ _), bytesV_size _ 12 (noughts_length 12)])
      have HONE := Lib.hid (bytesV_one (nonceTo n 8))
      have HZ := Lib.hid HA.out.res
      have HB := Lib.hid HA.out.below
      have HFULL := Lib.hid HA.out.row
      clear HA hlt hk
      generalize hfe : (bytesV (nonceTo n 8)).toArray = full at HFULL HI HOLD HONE
      have HFE := Lib.hid hfe; clear hfe
      go_wp2_with (first
        | (refine wpList_load_row rfl 33 (.tmp 3) rfl (w.heap.size + 1) rfl 33 full (0, 0) _ HFULL.out Try.underlying33 rfl HI.out ?_)
        | (refine wpList_store_row rfl 33 (.tmp 2) (.tmp 17) rfl w.heap.size full rfl rfl 33 _ HZ.out HI.out HOLD.out HONE.out ?_))
      have hrow := setRow_heap wr w.heap.size _ full 33 _ HZ.out
      have hbel := below_setRow HB.out (Nat.le_refl _) full
      generalize wr.setRow w.heap.size full = wz at hrow hbel ⊢
      have hres : ∀ tmps : Array Value, tmps.getD 2 undef = .pointer (some ⟨w.heap.size, 0, none⟩) → Sem.run Try.prog (results Try.f11 tmps) wz = .ok (.agg full) wz := fun tmps h =>
        results_cell_row (P := Try.prog) (p := 2) (ty := 33) Try.results11 tmps wz w.heap.size 33 full (0, 0) (TypeDesc.array 12 5) h hrow Try.underlying33 rfl HI.out
      exact bodyPost_ret (v := .agg full) (hres _ rfl) rfl ⟨by rw [← HFE.out]; rfl, hbel⟩
end Go.Proofs.Ytoidjapenompiaa

/-
  bytes.Clone and bytes.Equal, of bytes that lie anywhere.
-/
namespace Go.Proofs.Ytoidjapenompiaa
open Go.RowKit Go.Proofs.ShaWords
end Go.Proofs.Ytoidjapenompiaa

/-
  Bytes appended to a slice of one's own, and bytes copied into its midst: which block changes.
-/
namespace Go.Proofs.Ytoidjapenompiaa
open Go.RowKit Go.Proofs.ShaWords
end Go.Proofs.Ytoidjapenompiaa

/-
  Steps of region_phase for every kind of operation: calls, values, operations that are not wanted.
-/
namespace Go.Proofs.Ytoidjapenompiaa
open Go.RowKit Go.Proofs.ShaWords
section
variable {P : Program} {ops : Array Oper} {Q : Exit → Act → World → Prop} {S E : World → Prop} {r : List (Nat × Met)} {i : Nat} {o : Oper} {d : Option Tmp} {v : Value} {a : Act} {w w' : World}
theorem m_behind (ho : ops[i]? = some o) (hw : Region.wanted o (yielded ops a.tmps) = true)
    (h : o.wp P a w (fun a' w' => S w' ∧ wpE P ops Q S E r a' w') Q) : wpE P ops Q S E ((i, .behind) :: r) a w := by
  show wpOp P ops Q i _ a w
  unfold wpOp
  rw [ho]
  show if Region.wanted o (yielded ops a.tmps) = true then _ else _
  rw [if_pos hw]
  exact .inl h
theorem m_enter {f : FuncId} {args : Array Value} {R : Ending → World → Prop} (ho : ops[i]? = some o) (hd : o.dst = d) (hw : Region.wanted o (yielded ops a.tmps) = true) (hr : (execOp a.eval o).run P w = .ok (.enter f args) w) (hc : Calls P f args w R)
    (h : ∀ e w', R e w' → ∃ v, e = .returned v ∧ S w' ∧ wpE P ops Q S E r (a.put d v) w') : wpE P ops Q S E ((i, .behind) :: r) a w := by
  refine m_behind ho hw ?_
  unfold Oper.wp
  rw [hr, Oper.upon_enter]
  refine hc.mono ?_
  rintro e w' hR
  obtain ⟨v, rfl, hS, h⟩ := h e w' hR
  rw [hd]
  exact ⟨hS, h⟩
theorem tmp_at {t : Nat} {b : Bool} (he : a.eval (.tmp t) = .bool b) : a.tmps[t]? = some (.bool b) := by
  have h3 : a.tmps.getD t undef = .bool b := he
  rw [Array.getD_eq_getD_getElem?] at h3
  cases h4 : a.tmps[t]? with
  | none => rw [h4] at h3; exact absurd h3 (by simp [undef])
  | some u => rw [h4] at h3; simp at h3; rw [h3]
end
section
variable {P : Program} {ρ : Operand → Value} {o : Oper} {x y c : Operand} {v : Value}
theorem r_not {b : Bool} {ty : TypeId} (ho : o.op = .unOp .not ty x) (hx : ρ x = .bool b) (w : World) : (execOp ρ o).run P w = .ok (.value (.bool (!b))) w := by
  obtain ⟨dst, op, ty', pos, after, guard⟩ := o
  simp only at ho
  subst ho
  go_simp
theorem r_pickF (ho : o.op = .pick c x y) (hc : ρ c = .bool false) (h : ρ y = v) (w : World) : (execOp ρ o).run P w = .ok (.value v) w := by
  unfold execOp; simp only [ho, hc, h, Sem.run_bind]; rfl
end
end Go.Proofs.Ytoidjapenompiaa

/-
  Steps of region_phase ahead of the store that ends what is read early.
-/
namespace Go.Proofs.Ytoidjapenompiaa
open Go.RowKit Go.Proofs.ShaWords
section
variable {P : Program} {ops : Array Oper} {Q : Exit → Act → World → Prop} {S E : World → Prop} {r : List (Nat × Met)} {i : Nat} {o : Oper} {d : Option Tmp} {v : Value} {a : Act} {w w' : World}
end
section
variable {ρ : Operand → Value} {o : Oper} {x y : Operand} {w : World}
theorem run_fieldT {T : TypeId} {f off b : Nat} (ho : o.op = .fieldAddr T x f) (hf : ∀ w, (Instr.fieldAt T (.pointer (some ⟨b, 0, none⟩)) f).run Try.prog w = .ok (.pointer (some ⟨b, off, none⟩)) w) (h : ρ x = .pointer (some ⟨b, 0, none⟩)) (w : World) :
    (execOp ρ o).run Try.prog w = .ok (.value (.pointer (some ⟨b, off, none⟩))) w := by
  unfold execOp; simp only [ho, h, Sem.run_bind, hf, Result.andThen_ok, Sem.run_pure]
end
end Go.Proofs.Ytoidjapenompiaa

/- The kit's Pick: some number below its bound. -/
namespace Go.Proofs.Ytoidjapenompiaa
open Go.RowKit Go.Proofs.ShaWords

theorem tmod_bounds (v n : Int) (h : 1 ≤ n) : -n < v.tmod n ∧ v.tmod n < n := by
  have h1 := Int.tmod_lt_of_pos v (show 0 < n by omega)
  have h2 := Int.tmod_lt_of_pos (-v) (show 0 < n by omega)
  rw [Int.neg_tmod] at h2
  omega
def SomeIn (n : Int) (w : World) (e : Ending) (w' : World) : Prop := ∃ r : Nat, (r : Int) < n ∧ e = .returned (.int .i64 (r : Int)) ∧ w = w'
set_option maxHeartbeats 400000 in
theorem pick_any (v n : Int) (w : World) (h1 : 1 ≤ n) (h2 : n ≤ 1000000) : Calls Try.prog 18 #[.int .i64 v, .int .i64 n] w (SomeIn n w) := by
  have hb := tmod_bounds v n h1
  obtain ⟨hb1, hb2⟩ := hb
  have hn0 : ¬ n = 0 := by omega
  by_cases hneg : v.tmod n < 0
  · go_enter Try.func18, Try.ntmps18
    go_wp2_with fail
    go_ret
    exact ⟨(v.tmod n + n).toNat, by omega, by
      have : ((v.tmod n + n).toNat : Int) = v.tmod n + n := by omega
      rw [this]; rfl, rfl⟩
  · go_enter Try.func18, Try.ntmps18
    go_wp2_with fail
    go_ret
    exact ⟨(v.tmod n).toNat, by omega, by
      have : ((v.tmod n).toNat : Int) = v.tmod n := by omega
      rw [this]; rfl, rfl⟩

end Go.Proofs.Ytoidjapenompiaa

/-
  The document's ring in memory: a list of rows that is gone through; at.
-/
namespace Go.Proofs.Ytoidjapenompiaa
open Go.RowKit Go.Proofs.ShaWords
def HoldK.row (x : HoldK) : List Value := [.string x.t, .string x.s, .int .i64 (x.slot : Int), .int .i64 (x.uses : Int), .bool x.shred]
def rowsR (l : List HoldK) : List Value := (l.map HoldK.row).flatten
theorem rowsR_length (l : List HoldK) : (rowsR l).length = l.length * 5 := by
  unfold rowsR
  induction l with
  | nil => rfl
  | cons x r ih => rw [List.map_cons, List.flatten_cons, List.length_append, ih, List.length_cons]; show 5 + _ = _; omega
theorem rowsR_snoc (l : List HoldK) (x : HoldK) : rowsR (l ++ [x]) = rowsR l ++ x.row := by simp [rowsR]
theorem rowsR_get : ∀ (l : List HoldK) (i : Nat) (x : HoldK), l[i]? = some x → ∀ j, j < 5 → (rowsR l)[i * 5 + j]? = x.row[j]?
  | [], i, x, h, j, hj => by simp at h
  | y :: r, 0, x, h, j, hj => by
    simp at h
    subst h
    show (y.row ++ rowsR r)[0 * 5 + j]? = _
    rw [Nat.zero_mul, Nat.zero_add, List.getElem?_append_left (by show j < 5; exact hj)]
  | y :: r, i + 1, x, h, j, hj => by
    have h' : r[i]? = some x := by simpa using h
    show (y.row ++ rowsR r)[(i + 1) * 5 + j]? = _
    rw [List.getElem?_append_right (by show 5 ≤ _; omega)]
    have e : (i + 1) * 5 + j - y.row.length = i * 5 + j := by show (i + 1) * 5 + j - 5 = _; omega
    rw [e]
    exact rowsR_get r i x h' j hj
structure RrV (U : Nat → Prop) (w : World) (x : Nat) (v : Value) (l : List HoldK) : Prop where
  ring : w.heap[x]? = some (.cells #[v] 28 (0, 0))
  rows : w.ownsRow 0 70 5 v l.length (rowsR l)
  own : U x ∧ ∀ g, v.ownBlock = some g → U g
  apart : v.ownBlock ≠ some x
  dom : ∀ k, U k → k < w.heap.size
  ok : OkK l
  few : l.length < 1000000
def RrAt (x : Nat) (l : List HoldK) (U : Nat → Prop) (w : World) : Prop := ∃ v, RrV U w x v l
section
variable {U : Nat → Prop} {w w' : World} {x : Nat} {v : Value} {l : List HoldK}
theorem RrV.keep (h : RrV U w x v l) {F : Nat → Prop} (hs : Stays F w w') (hF : ∀ k, F k → ¬ U k) : RrV U w' x v l :=
  ⟨(hs.block x (h.dom x h.own.1) (fun f => hF x f h.own.1)).trans h.ring, ownsRow_stays h.rows hs (fun k hk f => hF k f (h.own.2 k hk)), h.own, h.apart, fun k u => Nat.lt_of_lt_of_le (h.dom k u) hs.size, h.ok, h.few⟩
theorem RrAt.part (x : Nat) (l : List HoldK) : Part (RrAt x l) := ⟨fun _ _ ⟨_, h⟩ => h.dom, fun _ _ _ _ ⟨v, h⟩ hs hF => ⟨v, h.keep hs hF⟩⟩
theorem RrV.cell (h : RrV U w x v l) : w.cell? ⟨x, 0, none⟩ = some v := (cell_of_row _ _ _ _ _ _ h.ring).trans rfl
/-- The slice, and the cells of its rows. -/
theorem RrV.form (h : RrV U w x v l) : ∃ p cap, v = .slice p l.length cap ∧ ∀ (i : Nat) (y : HoldK), l[i]? = some y → ∃ g, p = some ⟨g, 0, none⟩ ∧ U g ∧ g ≠ x ∧ g < w.heap.size ∧
    (∀ (j : Nat) (u : Value), y.row[j]? = some u → w.cell? ⟨g, i * 5 + j, none⟩ = some u) ∧ ∀ off, w.frozen? ⟨g, off, none⟩ = false := by
  rcases h.rows.2 with ⟨rfl, h0⟩ | ⟨g, cap, cur, rfl, hg, hh, hc, hm, hs, ht⟩
  · exact ⟨none, 0, by rw [h0], fun i y hy => by have := (List.getElem?_eq_some_iff.1 hy).1; omega⟩
  · refine ⟨some ⟨g, 0, none⟩, cap, rfl, fun i y hy => ⟨g, rfl, h.own.2 g rfl, fun e => h.apart (by rw [e]; rfl), (Array.getElem?_eq_some_iff.1 hh).1, fun j u hu => ?_, fun off => frozen_of_row _ _ _ _ _ hh⟩⟩
    have hj : j < 5 := (List.getElem?_eq_some_iff.1 hu).1
    have hi := (List.getElem?_eq_some_iff.1 hy).1
    rw [cell_of_row _ _ _ _ _ _ hh]
    have h1 := rowsR_get l i y hy j hj
    rw [hu, ← ht, List.getElem?_take] at h1
    rw [if_pos (by omega)] at h1
    rw [← h1]
    simp
end
theorem beq_toList (a b : ByteArray) : (a.toList == b.toList) = decide (a = b) := by
  rw [ByteArray.toList_eq, ByteArray.toList_eq]
  apply Bool.eq_iff_iff.2
  obtain ⟨⟨a⟩⟩ := a
  obtain ⟨⟨b⟩⟩ := b
  simp
section
variable {U : Nat → Prop} {x : Nat} {l : List HoldK}
set_option maxRecDepth 100000 in
theorem rrAt_any (t s : ByteArray) (w : World) (h : RrAt x l U w) :
    Calls Try.prog 32 #[.pointer (some ⟨x, 0, none⟩), .string t, .string s] w fun e w' => w = w' ∧ ((atK l t s = none ∧ e = .returned (.int .i64 (-1))) ∨ ∃ i : Nat, atK l t s = some i ∧ e = .returned (.int .i64 (i : Int))) := by
  obtain ⟨v, hV⟩ := h
  have hc := hV.cell
  obtain ⟨p, cap, rfl, hf⟩ := hV.form
  have HF := Lib.hid hf
  have HOK := Lib.hid hV.ok
  have hfew := hV.few
  obtain ⟨n, hn⟩ : ∃ n, l.length = n := ⟨_, rfl⟩
  rw [hn] at hc hfew
  have HN := Lib.hid hn
  clear hn hV hf
  go_enter Try.func32, Try.ntmps32
  go_wp2_with fail
  go_loopw [7] (fun i wr => ∃ k : Nat, k ≤ n ∧ i = .int .i64 (k : Int) ∧ (∀ (j : Nat) (y : HoldK), j < k → l[j]? = some y → ¬ (y.t = t ∧ y.s = s)) ∧ w = wr) (fun i _ => n - (intOf i).toNat)
  case atStart => exact ⟨0, by omega, rfl, fun j y hj => by omega, rfl⟩
  case round =>
    obtain ⟨k, hk, rfl, hno, rfl⟩ := hrel
    have HNO := Lib.hid hno
    clear hno
    by_cases hlt : k < n
    · have hkl : k < l.length := by rw [HN.out]; exact hlt
      obtain ⟨y, hy⟩ : ∃ y, l[k]? = some y := ⟨_, List.getElem?_eq_getElem hkl⟩
      obtain ⟨g, rfl, -, -, -, hcs, -⟩ := HF.out k y hy
      have c0 : w.cell? ⟨g, k * 5, none⟩ = some (.string y.t) := hcs 0 _ rfl
      have c1 := hcs 1 _ rfl
      have HY := Lib.hid hy
      clear hcs hy hkl
      have q1 : (k : Int) < (n : Int) := by omega
      by_cases ht : y.t = t
      · have b1 : (y.t.toList == t.toList) = true := by rw [beq_toList, decide_eq_true ht]
        have HT := Lib.hid ht
        clear ht
        by_cases hs : y.s = s
        · have b2 : (y.s.toList == s.toList) = true := by rw [beq_toList, decide_eq_true hs]
          have HS := Lib.hid hs
          clear hs
          go_wp2_with fail
          go_ret
          exact ⟨rfl, Or.inr ⟨k, atK_of HOK.out HY.out ⟨HT.out, HS.out⟩, rfl⟩⟩
        · have b2 : (y.s.toList == s.toList) = false := by rw [beq_toList, decide_eq_false hs]
          have HS := Lib.hid hs
          clear hs
          go_wp2_with fail
          go_roundw
          case rel => exact ⟨k + 1, by omega, by go_num, fun j z hj hz => (Nat.lt_or_eq_of_le (Nat.le_of_lt_succ hj)).elim (fun h => HNO.out j z h hz) (fun e => by
            subst e
            rw [HY.out] at hz
            cases hz
            exact fun e => HS.out e.2), by first | trivial | rfl⟩
          case measure => simp [intOf]; omega
      · have b1 : (y.t.toList == t.toList) = false := by rw [beq_toList, decide_eq_false ht]
        have HT := Lib.hid ht
        clear ht
        go_wp2_with fail
        go_roundw
        case rel => exact ⟨k + 1, by omega, by go_num, fun j z hj hz => (Nat.lt_or_eq_of_le (Nat.le_of_lt_succ hj)).elim (fun h => HNO.out j z h hz) (fun e => by
          subst e
          rw [HY.out] at hz
          cases hz
          exact fun e => HT.out e.1), by first | trivial | rfl⟩
        case measure => simp [intOf]; omega
    · obtain rfl : k = n := by omega
      have HA : Hid (atK l t s = none) := show _ = _ from atK_is_none fun y hy => by
        obtain ⟨j, hj⟩ := List.getElem?_of_mem hy
        exact HNO.out j y (by have := (List.getElem?_eq_some_iff.1 hj).1; rw [HN.out] at this; exact this) hj
      clear HNO
      go_wp2_with fail
      go_ret
      exact ⟨rfl, Or.inl ⟨HA.out, rfl⟩⟩
end
end Go.Proofs.Ytoidjapenompiaa

/-
  The document's ring: Hold, Shred, Use, Make.
-/
namespace Go.Proofs.Ytoidjapenompiaa
open Go.RowKit Go.Proofs.ShaWords
def RrGo (U : Nat → Prop) (x : Nat) (l : List HoldK) (w w' : World) : Prop := ∃ U', RrAt x l U' w' ∧ (∀ k, U' k → U k ∨ w.heap.size ≤ k) ∧ Stays U w w'
section
variable {U : Nat → Prop} {x : Nat} {l : List HoldK} {w w' : World} {v : Value}
theorem RrGo.same (h : RrAt x l U w) : RrGo U x l w w := ⟨U, h, fun _ u => Or.inl u, Stays.refl _ _⟩
theorem rowsR_set : ∀ (l : List HoldK) (i : Nat) (y z : HoldK) (j : Nat), l[i]? = some y → j < 5 → ∀ u, y.row.set j u = z.row → (rowsR l).set (i * 5 + j) u = rowsR (l.set i z)
  | [], i, y, z, j, h, hj, u, hu => by simp at h
  | a :: r, 0, y, z, j, h, hj, u, hu => by
    simp at h
    subst h
    show (a.row ++ rowsR r).set (0 * 5 + j) u = z.row ++ rowsR r
    rw [Nat.zero_mul, Nat.zero_add, List.set_append_left _ _ (by show j < 5; exact hj), hu]
  | a :: r, i + 1, y, z, j, h, hj, u, hu => by
    have h' : r[i]? = some y := by simpa using h
    show (a.row ++ rowsR r).set ((i + 1) * 5 + j) u = a.row ++ rowsR (r.set i z)
    rw [List.set_append_right _ _ (by show 5 ≤ _; omega)]
    have e : (i + 1) * 5 + j - a.row.length = i * 5 + j := by show (i + 1) * 5 + j - 5 = _; omega
    rw [e, rowsR_set r i y z j h' hj u hu]
theorem modify_set {i : Nat} {y : HoldK} (h : l[i]? = some y) (f : HoldK → HoldK) : l.modify i f = l.set i (f y) := by
  apply List.ext_getElem?
  intro j
  rw [List.getElem?_modify, List.getElem?_set]
  by_cases e : i = j
  · subst e
    rw [h]
    simp [(List.getElem?_eq_some_iff.1 h).1]
  · simp [e]
/-- A cell of a row is turned. -/
theorem RrV.turn (h : RrV U w x v l) {i j : Nat} {y : HoldK} (hy : l[i]? = some y) (hj : j < 5) (f : HoldK → HoldK) (hf : ∀ x, (f x).t = x.t ∧ (f x).s = x.s ∧ (f x).slot = x.slot) (hu : (f y).uses ≤ 200) {u : Value} (hs : y.row.set j u = (f y).row) {g : Nat} (hg : v.ownBlock = some g) :
    RrV U (w.setCell ⟨g, i * 5 + j, none⟩ u) x v (l.modify i f) := by
  have hst : Stays (fun k => k = g) w (w.setCell ⟨g, i * 5 + j, none⟩ u) := grown_stays (grown_setCell w g _ _) (fun k e => by cases e; rfl)
  have hgx : x ≠ g := fun e => h.apart (by rw [hg, e])
  have hi := (List.getElem?_eq_some_iff.1 hy).1
  rcases h.rows.2 with ⟨rfl, h0⟩ | ⟨g', cap, cur, rfl, hb, hh, hc, hm, hsz, ht⟩
  · cases hg
  · have hg' : g' = g := by simpa [Value.ownBlock] using hg
    subst hg'
    have hlen : (l.modify i f).length = l.length := by simp
    refine ⟨(hst.block x (h.dom x h.own.1) hgx).trans h.ring, ⟨by rw [rowsR_length], Or.inr ⟨g', cap, cur.setIfInBounds (i * 5 + j) u, by rw [hlen], hb, heap_setCell_same w g' _ _ _ _ hh, by rw [hlen]; exact hc, hm, by simpa using hsz, ?_⟩⟩, h.own, h.apart, fun k u' => by rw [World.size_setCell]; exact h.dom k u', h.ok.mod i f (fun z hz => ?_), by rw [hlen]; exact h.few⟩
    · rw [hlen, Array.toList_setIfInBounds, List.take_set, ht, modify_set hy f]
      exact rowsR_set l i y (f y) j hy hj u hs
    · rw [hy] at hz
      cases hz
      exact ⟨(hf y).1, (hf y).2.1, (hf y).2.2, hu⟩
/-- The row that is found: its cells. -/
theorem RrV.at (h : RrV U w x v l) {t s : ByteArray} {i : Nat} (hi : atK l t s = some i) : ∃ g cap y, v = .slice (some ⟨g, 0, none⟩) l.length cap ∧ U g ∧ l[i]? = some y ∧ getK l i = y ∧ i < l.length ∧
    w.cell? ⟨g, i * 5 + 2, none⟩ = some (.int .i64 (y.slot : Int)) ∧ w.cell? ⟨g, i * 5 + 3, none⟩ = some (.int .i64 (y.uses : Int)) ∧ w.cell? ⟨g, i * 5 + 4, none⟩ = some (.bool y.shred) ∧ ∀ off, w.frozen? ⟨g, off, none⟩ = false := by
  obtain ⟨y, hy, -, -, hg, hlt⟩ := atK_some hi
  obtain ⟨p, cap, rfl, hf⟩ := h.form
  obtain ⟨g, rfl, hu, -, -, hc, hfz⟩ := hf i y hy
  exact ⟨g, cap, y, rfl, hu, hy, hg, hlt, hc 2 _ rfl, hc 3 _ rfl, hc 4 _ rfl, hfz⟩
theorem results_holdR {tmps : Array Value} {w : World} {T : Nat} {C : Array Value} {x : Value} {fr : Nat × Nat} (hp : tmps.getD 6 undef = .pointer (some ⟨T, 0, none⟩)) (hx : tmps.getD 7 undef = x) (hC : w.heap[T]? = some (.cells C 43 fr)) (hs : C.size = 3) :
    (results Try.f25 tmps).run Try.prog w = .ok (.tuple #[.agg C, x]) w := by
  rw [results_cell_tmp Try.results25, hp, hx]
  have h := run_loadVar_row (P := Try.prog) w T 43 43 C fr _ hC Try.underlying43 rfl (by rw [(show (Try.prog.info? 43).map (·.size) = some 3 by kernel_rfl), hs])
  simp only [asAddr, Sem.run_pure, Result.andThen_ok, h]
set_option maxRecDepth 100000 in
theorem rrHold_any (t s : ByteArray) (w : World) (h : RrAt x l U w) :
    Calls Try.prog 25 #[.pointer (some ⟨x, 0, none⟩), .string t, .string s] w fun e w' => e = .returned (.tuple #[.agg #[.int .i64 ((holdK l t s).1.slot : Int), .int .i64 ((holdK l t s).1.uses : Int), .bool (holdK l t s).1.shred], .bool (holdK l t s).2]) ∧ Below w.heap.size w w' := by
  obtain ⟨v, hV⟩ := h
  have hB0 : Below w.heap.size w (w.alloc (.cells #[.int .i64 0, .int .i64 0, .bool false] 43)) := (Below.refl _ _).alloc (Nat.le_refl _) _
  have hV := hV.keep (Below.stays hB0) (fun k (f : False) => f.elim)
  have HAT := Lib.hid (rrAt_any t s _ ⟨v, hV⟩)
  have HV := Lib.hid hV
  clear hB0 hV
  go_enter Try.func25, Try.ntmps25
  go_wp2_with fail
  refine HAT.out.mono ?_
  rintro e w1 ⟨rfl, h1⟩
  rcases h1 with ⟨h0, rfl⟩ | ⟨i, h0, rfl⟩
  · have HR : Hid (holdK l t s = (HoldK.zero, false)) := show _ = _ from by unfold holdK; rw [h0]
    clear h0
    go_wp2_with fail
    exact bodyPost_ret (v := .tuple #[.agg HoldK.zero.cells, .bool false]) (results_holdR rfl rfl (heap_new_at rfl) rfl) rfl ⟨by rw [HR.out]; rfl, (Below.refl _ _).alloc (Nat.le_refl _) _⟩
  · obtain ⟨g, cap, y, rfl, -, -, hg, hlt, c2, c3, c4, -⟩ := HV.out.at h0
    have hc := HV.out.cell
    have HR : Hid (holdK l t s = (y, true)) := show _ = _ from by unfold holdK; rw [h0, ← hg]
    obtain ⟨n, hn⟩ : ∃ n, l.length = n := ⟨_, rfl⟩
    rw [hn] at hc hlt
    have q1 : (i : Int) < (n : Int) := by omega
    clear h0 HV hg hn HAT
    go_wp2_with fail
    exact bodyPost_ret (v := .tuple #[.agg y.cells, .bool true]) (results_holdR rfl rfl (heap_new_at rfl) rfl) rfl ⟨by rw [HR.out]; rfl, (Below.refl _ _).alloc (Nat.le_refl _) _⟩
set_option maxRecDepth 100000 in
theorem rrShred_any (t s : ByteArray) (w : World) (h : RrAt x l U w) :
    Calls Try.prog 24 #[.pointer (some ⟨x, 0, none⟩), .string t, .string s] w fun e w' => e = .returned (.int .i64 (shredK l t s).1) ∧ RrGo U x (shredK l t s).2 w w' := by
  have HAT := Lib.hid (rrAt_any t s w h)
  obtain ⟨v, hV⟩ := h
  have HV := Lib.hid hV
  clear hV
  go_enter Try.func24, Try.ntmps24
  go_wp2_with fail
  refine HAT.out.mono ?_
  rintro e w1 ⟨rfl, h1⟩
  rcases h1 with ⟨h0, rfl⟩ | ⟨i, h0, rfl⟩
  · have HR : Hid (shredK l t s = (12, l)) := show _ = _ from by unfold shredK; rw [h0]
    clear h0
    go_wp2_with fail
    go_ret
    exact ⟨by rw [HR.out]; rfl, by rw [HR.out]; exact RrGo.same ⟨v, HV.out⟩⟩
  · obtain ⟨g, cap, y, rfl, hu, hy, hg, hlt, -, -, c4, hfz⟩ := HV.out.at h0
    have hc := HV.out.cell
    have f4 := hfz (i * 5 + 4)
    have HR : Hid (shredK l t s = if y.shred then (17, l) else (0, l.modify i (fun h => { h with shred := true }))) := show _ = _ from by unfold shredK; rw [h0]; simp only [hg]
    have HE : Hid (RrGo U x (l.modify i (fun h => { h with shred := true })) w (w.setCell ⟨g, i * 5 + 4, none⟩ (.bool true))) := show RrGo _ _ _ _ _ from
      ⟨U, ⟨_, HV.out.turn hy (by omega) (fun h => { h with shred := true }) (fun _ => ⟨rfl, rfl, rfl⟩) (HV.out.ok.uses y (List.mem_of_getElem? hy)) rfl rfl⟩, fun _ u => Or.inl u, (grown_stays (F := fun k => k = g) (grown_setCell w g _ _) (fun k e => by cases e; rfl)).more (fun k e => e ▸ hu)⟩
    obtain ⟨n, hn⟩ : ∃ n, l.length = n := ⟨_, rfl⟩
    have HSM : Hid (RrGo U x l w w) := show RrGo _ _ _ _ _ from RrGo.same ⟨_, HV.out⟩
    rw [hn] at hc hlt
    have q1 : (i : Int) < (n : Int) := by omega
    clear h0 HV hg hn HAT hfz hy
    obtain ⟨b, hb⟩ : ∃ b, y.shred = b := ⟨_, rfl⟩
    rw [hb] at c4 HR
    clear hb
    cases b with
    | true =>
      go_wp2_with fail
      go_ret
      exact ⟨by rw [HR.out]; rfl, by rw [HR.out]; exact HSM.out⟩
    | false =>
      go_wp2_with fail
      go_ret
      exact ⟨by rw [HR.out]; rfl, by rw [HR.out]; exact HE.out⟩
set_option maxRecDepth 100000 in
theorem rrUse_any (t s : ByteArray) (n : Int) (w : World) (h : RrAt x l U w) :
    Calls Try.prog 23 #[.pointer (some ⟨x, 0, none⟩), .string t, .string s, .int .i64 n] w fun e w' => e = .returned (.int .i64 (useK l t s n).1) ∧ RrGo U x (useK l t s n).2 w w' := by
  have HAT := Lib.hid (rrAt_any t s w h)
  obtain ⟨v, hV⟩ := h
  have HV := Lib.hid hV
  clear hV
  by_cases hn1 : n < 1
  · have HR : Hid (useK l t s n = (1, l)) := show _ = _ from by unfold useK; rw [if_pos hn1]
    go_enter Try.func23, Try.ntmps23
    go_wp2_with fail
    go_ret
    exact ⟨by rw [HR.out]; rfl, by rw [HR.out]; exact RrGo.same ⟨v, HV.out⟩⟩
  go_enter Try.func23, Try.ntmps23
  go_wp2_with fail
  refine HAT.out.mono ?_
  rintro e w1 ⟨rfl, h1⟩
  rcases h1 with ⟨h0, rfl⟩ | ⟨i, h0, rfl⟩
  · have HR : Hid (useK l t s n = (12, l)) := show _ = _ from by unfold useK; rw [if_neg (by omega), h0]
    clear h0
    go_wp2_with fail
    go_ret
    exact ⟨by rw [HR.out]; rfl, by rw [HR.out]; exact RrGo.same ⟨v, HV.out⟩⟩
  · obtain ⟨g, cap, y, rfl, hu, hy, hg, hlt, -, c3, c4, hfz⟩ := HV.out.at h0
    have hc := HV.out.cell
    have f3 := hfz (i * 5 + 3)
    have hus := HV.out.ok.uses y (List.mem_of_getElem? hy)
    have HR : Hid (useK l t s n = if y.shred then (17, l) else if n > 200 - (y.uses : Int) then (16, l) else (0, l.modify i (fun h => { h with uses := h.uses + n.toNat }))) := show _ = _ from by unfold useK; rw [if_neg (by omega), h0]; simp only [hg]
    have HSM : Hid (RrGo U x l w w) := show RrGo _ _ _ _ _ from RrGo.same ⟨_, HV.out⟩
    have HE : Hid (∀ k : Nat, y.uses + k ≤ 200 → RrGo U x (l.modify i (fun h => { h with uses := h.uses + k })) w (w.setCell ⟨g, i * 5 + 2 + 1, none⟩ (.int .i64 ((y.uses : Int) + (k : Int)))).drew) := show ∀ _, _ → _ from fun k hk => by
      have hst : Stays (fun k => k = g) w (w.setCell ⟨g, i * 5 + 3, none⟩ (.int .i64 ((y.uses : Int) + (k : Int)))) := grown_stays (grown_setCell w g _ _) (fun k e => by cases e; rfl)
      have hV2 := HV.out.turn hy (j := 3) (u := .int .i64 ((y.uses : Int) + (k : Int))) (by omega) (fun h => { h with uses := h.uses + k }) (fun _ => ⟨rfl, rfl, rfl⟩) hk (by simp [HoldK.row]) rfl
      have hd : Below (w.setCell ⟨g, i * 5 + 3, none⟩ (.int .i64 ((y.uses : Int) + (k : Int)))).heap.size (w.setCell ⟨g, i * 5 + 3, none⟩ (.int .i64 ((y.uses : Int) + (k : Int)))) (w.setCell ⟨g, i * 5 + 3, none⟩ (.int .i64 ((y.uses : Int) + (k : Int)))).drew := ⟨rfl, rfl, rfl, Nat.le_refl _, fun _ _ => rfl⟩
      exact ⟨U, ⟨_, hV2.keep (Below.stays hd) (fun k (f : False) => f.elim)⟩, fun _ u => Or.inl u, (hst.trans (Below.stays (F := fun k => k = g) hd) (fun k f _ => f)).more (fun k e => e ▸ hu)⟩
    obtain ⟨N, hN⟩ : ∃ N, l.length = N := ⟨_, rfl⟩
    rw [hN] at hc hlt
    have q1 : (i : Int) < (N : Int) := by omega
    clear h0 HV hg hN HAT hfz hy hu
    obtain ⟨b, hb⟩ : ∃ b, y.shred = b := ⟨_, rfl⟩
    rw [hb] at c4 HR
    clear hb
    cases b with
    | true =>
      go_wp2_with fail
      go_ret
      exact ⟨by rw [HR.out]; rfl, by rw [HR.out]; exact HSM.out⟩
    | false =>
      by_cases h2 : n > 200
      · have HR2 : Hid (useK l t s n = (16, l)) := show _ = _ from by rw [HR.out, if_neg (by simp), if_pos (by omega)]
        go_wp2_with fail
        go_ret
        exact ⟨by rw [HR2.out]; rfl, by rw [HR2.out]; exact HSM.out⟩
      · by_cases h3 : (y.uses : Int) + n > 200
        · have HR2 : Hid (useK l t s n = (16, l)) := show _ = _ from by rw [HR.out, if_neg (by simp), if_pos (by omega)]
          go_wp2_with fail
          go_ret
          exact ⟨by rw [HR2.out]; rfl, by rw [HR2.out]; exact HSM.out⟩
        · obtain ⟨k, rfl⟩ : ∃ k : Nat, n = (k : Int) := ⟨n.toNat, by omega⟩
          have HR2 : Hid (useK l t s (k : Int) = (0, l.modify i (fun h => { h with uses := h.uses + k }))) := show _ = _ from by rw [HR.out, if_neg (by simp), if_neg (by omega)]; rfl
          have HE2 := Lib.hid (HE.out k (by omega))
          clear HE HR HSM
          go_wp2_with fail
          go_region
          go_wp2_with fail
          go_ret
          exact ⟨by rw [HR2.out]; rfl, by rw [HR2.out]; exact HE2.out⟩
theorem rowElem : ElemT 70 26 5 56 := ⟨Try.underlying26, elemInfo (by kernel_rfl) (by kernel_rfl), by omega, by omega⟩
theorem row_built (t s : ByteArray) (k : Int) : Try.prog.built 70 [(0, .string t), (1, .string s), (2, .agg #[.int .i64 k, .int .i64 0, .bool false])] = some #[.string t, .string s, .int .i64 k, .int .i64 0, .bool false] := by kernel_rfl
theorem run_buildRow {ρ : Operand → Value} {o : Oper} {a b c : Operand} {t s : ByteArray} {k : Int} (ho : o.op = .build 70 #[(0, a), (1, b), (2, c)]) (ha : ρ a = .string t) (hb : ρ b = .string s) (hc : ρ c = .agg #[.int .i64 k, .int .i64 0, .bool false]) (w : World) :
    (execOp ρ o).run Try.prog w = .ok (.value (.agg #[.string t, .string s, .int .i64 k, .int .i64 0, .bool false])) w := by
  have hr := Go.run_build (P := Try.prog) w 70 #[(0, .string t), (1, .string s), (2, .agg #[.int .i64 k, .int .i64 0, .bool false])] _ (row_built t s k)
  obtain ⟨dst, op, ty', pos, after, guard⟩ := o
  simp only at ho
  subst ho
  unfold execOp
  simp only [List.map_toArray, List.map_cons, List.map_nil, ha, hb, hc, Sem.run_bind, hr, Result.andThen_ok, Sem.run_pure]
set_option maxRecDepth 100000 in
theorem rrMake_any (t s : ByteArray) (n : Int) (w : World) (h : RrAt x l U w) (ht : t.size ≤ 281474976710656) (hs : s.size ≤ 281474976710656) (hf : l.length + 1 < 1000000) :
    Calls Try.prog 22 #[.pointer (some ⟨x, 0, none⟩), .string t, .string s, .int .i64 n] w fun e w' => e = .returned (.int .i64 (makeK l t s n).1) ∧ RrGo U x (makeK l t s n).2 w w' := by
  have HAT := Lib.hid (rrAt_any t s w h)
  obtain ⟨v, hV⟩ := h
  have HV := Lib.hid hV
  clear hV
  by_cases hn1 : n < 1
  · have HR : Hid (makeK l t s n = (1, l)) := show _ = _ from by unfold makeK; rw [if_pos (Or.inl hn1)]
    go_enter Try.func22, Try.ntmps22
    go_wp2_with fail
    go_ret
    exact ⟨by rw [HR.out]; rfl, by rw [HR.out]; exact RrGo.same ⟨v, HV.out⟩⟩
  by_cases hn2 : n > 64
  · have HR : Hid (makeK l t s n = (1, l)) := show _ = _ from by unfold makeK; rw [if_pos (Or.inr hn2)]
    go_enter Try.func22, Try.ntmps22
    go_wp2_with fail
    go_ret
    exact ⟨by rw [HR.out]; rfl, by rw [HR.out]; exact RrGo.same ⟨v, HV.out⟩⟩
  have HN : Hid (¬ (n < 1 ∨ n > 64) ∧ True) := show _ ∧ _ from ⟨by omega, trivial⟩
  go_enter Try.func22, Try.ntmps22
  go_wp2_with fail
  refine HAT.out.mono ?_
  rintro e w1 ⟨rfl, h1⟩
  rcases h1 with ⟨h0, rfl⟩ | ⟨i, h0, rfl⟩
  · obtain ⟨k, rfl⟩ : ∃ k : Nat, n = (k : Int) := ⟨n.toNat, by omega⟩
    have HR : Hid (makeK l t s (k : Int) = (0, l ++ [⟨t, s, k, 0, false⟩])) := show _ = _ from by unfold makeK; rw [if_neg HN.out.1, h0]; rfl
    have H0 := Lib.hid h0
    have hc := HV.out.cell
    have HROWS : Hid ((w.alloc (.cells #[.string t, .string s, .int .i64 (k : Int), .int .i64 0, .bool false] 70)).ownsRow 0 70 5 v l.length (rowsR l)) := show World.ownsRow _ _ _ _ _ _ _ from HV.out.rows.alloc _
    have HFW : Hid (l.length ≤ 1000000) := show _ ≤ _ from by omega
    have HEND : Hid (∀ v' w2, w2.ownsRow 0 70 5 v' (l.length + 1) (rowsR l ++ (#[.string t, .string s, .int .i64 (k : Int), .int .i64 0, .bool false] : Array Value).toList) → (w.alloc (.cells #[.string t, .string s, .int .i64 (k : Int), .int .i64 0, .bool false] 70)).grownBy w2 v.ownBlock → (v'.ownBlock = v.ownBlock ∨ v'.ownBlock = some (w.heap.size + 1)) →
        (∃ p n c, v' = .slice p n c) ∧ w2.cell? ⟨x, 0, none⟩ = some v ∧ w2.frozen? ⟨x, 0, none⟩ = false ∧ RrGo U x (l ++ [⟨t, s, k, 0, false⟩]) w (w2.setCell ⟨x, 0, none⟩ v')) := show ∀ _ _, _ → _ → _ → _ from fun v' w2 h1 h2 h3 => by
      have hxl := HV.out.dom x HV.out.own.1
      have s1 : Stays (fun k => v.ownBlock = some k) (w.alloc (.cells #[.string t, .string s, .int .i64 (k : Int), .int .i64 0, .bool false] 70)) w2 := grown_stays h2 (fun k e => e)
      have s0 : Stays (fun k => v.ownBlock = some k) w w2 := (Below.stays ((Below.refl _ w).alloc (Nat.le_refl _) _)).trans s1 (fun k f _ => f)
      have hr2 : w2.heap[x]? = some (.cells #[v] 28 (0, 0)) := (s0.block x hxl HV.out.apart).trans HV.out.ring
      have s2 : Stays (fun k => k = x) w2 (w2.setCell ⟨x, 0, none⟩ v') := grown_stays (grown_setCell w2 x 0 _) (fun k e => by cases e; rfl)
      have hsz2 : w.heap.size + 1 ≤ w2.heap.size := by have := s1.size; simpa using this
      have hne : v'.ownBlock ≠ some x := fun e => by
        rcases h3 with h3 | h3
        · exact HV.out.apart (h3.symm.trans e)
        · rw [e] at h3; simp at h3; omega
      have hform : ∃ p n c, v' = .slice p n c := by
        rcases h1.2 with ⟨e, -⟩ | ⟨g, cap, cur, e, -⟩
        · exact ⟨_, _, _, e⟩
        · exact ⟨_, _, _, e⟩
      refine ⟨hform, (cell_of_row _ _ _ _ _ _ hr2).trans rfl, frozen_of_row _ _ _ _ _ hr2, fun j => U j ∨ v'.ownBlock = some j, ⟨v', ?_⟩, fun j hj => ?_, ?_⟩
      · refine ⟨one_setCell hr2, ?_, ⟨Or.inl HV.out.own.1, fun g hg => Or.inr hg⟩, hne, fun j hj => ?_, HV.out.ok.snoc (by show 1 ≤ k ∧ k ≤ 64; have := HN.out.1; omega) (by show 0 ≤ 200; omega) H0.out ⟨ht, hs⟩, by simpa using hf⟩
        · rw [List.length_append, rowsR_snoc]
          exact ownsRow_stays h1 s2 (fun j hj e => hne (by rw [hj, e]))
        · rw [World.size_setCell]
          rcases hj with hj | hj
          · have := HV.out.dom j hj; omega
          · exact (World.ownsRow.lt h1 j hj).2
      · rcases hj with hj | hj
        · exact Or.inl hj
        · rcases h3 with h3 | h3
          · exact Or.inl (HV.out.own.2 j (h3.symm.trans hj))
          · rw [h3] at hj; simp at hj; exact Or.inr (by omega)
      · exact (s0.more (G := U) (fun j hj => HV.out.own.2 j hj)).trans (s2.more (G := U) (fun j e => e ▸ HV.out.own.1)) (fun j u _ => u)
    clear h0 hn1 hn2 HAT HV
    go_wp2_with (first
      | (show wpList _ _ _ (⟨_, .build 70 _, _, _, _, _⟩ :: _) _ _; refine wpList_run (by rfl) (run_buildRow (a := .tmp 25) (b := .tmp 26) (c := .tmp 28) (k := (k : Int)) rfl rfl rfl rfl _) ?_)
      | (show wpList _ _ _ (⟨_, .call _, _, _, _, _⟩ :: _) _ _; refine rowElem.wpList_append (by rfl) (s := .tmp 24) (x := .tmp 30) rfl rfl HROWS.out rfl (heap_new_at rfl) rfl (by intro u hu; simp at hu; rcases hu with rfl | rfl | rfl | rfl | rfl <;> rfl) HFW.out (Nat.zero_le _) ?_; intro v' w2 h1 h2 h3; obtain ⟨⟨p', n', c', rfl⟩, c2, f2, hgo⟩ := HEND.out v' w2 h1 h2 (h3.imp id (fun e => e.trans (by rw [size_alloc]))); have HGO := Lib.hid hgo; clear h1 h2 h3 hgo hc HEND HROWS))
    go_ret
    exact ⟨by rw [HR.out]; rfl, by rw [HR.out]; exact HGO.out⟩
  · have HR : Hid (makeK l t s n = (13, l)) := show _ = _ from by unfold makeK; rw [if_neg HN.out.1, h0]
    clear h0
    go_wp2_with fail
    go_ret
    exact ⟨by rw [HR.out]; rfl, by rw [HR.out]; exact RrGo.same ⟨v, HV.out⟩⟩
end
end Go.Proofs.Ytoidjapenompiaa

/-
  The document's Nonce.
-/
namespace Go.Proofs.Ytoidjapenompiaa
open Go.RowKit Go.Proofs.ShaWords
def uK (n : Int) (k : Nat) : Int := (n % 18446744073709551616) / (256 ^ k : Int)
theorem uK_pos (n : Int) (k : Nat) : 0 ≤ uK n k ∧ uK n k < 18446744073709551616 := by
  unfold uK
  have h0 : 0 ≤ n % 18446744073709551616 := Int.emod_nonneg _ (by decide)
  have h1 : n % 18446744073709551616 < 18446744073709551616 := Int.emod_lt_of_pos _ (by decide)
  have hp : (0 : Int) < 256 ^ k := Int.pow_pos (by decide)
  exact ⟨Int.ediv_nonneg h0 (Int.le_of_lt hp), Int.lt_of_le_of_lt (Int.ediv_le_self _ h0) h1⟩
theorem uK_succ (n : Int) {k : Nat} (hk : k < 8) : uK n (k + 1) = uK n k / 256 ∧ uK n k % 256 = n8 (nonceAt n (11 - k)) := by
  have e : n8 (nonceAt n (11 - k)) = (n / (2 : Int) ^ (8 * k)) % 256 := by
    unfold nonceAt
    rw [if_neg (by omega), show 11 - (11 - k) = k by omega, ← wrap8_ofInt, IntKind.wrap_u8]
  rw [e]
  unfold uK
  rcases k with _ | _ | _ | _ | _ | _ | _ | _ | k
  all_goals first
    | (exfalso; omega)
    | (simp only [Nat.reduceAdd, Nat.reduceMul, Int.reducePow, Nat.zero_add, Nat.mul_zero]; omega)
set_option maxRecDepth 100000 in
set_option maxHeartbeats 1000000 in
theorem rrNonce_any (n : Int) (w : World) : Calls Try.prog 12 #[.int .i64 n] w fun e w' => e = .returned (.agg (bytesV (nonceB n)).toArray) ∧ Below w.heap.size w w' := by
  have hz0 := zero33
  go_enter Try.func12, Try.ntmps12
  go_upto_region 3 with (fail)
  refine wp_gen (fun A => NcK w (nonceTo n 0) A) (NcK.start w) ?_
  intro A hA
  have HA := Lib.hid hA
  clear hA hz0
  go_wp2_with fail
  go_loopw [3, 5] (fun u i wr => ∃ k : Nat, k ≤ 8 ∧ i = .int .i64 (11 - (k : Int)) ∧ u = .int .u64 (uK n k) ∧ NcK w (nonceTo n k) wr) (fun _ i _ => (intOf i).toNat)
  case atStart => exact ⟨0, by omega, by simp, by unfold uK; first | rfl | simp [IntKind.wrap_u64], HA.out⟩
  case round =>
    clear HA
    obtain ⟨k, hk, rfl, rfl, hA⟩ := hrel
    have HA := Lib.hid hA
    clear hA
    by_cases hlt : k < 8
    · have hcell : ∃ u, wr.cell? ⟨w.heap.size + 1, 11 - k, none⟩ = some u := ⟨_, (cell_of_row _ _ (11 - k) _ _ _ HA.out.row).trans (Array.getElem?_eq_getElem (by rw [bytesV_size _ 12 (nonceTo_length _ _)]; omega))⟩
      have hfz : wr.frozen? ⟨w.heap.size + 1, 11 - k, none⟩ = false := frozen_of_row _ _ _ _ _ HA.out.row
      have HS := Lib.hid (uK_succ n hlt)
      have HP := Lib.hid (uK_pos n k)
      have HE : Hid (∀ z, z = uK n k % 256 → NcK w (nonceTo n (k + 1)) (wr.setCell ⟨w.heap.size + 1, 11 - k, none⟩ (.int .u8 z))) := show ∀ _, _ → _ from fun z hz => by
        rw [hz, HS.out.2, ← nonceTo_set n hlt]
        exact HA.out.put _ _
      obtain ⟨u, hcell⟩ := hcell
      obtain ⟨i, hi⟩ : ∃ i : Nat, i = 11 - k := ⟨_, rfl⟩
      have hi2 : (11 : Int) - (k : Int) = (i : Int) := by omega
      have q1 : (i : Int) < 12 := by omega
      have q2 : (i : Int) ≥ 4 := by omega
      rw [← hi] at hcell hfz HE
      rw [hi2]
      obtain ⟨V, hV⟩ : ∃ V, uK n k = V := ⟨_, rfl⟩
      rw [hV] at HS HP HE ⊢
      have p0 := HP.out.1
      have p1 := HP.out.2
      have HII := Lib.hid (And.intro hi hi2)
      clear HA hV hi hi2
      go_wp2_with fail
      go_roundw
      case rel => exact ⟨k + 1, by omega, by have := HII.out; congr 1; omega, by rw [HS.out.1], HE.out _ rfl⟩
      case measure => have := HII.out; simp [intOf]; omega
    · obtain rfl : k = 8 := by omega
      have HI := Lib.hid (infoNonce _ (nonceTo_length n 8))
      have HOLD := Lib.hid (show (bytesV (noughts 12)).toArray.size = (bytesV (nonceTo n 8)).toArray.size by rw [bytesV_size _ 12 (nonceTo_length _ _), bytesV_size _ 12 (noughts_length 12)])
      have HONE := Lib.hid (bytesV_one (nonceTo n 8))
      have HZ := Lib.hid HA.out.res
      have HB := Lib.hid HA.out.below
      have HFULL := Lib.hid HA.out.row
      clear HA hlt hk
      generalize hfe : (bytesV (nonceTo n 8)).toArray = full at HFULL HI HOLD HONE
      have HFE := Lib.hid hfe; clear hfe
      go_wp2_with (first
        | (refine wpList_load_row rfl 33 (.tmp 4) rfl (w.heap.size + 1) rfl 33 full (0, 0) _ HFULL.out Try.underlying33 rfl HI.out ?_)
        | (refine wpList_store_row rfl 33 (.tmp 2) (.tmp 19) rfl w.heap.size full rfl rfl 33 _ HZ.out HI.out HOLD.out HONE.out ?_))
      have hrow := setRow_heap wr w.heap.size _ full 33 _ HZ.out
      have hbel := below_setRow HB.out (Nat.le_refl _) full
      generalize wr.setRow w.heap.size full = wz at hrow hbel ⊢
      have hres : ∀ tmps : Array Value, tmps.getD 2 undef = .pointer (some ⟨w.heap.size, 0, none⟩) → Sem.run Try.prog (results Try.f12 tmps) wz = .ok (.agg full) wz := fun tmps h =>
        results_cell_row (P := Try.prog) (p := 2) (ty := 33) Try.results12 tmps wz w.heap.size 33 full (0, 0) (TypeDesc.array 12 5) h hrow Try.underlying33 rfl HI.out
      exact bodyPost_ret (v := .agg full) (hres _ rfl) rfl ⟨by rw [← HFE.out]; rfl, hbel⟩
end Go.Proofs.Ytoidjapenompiaa
