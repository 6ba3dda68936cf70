/-
  What other texts lean on: Words, Gen, Bytes, WordsAt, OwnBytes, BytesBig, Foot, Structs, StdBytes, AppendAt, Phase, Met, MetBefore, BaseG, Elems, ArrEq, Tree, MaxMin, Pick, ByteOps, AppendOps.
-/
import Derived.WalkKit
import Derived.WalkLawsBesides
import Derived.Laws.BitsAllLaws
import Derived.Test.YtkfkdomjjepmdaaProg
import Derived.WalkSpells
import Derived.Lib.Hide
import Derived.StillTailTactics
import Derived.IntWalk
import Derived.Laws.CopyOwn
import Derived.Laws.Rows
import Derived.Deep.QuietTactic
import Derived.BigQuiet
import Derived.Deep.RegionHeld3
import Derived.Deep.DeepFit
import Derived.Lib.SlBytesConst
import Derived.Laws.OwnMore
import Derived.Great.BuildSlice
import Derived.Laws.AppendOwnNone
import Derived.Laws.BytesArg
import Derived.Laws.BytesString
import Derived.Lib.SliceRun
import Derived.Lib.Bytes
import Derived.Maps.AppendAt
import Derived.Test.YtkfkdomjjepmdaaRows
import Derived.ProofKit
import Derived.OpenShut
import Derived.ShutString
import Derived.ChangeOld
import Derived.Below
import Derived.LaidMore
import Derived.Lib.LaidTab
import Derived.Stop.Joined
import Derived.Deep.Matrix
import Derived.SizedLaws
import Derived.Stop.BytesEq
import Derived.Deep.DeepCutAuto
import Derived.Deep.AppendLies
/-
  Words of 32 bits and bytes as plain bit vectors: what the model's integer operations at uint32 and uint8 come to on them. Without any condition.
-/
namespace Go.Proofs.ShaWords
open Go

/-- A word as the number that the model holds. -/
def n32 (x : BitVec 32) : Int := (x.toNat : Int)
/-- A byte as the number that the model holds. -/
def n8 (x : BitVec 8) : Int := (x.toNat : Int)

theorem and32 (x y : BitVec 32) : bits .and .u32 (n32 x) (n32 y) = n32 (x &&& y) := by
  unfold n32; rw [u32_and_nat _ _ (by have := x.isLt; omega) (by have := y.isLt; omega), BitVec.toNat_and]
theorem or32 (x y : BitVec 32) : bits .or .u32 (n32 x) (n32 y) = n32 (x ||| y) := by
  unfold n32; rw [u32_or_nat _ _ (by have := x.isLt; omega) (by have := y.isLt; omega), BitVec.toNat_or]
theorem xor32 (x y : BitVec 32) : bits .xor .u32 (n32 x) (n32 y) = n32 (x ^^^ y) := by
  unfold n32; rw [u32_xor_nat _ _ (by have := x.isLt; omega) (by have := y.isLt; omega), BitVec.toNat_xor]
theorem add32 (x y : BitVec 32) : IntKind.u32.wrap (n32 x + n32 y) = n32 (x + y) := by
  unfold n32; rw [IntKind.wrap_u32', BitVec.toNat_add]; omega
theorem shl32 (x : BitVec 32) (k : Nat) : IntKind.u32.wrap (n32 x * 2 ^ k) = n32 (x <<< k) := by
  unfold n32
  have e : (x.toNat : Int) * 2 ^ k = ((x.toNat * 2 ^ k : Nat) : Int) := by rw [Int.natCast_mul, Int.natCast_pow]; rfl
  rw [IntKind.wrap_u32', BitVec.toNat_shiftLeft, Nat.shiftLeft_eq, e]
  generalize x.toNat * 2 ^ k = m
  omega
theorem shr32 (x : BitVec 32) (k : Nat) : n32 x / 2 ^ k = n32 (x >>> k) := by
  unfold n32; rw [BitVec.toNat_ushiftRight, Nat.shiftRight_eq_div_pow, Int.natCast_ediv, Int.natCast_pow]; rfl

/-- A byte as a word; a word's last byte. -/
def ext (b : BitVec 8) : BitVec 32 := b.setWidth 32
def lo8 (x : BitVec 32) : BitVec 8 := x.setWidth 8
theorem wrap32_n8 (b : BitVec 8) : IntKind.u32.wrap (n8 b) = n32 (ext b) := by
  unfold n8 n32 ext; rw [IntKind.wrap_u32', BitVec.toNat_setWidth]; have := b.isLt; omega
theorem wrap8_n32 (x : BitVec 32) : IntKind.u8.wrap (n32 x) = n8 (lo8 x) := by
  unfold n8 n32 lo8; rw [IntKind.wrap_u8', BitVec.toNat_setWidth]; omega
/-- A word turned right by k. -/
def rr (x : BitVec 32) (k : Nat) : BitVec 32 := (x <<< (32 - k)) ||| (x >>> k)
end Go.Proofs.ShaWords

/-
  What every layer leans on: bytes and words in memory; blocks that hold bytes; loads, stores, copies and makes of whole rows; a region that draws its order, carried out along one list of its operations; calls.
-/
namespace Go.Proofs.Ytkfkdomjjepmdaa
open Go.RowKit Go.Proofs.ShaWords

def bytesV (l : List (BitVec 8)) : List Value := l.map fun b => .int .u8 (n8 b)
def wordsV (l : List (BitVec 32)) : List Value := l.map fun x => .int .u32 (n32 x)
theorem cell_bytesV {w : World} {g j : Nat} {l : List (BitVec 8)} {t : TypeId} {fr : Nat × Nat} (h : w.heap[g]? = some (.cells (bytesV l).toArray t fr)) (hj : j < l.length) : w.cell? ⟨g, j, none⟩ = some (.int .u8 (n8 l[j])) := by
  rw [cell_of_row w g j _ t fr h]; simp [bytesV, hj]
theorem cell_wordsV {w : World} {g j : Nat} {l : List (BitVec 32)} {t : TypeId} {fr : Nat × Nat} (h : w.heap[g]? = some (.cells (wordsV l).toArray t fr)) (hj : j < l.length) : w.cell? ⟨g, j, none⟩ = some (.int .u32 (n32 l[j])) := by
  rw [cell_of_row w g j _ t fr h]; simp [wordsV, hj]
theorem wordsV_set (l : List (BitVec 32)) (k : Nat) (x : BitVec 32) : (wordsV l).toArray.setIfInBounds k (.int .u32 (n32 x)) = (wordsV (l.set k x)).toArray := by
  simp [wordsV, List.map_set]
theorem heap_new_at {w : World} {o : Obj} {n : Nat} (h : w.heap.size = n) : (w.alloc o).heap[n]? = some o := by
  subst h; exact _root_.Go.heap_alloc_new w o
theorem wp_gen {P : Program} {c : Code} {Q : Exit → Act → World → Prop} {a : Act} {w : World} (F : World → Prop) (hF : F w) (h : ∀ w, F w → Code.wp P c Q a w) : Code.wp P c Q a w := h w hF
theorem bytesV_length (l : List (BitVec 8)) : (bytesV l).length = l.length := by simp [bytesV]
/-- Bytes that a slice's address leads to, in a block other than g. -/
def Reads (w : World) (g : Nat) (p : Option Addr) (bs : List (BitVec 8)) : Prop :=
  bs = [] ∨ ∃ b off, p = some ⟨b, off, none⟩ ∧ b ≠ g ∧ w.rangeAt b off (bytesV bs)
theorem grown_setCell (w : World) (g j : Nat) (v : Value) : w.grownBy (w.setCell ⟨g, j, none⟩ v) (some g) :=
  ⟨rfl, rfl, rfl, by simp [World.setCell], fun k _ hk => heap_setCell_other _ _ _ _ (fun e => hk (by rw [e]))⟩
theorem Reads.grown {w w' : World} {g b off : Nat} {l : List Value} (h : w.rangeAt b off l) (hb : w.grownBy w' (some g)) (hg : b ≠ g) : w'.rangeAt b off l := fun j v hv =>
  (World.cell?_of_block (a := ⟨b, off + j, none⟩) (hb.block b (World.block_lt_of_cell? w _ (h j v hv)) (fun e => hg (Option.some.inj e)))).trans (h j v hv)
theorem put_size (a : Act) (d : Nat) (v : Value) : (a.put (some d) v).tmps.size = a.tmps.size := by simp [Act.put]
theorem eval_same (a : Act) (d : Nat) (v : Value) (h : d < a.tmps.size) : (a.put (some d) v).eval (.tmp d) = v := by simp [Act.eval, Act.put, h]
theorem eval_other (a : Act) (d t : Nat) (v : Value) (h : d ≠ t) : (a.put (some d) v).eval (.tmp t) = a.eval (.tmp t) := Act.eval_put (fun e he hx => by cases he; cases hx; exact h rfl)
theorem run_move {P : Program} {ρ : Operand → Value} {o : Oper} {x : Operand} {v : Value} (ho : o.op = .move x) (h : ρ x = v) (w : World) : (execOp ρ o).run P w = .ok (.value v) w := by
  unfold execOp; simp only [ho, h, Sem.run_pure]
theorem wanted_of {o : Oper} {ops : Array Oper} {t : Array Value} (h : o.guard = none) : Region.wanted o (yielded ops t) = true := by simp [Region.wanted, h]
theorem grown_below {w w1 : World} {B : Nat} (hb : Below B w w1) (hB : w.heap.size ≤ B) (r : Option Nat) : w.grownBy w1 r :=
  ⟨hb.os, hb.tape, hb.output, hb.size, fun k hk _ => hb.block k (by omega)⟩
theorem range_bytesV {w : World} {g : Nat} {l : List (BitVec 8)} {t : TypeId} {fr : Nat × Nat} (h : w.heap[g]? = some (.cells (bytesV l).toArray t fr)) : w.rangeAt g 0 (bytesV l) := fun j v hv => by
  rw [Nat.zero_add, cell_of_row w g j _ t fr h]; simpa using hv
/-- Bytes that a slice's address leads to. -/
def Lies (w : World) (p : Option Addr) (bs : List (BitVec 8)) : Prop := bs = [] ∨ ∃ b off, p = some ⟨b, off, none⟩ ∧ w.rangeAt b off (bytesV bs)
theorem Lies.below {w w' : World} {p : Option Addr} {bs : List (BitVec 8)} (h : Lies w p bs) (hb : Below w.heap.size w w') : Lies w' p bs := by
  rcases h with h | ⟨b, off, hp, hr⟩
  · exact Or.inl h
  · exact Or.inr ⟨b, off, hp, fun j v hv => (hb.cell (p := ⟨b, off + j, none⟩) (World.block_lt_of_cell? w _ (hr j v hv))).trans (hr j v hv)⟩
section
variable {P : Program} {ops : Array Oper} {Q : Exit → Act → World → Prop} {S : World → Prop} {r : List (Nat × Bool)} {i : Nat} {o : Oper} {d : Option Tmp} {v : Value} {a : Act} {w w' : World}
theorem wanted_guard {j : Nat} {dj : Tmp} {oj : Oper} (hg : o.guard = some (j, true)) (hj : ops[j]? = some oj) (hd : oj.dst = some dj) (he : a.eval (.tmp dj) = .bool true) : Region.wanted o (yielded ops a.tmps) = true := by
  have h2 : a.tmps[dj]? = some (.bool true) := by
    have h3 : a.tmps.getD dj undef = .bool true := he
    rw [Array.getD_eq_getD_getElem?] at h3
    cases h4 : a.tmps[dj]? with
    | none => rw [h4] at h3; exact absurd h3 (by simp [undef])
    | some u => rw [h4] at h3; simp at h3; rw [h3]
  unfold Region.wanted
  rw [hg]
  simp only [yielded, hj, Option.bind_some, hd, h2]
  rfl
end
section
variable {P : Program} {ρ : Operand → Value} {o : Oper} {x y c : Operand} {v u : Value}
theorem run_assign (ho : o.op = .assign x) (h : ρ x = v) (w : World) : (execOp ρ o).run P w = .ok (.value v) w := by
  unfold execOp; simp only [ho, h, Sem.run_pure]
theorem run_pick_true (ho : o.op = .pick c x y) (hc : ρ c = .bool true) (h : ρ x = v) (w : World) : (execOp ρ o).run P w = .ok (.value v) w := by
  unfold execOp; simp only [ho, hc, h, Sem.run_bind]; rfl
theorem range_keep {w w' : World} {b off : Nat} {l : List Value} (h : w.rangeAt b off l) (hb : Below w.heap.size w w') : w'.rangeAt b off l := fun j v hv =>
  (hb.cell (p := ⟨b, off + j, none⟩) (World.block_lt_of_cell? w _ (h j v hv))).trans (h j v hv)
/-- A call of any function of the program that has a body. -/
theorem callFunc_body {P : Program} {f : FuncId} {fn : Func} (hfn : P.funcs[f]? = some fn) (hb : (fn.name == "runtime.NumGoroutine" || fn.body.isNone) = false) (args : Array Value) (w : World) : (callFunc f args).run P w = .ok (.enter f args) w := by
  rw [Bool.or_eq_false_iff] at hb
  have h1 : ¬ fn.name = "runtime.NumGoroutine" := by simpa using hb.1
  have h2 : ¬ fn.body = none := fun h => by rw [h] at hb; exact absurd hb.2 (by decide)
  simp [callFunc, go_sem, hfn, h1, h2]
theorem run_callf0 {P : Program} {f : FuncId} {fn : Func} {T : Array TypeId} (ho : o.op = .call { callee := .value (.func f), args := #[], argTypes := T }) (hf : ρ (.func f) = .func (.func f) #[] #[])  (hfn : P.funcs[f]? = some fn) (hb : (fn.name == "runtime.NumGoroutine" || fn.body.isNone) = false) (w : World) : (execOp ρ o).run P w = .ok (.enter f #[]) w := by
  obtain ⟨dst, op, ty, pos, after, guard⟩ := o
  simp only at ho
  subst ho
  have h := callFunc_body hfn hb #[] w
  go_simp
theorem run_callf1 {P : Program} {f : FuncId} {fn : Func} {T : Array TypeId} (ho : o.op = .call { callee := .value (.func f), args := #[x], argTypes := T }) (hf : ρ (.func f) = .func (.func f) #[] #[]) (hx : ρ x = v) (hfn : P.funcs[f]? = some fn) (hb : (fn.name == "runtime.NumGoroutine" || fn.body.isNone) = false) (w : World) : (execOp ρ o).run P w = .ok (.enter f #[v]) w := by
  obtain ⟨dst, op, ty, pos, after, guard⟩ := o
  simp only at ho
  subst ho
  have h := callFunc_body hfn hb #[v] w
  go_simp
theorem run_callf2 {P : Program} {f : FuncId} {fn : Func} {T : Array TypeId} (ho : o.op = .call { callee := .value (.func f), args := #[x, y], argTypes := T }) (hf : ρ (.func f) = .func (.func f) #[] #[]) (hx : ρ x = v) (hy : ρ y = u) (hfn : P.funcs[f]? = some fn) (hb : (fn.name == "runtime.NumGoroutine" || fn.body.isNone) = false) (w : World) : (execOp ρ o).run P w = .ok (.enter f #[v, u]) w := by
  obtain ⟨dst, op, ty, pos, after, guard⟩ := o
  simp only at ho
  subst ho
  have h := callFunc_body hfn hb #[v, u] w
  go_simp
theorem run_callf3 {P : Program} {f : FuncId} {fn : Func} {T : Array TypeId} {z : Value} (ho : o.op = .call { callee := .value (.func f), args := #[x, y, c], argTypes := T }) (hf : ρ (.func f) = .func (.func f) #[] #[]) (hx : ρ x = v) (hy : ρ y = u) (hz : ρ c = z) (hfn : P.funcs[f]? = some fn) (hb : (fn.name == "runtime.NumGoroutine" || fn.body.isNone) = false) (w : World) : (execOp ρ o).run P w = .ok (.enter f #[v, u, z]) w := by
  obtain ⟨dst, op, ty, pos, after, guard⟩ := o
  simp only at ho
  subst ho
  have h := callFunc_body hfn hb #[v, u, z] w
  go_simp
theorem run_callf4 {P : Program} {f : FuncId} {fn : Func} {T : Array TypeId} {z z2 : Value} {c2 : Operand} (ho : o.op = .call { callee := .value (.func f), args := #[x, y, c, c2], argTypes := T }) (hf : ρ (.func f) = .func (.func f) #[] #[]) (hx : ρ x = v) (hy : ρ y = u) (hz : ρ c = z) (hz2 : ρ c2 = z2) (hfn : P.funcs[f]? = some fn) (hb : (fn.name == "runtime.NumGoroutine" || fn.body.isNone) = false) (w : World) : (execOp ρ o).run P w = .ok (.enter f #[v, u, z, z2]) w := by
  obtain ⟨dst, op, ty, pos, after, guard⟩ := o
  simp only at ho
  subst ho
  have h := callFunc_body hfn hb #[v, u, z, z2] w
  go_simp
end
/-- A block that holds these bytes. -/
def BytesAt (w : World) (g : Nat) (t : TypeId) (l : List (BitVec 8)) : Prop := w.heap[g]? = some (.cells (bytesV l).toArray t (0, 0))
theorem BytesAt.size {w : World} {g : Nat} {t : TypeId} {l : List (BitVec 8)} (h : BytesAt w g t l) : g < w.heap.size := (Array.getElem?_eq_some_iff.1 h).1
theorem BytesAt.keep {w w' : World} {g : Nat} {t : TypeId} {l : List (BitVec 8)} (h : BytesAt w g t l) (hb : Below w.heap.size w w') : BytesAt w' g t l := (hb.block _ h.size).trans h
theorem BytesAt.range {w : World} {g : Nat} {t : TypeId} {l : List (BitVec 8)} (h : BytesAt w g t l) : w.rangeAt g 0 (bytesV l) := range_bytesV h
theorem setCell_bytes {w : World} {g : Nat} {l : List (BitVec 8)} {t : TypeId} {k : Nat} (h : w.heap[g]? = some (.cells (bytesV l).toArray t (0, 0))) (x : BitVec 8) :
    (w.setCell ⟨g, k, none⟩ (.int .u8 (n8 x))).heap[g]? = some (.cells (bytesV (l.set k x)).toArray t (0, 0)) := by
  rw [heap_setCell_same _ _ _ _ _ _ h, List.setIfInBounds_toArray]
  simp [bytesV, List.map_set]
theorem Reads.on {w w' : World} {g : Nat} {p : Option Addr} {bs : List (BitVec 8)} (h : Reads w g p bs) (hb : Below w.heap.size w w') : Reads w' g p bs := by
  rcases h with h | ⟨b, off, hp, hne, hr⟩
  · exact Or.inl h
  · exact Or.inr ⟨b, off, hp, hne, range_keep hr hb⟩
end Go.Proofs.Ytkfkdomjjepmdaa

/-
  The contracts of the kit's own functions on bytes: CopyBytes, markBytes, LentBytes, SameBytes at equal lists, KeptBytes at what LentBytes made.
-/
namespace Go.Proofs.Ytkfkdomjjepmdaa
open Go.RowKit Go.Proofs.ShaWords

/-- A slice of the call's own that holds these bytes. -/
def Own (B : Nat) (w : World) (l : List (BitVec 8)) (v : Value) : Prop := w.ownsRow B 5 1 v l.length (bytesV l)
theorem Own.nil (B : Nat) (w : World) : Own B w [] (.slice none 0 0) := World.ownsRow_nil w B 5 1
theorem Own.lies {B : Nat} {w : World} {l : List (BitVec 8)} {v : Value} (h : Own B w l v) : ∃ p cap, v = .slice p l.length cap ∧ l.length ≤ cap ∧ cap ≤ maxLen ∧ Lies w p l := by
  rcases h.2 with ⟨rfl, h0⟩ | ⟨g, cap, cur, rfl, hg, hh, hc, hm, hs, ht⟩
  · have : l = [] := List.length_eq_zero_iff.1 h0
    subst this
    exact ⟨none, 0, rfl, Nat.le_refl _, Nat.zero_le _, Or.inl rfl⟩
  · refine ⟨some ⟨g, 0, none⟩, cap, rfl, hc, hm, Or.inr ⟨g, 0, rfl, fun j v hv => ?_⟩⟩
    rw [Nat.zero_add, cell_of_row w g j cur 5 (0, 0) hh]
    rw [← ht, Nat.mul_one, List.getElem?_take] at hv
    split at hv
    · rw [← hv]; simp
    · cases hv
theorem Own.below {B : Nat} {w w' : World} {l : List (BitVec 8)} {v : Value} (h : Own B w l v) (hb : Below w.heap.size w w') : Own B w' l v :=
  World.ownsRow.kept h (grown_below hb (Nat.le_refl _) none) (by cases v.ownBlock <;> simp)
/-- The kit's marks. -/
def mark (i : Nat) : BitVec 8 := BitVec.ofNat 8 (201 + 7 * i)
def marks (k : Nat) : List (BitVec 8) := (List.range k).map mark
end Go.Proofs.Ytkfkdomjjepmdaa

/-
  A block that holds words; pieces of a list written over.
-/
namespace Go.Proofs.Ytkfkdomjjepmdaa
open Go.RowKit Go.Proofs.ShaWords

/-- A block that holds these words. -/
def WordsAt (w : World) (g : Nat) (t : TypeId) (l : List (BitVec 32)) : Prop := w.heap[g]? = some (.cells (wordsV l).toArray t (0, 0))
theorem WordsAt.size {w : World} {g : Nat} {t : TypeId} {l : List (BitVec 32)} (h : WordsAt w g t l) : g < w.heap.size := (Array.getElem?_eq_some_iff.1 h).1
theorem WordsAt.keep {w w' : World} {g : Nat} {t : TypeId} {l : List (BitVec 32)} (h : WordsAt w g t l) (hb : Below w.heap.size w w') : WordsAt w' g t l := (hb.block _ h.size).trans h
theorem WordsAt.cell {w : World} {g : Nat} {t : TypeId} {l : List (BitVec 32)} (h : WordsAt w g t l) (k : Nat) (hk : k < l.length) : w.cell? ⟨g, k, none⟩ = some (.int .u32 (n32 (l.getD k 0#32))) := by
  rw [cell_wordsV h hk]; simp [List.getD, hk]
theorem WordsAt.set {w : World} {g : Nat} {t : TypeId} {l : List (BitVec 32)} (h : WordsAt w g t l) (k : Nat) (x : BitVec 32) : WordsAt (w.setCell ⟨g, k, none⟩ (.int .u32 (n32 x))) g t (l.set k x) := by
  show _ = _
  rw [heap_setCell_same _ _ _ _ _ _ h, wordsV_set]
theorem WordsAt.range {w : World} {g : Nat} {t : TypeId} {l : List (BitVec 32)} (h : WordsAt w g t l) : w.rangeAt g 0 (wordsV l) := fun j v hv => by
  rw [Nat.zero_add, cell_of_row w g j _ t _ h]; simpa using hv
theorem WordsAt.drew {w : World} {g : Nat} {t : TypeId} {l : List (BitVec 32)} (h : WordsAt w g t l) : WordsAt w.drew g t l := h
theorem BytesAt.cell {w : World} {g : Nat} {t : TypeId} {l : List (BitVec 8)} (h : BytesAt w g t l) (k : Nat) (hk : k < l.length) : w.cell? ⟨g, k, none⟩ = some (.int .u8 (n8 (l.getD k 0#8))) := by
  rw [cell_bytesV h hk]; simp [List.getD, hk]
theorem BytesAt.put {w : World} {g : Nat} {t : TypeId} {l : List (BitVec 8)} (h : BytesAt w g t l) (k : Nat) (x : BitVec 8) : BytesAt (w.setCell ⟨g, k, none⟩ (.int .u8 (n8 x))) g t (l.set k x) := setCell_bytes h x
end Go.Proofs.Ytkfkdomjjepmdaa

/-
  A slice of bytes of the call's own: its block; a byte written. Blocks of bytes, many at once.
-/
namespace Go.Proofs.Ytkfkdomjjepmdaa
open Go.RowKit Go.Proofs.ShaWords
theorem Own.put {B g n cap : Nat} {w : World} {l : List (BitVec 8)} (h : Own B w l (.slice (some ⟨g, 0, none⟩) n cap)) (k : Nat) (x : BitVec 8) : Own B (w.setCell ⟨g, k, none⟩ (.int .u8 (n8 x))) (l.set k x) (.slice (some ⟨g, 0, none⟩) n cap) := by
  rcases h.2 with ⟨h0, _⟩ | ⟨g', cap', cur, he, hg, hh, hc, hm, hs, ht⟩
  · cases h0
  · cases he
    refine ⟨by rw [bytesV_length, Nat.mul_one], .inr ⟨g, cap, cur.setIfInBounds k (.int .u8 (n8 x)), by rw [List.length_set], hg, heap_setCell_same _ _ _ _ _ _ hh, by rw [List.length_set]; exact hc, hm, by rw [Array.size_setIfInBounds]; exact hs, ?_⟩⟩
    rw [Nat.mul_one] at ht
    rw [List.length_set, Array.toList_setIfInBounds, Nat.mul_one, List.take_set, ht]
    simp [bytesV, List.map_set]
/-- Blocks of bytes that the call has made. -/
structure Has (w0 : World) (L : List (Nat × TypeId × List (BitVec 8))) (w : World) : Prop where
  below : Below w0.heap.size w0 w
  all : ∀ (i g : Nat) (t : TypeId) (l : List (BitVec 8)), L[i]? = some (g, t, l) → BytesAt w g t l ∧ w0.heap.size ≤ g
theorem Has.on {w0 wr w' : World} {L : List (Nat × TypeId × List (BitVec 8))} (h : Has w0 L wr) (hb : Below wr.heap.size wr w') : Has w0 L w' :=
  ⟨h.below.trans (hb.mono h.below.size), fun i g t l e => ⟨(h.all i g t l e).1.keep hb, (h.all i g t l e).2⟩⟩
theorem Has.add {w0 wr : World} {L : List (Nat × TypeId × List (BitVec 8))} (h : Has w0 L wr) {g : Nat} {t : TypeId} {l : List (BitVec 8)} (hb : BytesAt wr g t l) (hg : w0.heap.size ≤ g) : Has w0 ((g, t, l) :: L) wr :=
  ⟨h.below, fun i g' t' l' e => by
    cases i with
    | zero => simp only [List.getElem?_cons_zero, Option.some.injEq, Prod.mk.injEq] at e; obtain ⟨rfl, rfl, rfl⟩ := e; exact ⟨hb, hg⟩
    | succ i => rw [List.getElem?_cons_succ] at e; exact h.all i g' t' l' e⟩
end Go.Proofs.Ytkfkdomjjepmdaa

/-
  The kit's functions on byte lists, whatever their length.
-/
namespace Go.Proofs.Ytkfkdomjjepmdaa
open Go.RowKit Go.Proofs.ShaWords
end Go.Proofs.Ytkfkdomjjepmdaa

/-
  A call that changes a few blocks alone: what it leaves; bytes that lie in blocks of a set.
-/
namespace Go.Proofs.Ytkfkdomjjepmdaa
open Go.RowKit Go.Proofs.ShaWords

/-- All blocks stay but those of F; new ones come. -/
structure Stays (F : Nat → Prop) (w w' : World) : Prop where
  os : w'.os = w.os
  tape : w'.tape = w.tape
  output : w'.output = w.output
  size : w.heap.size ≤ w'.heap.size
  block : ∀ k, k < w.heap.size → ¬ F k → w'.heap[k]? = w.heap[k]?
theorem Stays.refl (F : Nat → Prop) (w : World) : Stays F w w := ⟨rfl, rfl, rfl, Nat.le_refl _, fun _ _ _ => rfl⟩
theorem Stays.trans {F G : Nat → Prop} {w w' w'' : World} (h : Stays F w w') (h2 : Stays G w' w'') (hG : ∀ k, G k → k < w.heap.size → F k) : Stays F w w'' :=
  ⟨h2.os.trans h.os, h2.tape.trans h.tape, h2.output.trans h.output, Nat.le_trans h.size h2.size, fun k hk hn => (h2.block k (Nat.lt_of_lt_of_le hk h.size) (fun g => hn (hG k g hk))).trans (h.block k hk hn)⟩
theorem Stays.more {F G : Nat → Prop} {w w' : World} (h : Stays F w w') (hG : ∀ k, F k → G k) : Stays G w w' := ⟨h.os, h.tape, h.output, h.size, fun k hk hn => h.block k hk (fun f => hn (hG k f))⟩
theorem Below.stays {F : Nat → Prop} {w w' : World} (h : Below w.heap.size w w') : Stays F w w' := ⟨h.os, h.tape, h.output, h.size, fun k hk _ => h.block k hk⟩
theorem Stays.below {F : Nat → Prop} {B : Nat} {w w' : World} (h : Stays F w w') (hF : ∀ k, F k → B ≤ k) (hB : B ≤ w.heap.size) : Below B w w' := ⟨h.os, h.tape, h.output, h.size, fun k hk => h.block k (by omega) (fun f => by have := hF k f; omega)⟩
theorem grown_stays {F : Nat → Prop} {r : Option Nat} {w w' : World} (h : w.grownBy w' r) (hF : ∀ k, r = some k → F k) : Stays F w w' := ⟨h.os, h.tape, h.output, h.size, fun k hk hn => h.block k hk (fun e => hn (hF k e.symm))⟩
theorem ownsRow_stays {F : Nat → Prop} {w w' : World} {B size n : Nat} {e : TypeId} {v : Value} {xs : List Value} (h : w.ownsRow B e size v n xs) (hk : Stays F w w') (hne : ∀ k, v.ownBlock = some k → ¬ F k) : w'.ownsRow B e size v n xs := by
  refine ⟨h.1, ?_⟩
  rcases h.2 with h0 | ⟨g, cap, cur, he, hg, hh, r⟩
  · exact Or.inl h0
  · exact Or.inr ⟨g, cap, cur, he, hg, (hk.block g (Array.getElem?_eq_some_iff.1 hh).1 (hne g (by rw [he]; rfl))).trans hh, r⟩
/-- Bytes that lie in a block of D. -/
def LiesIn (D : Nat → Prop) (w : World) (p : Option Addr) (l : List (BitVec 8)) : Prop := l = [] ∨ ∃ b off, p = some ⟨b, off, none⟩ ∧ D b ∧ b < w.heap.size ∧ w.rangeAt b off (bytesV l)
theorem LiesIn.lies {D : Nat → Prop} {w : World} {p : Option Addr} {l : List (BitVec 8)} (h : LiesIn D w p l) : Lies w p l := by
  rcases h with h0 | ⟨b, off, rfl, _, _, hr⟩
  · exact Or.inl h0
  · exact Or.inr ⟨b, off, rfl, hr⟩
theorem LiesIn.more {D E : Nat → Prop} {w : World} {p : Option Addr} {l : List (BitVec 8)} (h : LiesIn D w p l) (hE : ∀ k, D k → k < w.heap.size → E k) : LiesIn E w p l := by
  rcases h with h0 | ⟨b, off, rfl, hd, hb, hr⟩
  · exact Or.inl h0
  · exact Or.inr ⟨b, off, rfl, hE b hd hb, hb, hr⟩
theorem range_of_block {w w' : World} {b off : Nat} {xs : List Value} (h : w.rangeAt b off xs) (hb : w'.heap[b]? = w.heap[b]?) : w'.rangeAt b off xs := fun j v hv => (World.cell?_of_block (a := ⟨b, off + j, none⟩) hb).trans (h j v hv)
theorem LiesIn.keep {D F : Nat → Prop} {w w' : World} {p : Option Addr} {l : List (BitVec 8)} (h : LiesIn D w p l) (hk : Stays F w w') (hD : ∀ k, F k → ¬ D k) : LiesIn D w' p l := by
  rcases h with h0 | ⟨b, off, rfl, hd, hb, hr⟩
  · exact Or.inl h0
  · exact Or.inr ⟨b, off, rfl, hd, Nat.lt_of_lt_of_le hb hk.size, range_of_block hr (hk.block b hb (fun f => hD b f hd))⟩
theorem Lies.stay {b : Nat} {w w' : World} {p : Option Addr} {l : List (BitVec 8)} (h : Lies w p l) (hk : Stays (fun k => k = b) w w') (hb : ∀ (off : Nat) (x : BitVec 8), w.cell? ⟨b, off, none⟩ ≠ some (.int .u8 (n8 x))) : Lies w' p l := by
  rcases h with h0 | ⟨c, off, rfl, hr⟩
  · exact Or.inl h0
  · cases l with
    | nil => exact Or.inl rfl
    | cons x l =>
      have h0 := hr 0 (.int .u8 (n8 x)) rfl
      have h1 : c < w.heap.size := World.block_lt_of_cell? w _ h0
      exact Or.inr ⟨c, off, rfl, range_of_block hr (hk.block c h1 (fun e => by subst e; exact hb _ _ h0))⟩
/-- A slice of bytes that lie in a block of D. -/
def SliceIn (D : Nat → Prop) (w : World) (v : Value) (l : List (BitVec 8)) : Prop := ∃ q c, v = .slice q l.length c ∧ l.length ≤ c ∧ c ≤ maxLen ∧ LiesIn D w q l
theorem SliceIn.keep {D F : Nat → Prop} {w w' : World} {v : Value} {l : List (BitVec 8)} (h : SliceIn D w v l) (hk : Stays F w w') (hD : ∀ k, F k → ¬ D k) : SliceIn D w' v l := by
  obtain ⟨q, c, rfl, h1, h2, h3⟩ := h
  exact ⟨q, c, rfl, h1, h2, h3.keep hk hD⟩
theorem SliceIn.more {D E : Nat → Prop} {w : World} {v : Value} {l : List (BitVec 8)} (h : SliceIn D w v l) (hE : ∀ k, D k → k < w.heap.size → E k) : SliceIn E w v l := by
  obtain ⟨q, c, rfl, h1, h2, h3⟩ := h
  exact ⟨q, c, rfl, h1, h2, h3.more hE⟩
end Go.Proofs.Ytkfkdomjjepmdaa

/-
  A struct built out of its parts, one behind the other; a slice of one struct.
-/
namespace Go.Proofs.Ytkfkdomjjepmdaa
open Go.RowKit Go.Proofs.ShaWords

theorem fold_list (off : Nat) : ∀ (vs : List Value) (k : Nat) (pre m rest : List Value), pre.length = off + k → m.length = vs.length →
    (vs.zipIdx k).foldl (fun (cs : Array Value) x => cs.setIfInBounds (off + x.2) x.1) (pre ++ m ++ rest).toArray = (pre ++ vs ++ rest).toArray
  | [], k, pre, m, rest, _, hm => by
    obtain rfl : m = [] := List.length_eq_zero_iff.1 hm
    simp
  | v :: vs, k, pre, [], rest, _, hm => by simp at hm
  | v :: vs, k, pre, a :: m, rest, hp, hm => by
    rw [List.zipIdx_cons, List.foldl_cons]
    have e : (pre ++ a :: m ++ rest).toArray.setIfInBounds (off + k) v = ((pre ++ [v]) ++ m ++ rest).toArray := by
      rw [List.setIfInBounds_toArray, ← hp, List.append_assoc, List.set_append_right _ _ (Nat.le_refl _), Nat.sub_self]
      simp
    rw [e, fold_list off vs (k + 1) (pre ++ [v]) m rest (by simp; omega) (by simpa using hm)]
    simp
/-- The parts stand one behind the other. -/
def Fits (place : Nat → Option (Nat × Nat)) : Nat → Nat → List Value → Prop
  | _, _, [] => True
  | i, off, v :: vs => place i = some (off, v.cells.size) ∧ Fits place (i + 1) (off + v.cells.size) vs
theorem fill_seq (place : Nat → Option (Nat × Nat)) : ∀ (vs : List Value) (i : Nat) (pre m rest : List Value), Fits place i pre.length vs → m.length = (vs.flatMap (·.cells.toList)).length →
    Instr.fill place (pre ++ m ++ rest).toArray ((vs.zipIdx i).map fun x => (x.2, x.1)) = some (pre ++ vs.flatMap (·.cells.toList) ++ rest).toArray
  | [], i, pre, m, rest, _, hm => by
    obtain rfl : m = [] := List.length_eq_zero_iff.1 hm
    simp [Instr.fill]
  | v :: vs, i, pre, m, rest, hf, hm => by
    rw [List.flatMap_cons, List.length_append] at hm
    obtain ⟨m1, m2, rfl, h1⟩ : ∃ m1 m2, m = m1 ++ m2 ∧ m1.length = v.cells.toList.length := ⟨m.take v.cells.toList.length, m.drop v.cells.toList.length, (List.take_append_drop _ _).symm, by rw [List.length_take]; omega⟩
    rw [List.length_append, h1] at hm
    rw [List.zipIdx_cons, List.map_cons, Instr.fill]
    simp only [hf.1]
    have hs : ¬ (v.cells.size ≠ v.cells.size || decide (pre.length + v.cells.size > (pre ++ (m1 ++ m2) ++ rest).toArray.size)) = true := by
      simp only [List.size_toArray, List.length_append, h1, Array.length_toList]
      simp
      omega
    rw [if_neg (by simpa using hs)]
    have e : v.cells.zipIdx.foldl (fun cs x => cs.setIfInBounds (pre.length + x.2) x.1) (pre ++ (m1 ++ m2) ++ rest).toArray = ((pre ++ v.cells.toList) ++ m2 ++ rest).toArray := by
      rw [← Array.foldl_toList, Array.toList_zipIdx]
      have h := fold_list pre.length v.cells.toList 0 pre m1 (m2 ++ rest) rfl h1
      have e1 : pre ++ (m1 ++ m2) ++ rest = pre ++ m1 ++ (m2 ++ rest) := by simp
      rw [e1, h]
      simp
    have ih := fill_seq place vs (i + 1) (pre ++ v.cells.toList) m2 rest (by rw [List.length_append, Array.length_toList]; exact hf.2) (by omega)
    rw [e, ih]
    simp
end Go.Proofs.Ytkfkdomjjepmdaa

/-
  bytes.Clone and bytes.Equal, of bytes that lie anywhere.
-/
namespace Go.Proofs.Ytkfkdomjjepmdaa
open Go.RowKit Go.Proofs.ShaWords
/-- A list of bytes as a string. -/
def strB (l : List (BitVec 8)) : ByteArray := strOfNums (l.map n8)
theorem strB_list (l : List (BitVec 8)) : (strB l).toList = l.map UInt8.ofBitVec := by
  unfold strB
  rw [Lib.strOfNums_toList]
  unfold Lib.bytesOf
  rw [List.map_map]
  refine List.map_congr_left fun x _ => ?_
  show UInt8.ofNat (n8 x).toNat = _
  unfold n8
  simp
theorem run_strB {w : World} {p : Option Addr} {l : List (BitVec 8)} (h : Lies w p l) (n c : Nat) (hn : l.length = n) : (convert 44 9 (.slice p n c)).run Try.prog w = .ok (.string (strB l)) w := by
  subst hn
  rcases h with h0 | ⟨b, off, rfl, hr⟩
  · subst h0
    show (convert 44 9 (.slice p 0 c)).run Try.prog w = _
    rw [run_convert_bytes_string (P := Try.prog) w 44 9 5 p 0 c Try.underlying44 Try.underlying5 Try.underlying9]
    cases p <;> simp [Conv.bytesToString, loadCells] <;> rfl
  · exact run_convert_bytes_arg (P := Try.prog) w 44 5 Try.underlying44 Try.underlying5 b off l.length c (l.map n8) (by simp) (fun i hi => hr i _ (by simp [bytesV, hi])) 9 Try.underlying9
end Go.Proofs.Ytkfkdomjjepmdaa

/-
  Bytes appended to a slice of one's own, and bytes copied into its midst: which block changes.
-/
namespace Go.Proofs.Ytkfkdomjjepmdaa
open Go.RowKit Go.Proofs.ShaWords
end Go.Proofs.Ytkfkdomjjepmdaa

/-
  A region that draws its order, carried out along one list of its operations, where a store z changes what operations ahead of it read: what holds at all times (S), and what holds until z (E).
-/
namespace Go.Proofs.Ytkfkdomjjepmdaa
open Go.RowKit Go.Proofs.ShaWords

/-- Whatever order is picked from here on: behind every operation S holds, and E as long as z has not come up. -/
def wpAnyE (P : Program) (ops : Array Oper) (Q : Exit → Act → World → Prop) (S E : World → Prop) (z : Nat) : Nat → Array Bool → Act → World → Prop
  | 0, L, a, w => Region.ready .any ops L = [] ∧ Q .normal a w
  | f + 1, L, a, w => (Region.ready .any ops L = [] → Q .normal a w) ∧
    ∀ i ∈ Region.ready .any ops L, wpOp P ops Q i (fun a' w' => (S w' ∧ ((L.setIfInBounds i true).getD z true = false → E w')) ∧ wpAnyE P ops Q S E z f (L.setIfInBounds i true) a' w') a w

section
variable {P : Program} {ops : Array Oper} {Q : Exit → Act → World → Prop} {S E : World → Prop} {z : Nat}
theorem wpAny_of_E : ∀ (fuel : Nat) (L : Array Bool) (a : Act) (w : World), wpAnyE P ops Q S E z fuel L a w → wpAny P .any ops Q fuel L a w
  | 0, _, _, _, h => h
  | fuel + 1, _, _, _, h => ⟨h.1, fun i hi => wpOp_mono (fun a' w' h' => wpAny_of_E fuel _ a' w' h'.2) (h.2 i hi)⟩

/-- An operation that may come up now may be taken first: at all times (b false), or because z waits for it (b true). -/
theorem wpAnyE_first {i : Nat} {oi : Oper} {v : Value} (b : Bool) (hi : ops[i]? = some oi) (hsel : ∀ (j : Nat) (o : Oper) cs b, ops[j]? = some o → o.op ≠ .select cs b)
    (hQ : ∀ c a w, Q (.panic c) (a.put oi.dst v) w → Q (.panic c) a w) (hz : b = true → Region.waitsFor .any ops z i = true) (hzi : z ≠ i) :
    ∀ (fuel : Nat) (L : Array Bool) (a : Act) (w : World),
      (∀ j oj, ops[j]? = some oj → j ≠ i → L.getD j true = false → (∀ e ∈ oj.after, Region.binds .any e = true → e.on ≠ i) → oi.apart ops oj = true) →
      i ∈ Region.ready .any ops L → (b = true → L.getD z true = false) → YieldsIf P ops (fun w => S w ∧ (b = true → E w)) oi v a → S w → (L.getD z true = false → E w) →
      wpAnyE P ops Q S E z fuel (L.setIfInBounds i true) (a.put oi.dst v) w → wpAnyE P ops Q S E z (fuel + 1) L a w := by
  intro fuel
  induction fuel with
  | zero =>
    intro L a w _ hr hzl hy hS hE H
    refine ⟨fun h => (by rw [h] at hr; cases hr), fun j hj => ?_⟩
    by_cases hji : j = i
    · subst hji
      refine hy.wpOp hi ⟨hS, fun hb => hE (hzl hb)⟩ ⟨⟨hS, fun h => hE ?_⟩, H⟩
      by_cases hjz : j = z
      · subst hjz
        have hlt : j < L.size := by
          rcases Nat.lt_or_ge j L.size with h' | h'
          · exact h'
          · simp at h
        simp [hlt] at h
      · rw [getD_set_ne true hjz] at h; exact h
    · have := ready_mono hj hji
      rw [H.1] at this
      cases this
  | succ fuel ih =>
    intro L a w hfree hr hzl hy hS hE H
    refine ⟨fun h => (by rw [h] at hr; cases hr), fun j hj => ?_⟩
    by_cases hji : j = i
    · subst hji
      refine hy.wpOp hi ⟨hS, fun hb => hE (hzl hb)⟩ ⟨⟨hS, fun h => hE ?_⟩, H⟩
      by_cases hjz : j = z
      · subst hjz
        have hlt : j < L.size := by
          rcases Nat.lt_or_ge j L.size with h' | h'
          · exact h'
          · simp at h
        simp [hlt] at h
      · rw [getD_set_ne true hjz] at h; exact h
    · have h1 := H.2 j (ready_mono hj hji)
      obtain ⟨hjun, oj, hoj, hall⟩ := mem_ready.1 hj
      have hun : L.getD i false = false := getD_both (mem_ready.1 hr).1
      have hnot : ∀ e ∈ oj.after, Region.binds .any e = true → e.on ≠ i := fun e he hb heq => by
        have h1 := hall e he hb
        rw [heq, hun] at h1; cases h1
      have hjz : b = true → j ≠ z := fun hb e => by
        subst e
        obtain ⟨oz, hoz, e, he, hbd, hon⟩ := Region.waitsFor_spec (hz hb)
        rw [hoj] at hoz; cases hoz
        exact hnot e he hbd hon
      have hset : ((L.setIfInBounds i true).setIfInBounds j true) = ((L.setIfInBounds j true).setIfInBounds i true) := Array.setIfInBounds_comm _ _ (Ne.symm hji)
      have h2 := wpOp_putIf hoj (hfree j oj hoj hji hjun hnot) (fun cs b => hsel i oi cs b hi) (fun cs b => hsel j oj cs b hoj) hQ hy h1
      have hfree' : ∀ k ok, ops[k]? = some ok → k ≠ i → (L.setIfInBounds j true).getD k true = false →
          (∀ e ∈ ok.after, Region.binds .any e = true → e.on ≠ i) → oi.apart ops ok = true := fun k ok hk hki hun hno => by
        refine hfree k ok hk hki ?_ hno
        by_cases hjk : j = k
        · subst hjk; exact hjun
        · rw [getD_set_ne true hjk] at hun; exact hun
      have hE' : ∀ w' : World, (((L.setIfInBounds i true).setIfInBounds j true).getD z true = false → E w') → (L.setIfInBounds j true).getD z true = false → (b = true ∨ z ≠ i) → E w' := fun w' h h0 hbz => by
        refine h ?_
        rw [hset]
        have hiz : i ≠ z := by
          rcases hbz with hb | hb
          · intro e; subst e
            have hj2 := hzl hb
            obtain ⟨oz, hoz, e, he, hbd, hon⟩ := Region.waitsFor_spec (hz hb)
            have := (mem_ready.1 hr).2
            obtain ⟨o', ho', ha⟩ := this
            rw [hoz] at ho'; cases ho'
            have h3 := ha e he hbd
            rw [hon, hun] at h3; cases h3
          · exact fun e => hb e.symm
        rw [getD_set_ne true hiz]; exact h0
      refine wpOp_mono (fun a' w' h3 => ⟨⟨h3.2.1.1, fun h => hE' w' h3.2.1.2 h (.inr hzi)⟩, ih (L.setIfInBounds j true) a' w' hfree' (ready_mono hr (Ne.symm hji)) (fun hb => by rw [getD_set_ne true (hjz hb)]; exact hzl hb) h3.1 h3.2.1.1 (fun h => hE' w' h3.2.1.2 h (.inr hzi)) ?_⟩) h2
      rw [← hset]
      exact h3.2.2
theorem wpAnyE_all {rs : List Nat} {fuel : Nat} {L : Array Bool} {a : Act} {w : World} (hr : Region.ready .any ops L = rs) (hne : rs ≠ [])
    (h : ∀ i ∈ rs, wpOp P ops Q i (fun a' w' => (S w' ∧ ((L.setIfInBounds i true).getD z true = false → E w')) ∧ wpAnyE P ops Q S E z fuel (L.setIfInBounds i true) a' w') a w) : wpAnyE P ops Q S E z (fuel + 1) L a w :=
  ⟨fun h0 => absurd (hr ▸ h0) hne, hr ▸ h⟩
theorem wpAnyE_done {L : Array Bool} {a : Act} {w : World} (hr : Region.ready .any ops L = []) (h : Q .normal a w) : ∀ fuel, wpAnyE P ops Q S E z fuel L a w
  | 0 => ⟨hr, h⟩
  | _ + 1 => ⟨fun _ => h, by rw [hr]; simp⟩
end

/-- How an operation of the list is met: it yields at all times; it yields until z; it stands alone ahead of z; it stands alone, z or behind it. -/
inductive Met where
  | free
  | early
  | before
  | behind
def phaseOk (ops : Array Oper) (z : Nat) : List (Nat × Met) → Array Bool → Bool
  | [], L => (Region.ready .any ops L).isEmpty
  | (i, .free) :: r, L => Region.free .any ops L i && (Region.ready .any ops L).contains i && decide (z ≠ i) && phaseOk ops z r (L.setIfInBounds i true)
  | (i, .early) :: r, L => Region.free .any ops L i && (Region.ready .any ops L).contains i && decide (z ≠ i) && Region.waitsFor .any ops z i && !L.getD z true && phaseOk ops z r (L.setIfInBounds i true)
  | (i, .before) :: r, L => decide (Region.ready .any ops L = [i]) && phaseOk ops z r (L.setIfInBounds i true)
  | (i, .behind) :: r, L => decide (Region.ready .any ops L = [i]) && (L.setIfInBounds i true).getD z true && phaseOk ops z r (L.setIfInBounds i true)
def wpE (P : Program) (ops : Array Oper) (Q : Exit → Act → World → Prop) (S E : World → Prop) : List (Nat × Met) → Act → World → Prop
  | [], a, w => Q .normal a w
  | (i, .free) :: r, a, w => ∃ o v, ops[i]? = some o ∧ YieldsIf P ops S o v a ∧ wpE P ops Q S E r (a.put o.dst v) w
  | (i, .early) :: r, a, w => ∃ o v, ops[i]? = some o ∧ YieldsIf P ops (fun w => S w ∧ E w) o v a ∧ wpE P ops Q S E r (a.put o.dst v) w
  | (i, .before) :: r, a, w => wpOp P ops Q i (fun a' w' => (S w' ∧ E w') ∧ wpE P ops Q S E r a' w') a w
  | (i, .behind) :: r, a, w => wpOp P ops Q i (fun a' w' => S w' ∧ wpE P ops Q S E r a' w') a w
section
variable {P : Program} {ops : Array Oper} {Q : Exit → Act → World → Prop} {S E : World → Prop} {z : Nat}
theorem getD_of_set {L : Array Bool} {i z : Nat} (h : (L.setIfInBounds i true).getD z true = false) : L.getD z true = false := by
  by_cases hiz : i = z
  · subst hiz
    have hlt : i < L.size := by
      rcases Nat.lt_or_ge i L.size with h' | h'
      · exact h'
      · simp at h
    simp [hlt] at h
  · rw [getD_set_ne true hiz] at h; exact h
theorem wpAnyE_phase (hs : Region.noSelect ops = true) (hQ : ∀ c a w, ¬ Q (.panic c) a w) :
    ∀ (r : List (Nat × Met)) (L : Array Bool) (a : Act) (w : World), phaseOk ops z r L = true → S w → (L.getD z true = false → E w) → wpE P ops Q S E r a w → wpAnyE P ops Q S E z r.length L a w
  | [], L, a, w, hc, _, _, h => by
    simp only [phaseOk, List.isEmpty_iff] at hc
    exact wpAnyE_done hc h 0
  | (i, .free) :: r, L, a, w, hc, hS, hE, h => by
    simp only [phaseOk, Bool.and_eq_true, decide_eq_true_eq] at hc
    obtain ⟨o, v, ho, hy, h⟩ := h
    exact wpAnyE_first false ho (Region.noSelect_spec hs) (fun c a w h => absurd h (hQ c _ w)) (by simp) hc.1.2 r.length L a w (Region.free_spec ho hc.1.1.1) (by simpa using hc.1.1.2) (by simp)
      (hy.imp (fun ⟨h1, h2⟩ => ⟨h1, fun w hw => h2 w hw.1⟩) id) hS hE (wpAnyE_phase hs hQ r _ _ w hc.2 hS (fun h0 => hE (getD_of_set h0)) h)
  | (i, .early) :: r, L, a, w, hc, hS, hE, h => by
    simp only [phaseOk, Bool.and_eq_true, decide_eq_true_eq, Bool.not_eq_true'] at hc
    obtain ⟨o, v, ho, hy, h⟩ := h
    exact wpAnyE_first true ho (Region.noSelect_spec hs) (fun c a w h => absurd h (hQ c _ w)) (fun _ => hc.1.1.2) hc.1.1.1.2 r.length L a w (Region.free_spec ho hc.1.1.1.1.1) (by simpa using hc.1.1.1.1.2) (fun _ => hc.1.2)
      (hy.imp (fun ⟨h1, h2⟩ => ⟨h1, fun w hw => h2 w ⟨hw.1, hw.2 rfl⟩⟩) id) hS hE (wpAnyE_phase hs hQ r _ _ w hc.2 hS (fun h0 => hE (getD_of_set h0)) h)
  | (i, .before) :: r, L, a, w, hc, hS, hE, h => by
    simp only [phaseOk, Bool.and_eq_true, decide_eq_true_eq] at hc
    refine wpAnyE_all hc.1 (by simp) (fun j hj => ?_)
    rw [List.mem_singleton.1 hj]
    exact wpOp_mono (fun a' w' h' => ⟨⟨h'.1.1, fun _ => h'.1.2⟩, wpAnyE_phase hs hQ r _ a' w' hc.2 h'.1.1 (fun _ => h'.1.2) h'.2⟩) h
  | (i, .behind) :: r, L, a, w, hc, hS, hE, h => by
    simp only [phaseOk, Bool.and_eq_true, decide_eq_true_eq] at hc
    refine wpAnyE_all hc.1.1 (by simp) (fun j hj => ?_)
    rw [List.mem_singleton.1 hj]
    exact wpOp_mono (fun a' w' h' => ⟨⟨h'.1, fun h0 => by rw [hc.1.2] at h0; cases h0⟩, wpAnyE_phase hs hQ r _ a' w' hc.2 h'.1 (fun h0 => by rw [hc.1.2] at h0; cases h0) h'.2⟩) h
theorem region_phase {id : Nat} {a : Act} {w : World} (S E : World → Prop) (z : Nat) (hS : S w.drew) (hE : E w.drew) (r : List (Nat × Met)) (hm : P.follows .mixedOrders = true) (hs : Region.noSelect ops = true)
    (hl : r.length = ops.size) (hc : phaseOk ops z r (Array.replicate ops.size false) = true)
    (h : ∀ ops', ops' = ops → ∀ A, A = a → wpE P ops' (NoPanic Q) S E r A w.drew) : (Code.region id ops true).wp P Q a w := by
  refine wp_region_noPanic (wp_region_any hm (wpAny_of_E (S := S) (E := E) (z := z) _ _ _ _ ?_))
  rw [← hl]
  exact wpAnyE_phase hs (fun c a w h => h) r _ a w.drew (hl ▸ hc) hS (fun _ => hE) (h ops rfl a rfl)
end

section
variable {P : Program} {ops : Array Oper} {Q : Exit → Act → World → Prop} {S E : World → Prop} {r : List (Nat × Met)} {i : Nat} {o : Oper} {d : Option Tmp} {v : Value} {a : Act} {w w' : World}
theorem met_free (ho : ops[i]? = some o) (hd : o.dst = d) (hw : Region.wanted o (yielded ops a.tmps) = true) (hr : ∀ w, S w → (execOp a.eval o).run P w = .ok (.value v) w) (h : wpE P ops Q S E r (a.put d v) w) : wpE P ops Q S E ((i, .free) :: r) a w :=
  ⟨o, v, ho, .inl ⟨hw, hr⟩, by rw [hd]; exact h⟩
theorem met_op (ho : ops[i]? = some o) (hd : o.dst = d) (hw : Region.wanted o (yielded ops a.tmps) = true) (hr : (execOp a.eval o).run P w = .ok (.value v) w') (hS : S w') (h : wpE P ops Q S E r (a.put d v) w') : wpE P ops Q S E ((i, .behind) :: r) a w := by
  show wpOp P ops Q i _ a w
  unfold wpOp
  rw [ho]
  show if Region.wanted o (yielded ops a.tmps) = true then _ else _
  rw [if_pos hw]
  refine .inl ?_
  unfold Oper.wp
  rw [hr, Oper.upon_value, hd]
  exact ⟨hS, h⟩
end
end Go.Proofs.Ytkfkdomjjepmdaa

/-
  Steps of region_phase for every kind of operation: calls, values, operations that are not wanted.
-/
namespace Go.Proofs.Ytkfkdomjjepmdaa
open Go.RowKit Go.Proofs.ShaWords
section
variable {P : Program} {ops : Array Oper} {Q : Exit → Act → World → Prop} {S E : World → Prop} {r : List (Nat × Met)} {i : Nat} {o : Oper} {d : Option Tmp} {v : Value} {a : Act} {w w' : World}
theorem m_behind (ho : ops[i]? = some o) (hw : Region.wanted o (yielded ops a.tmps) = true)
    (h : o.wp P a w (fun a' w' => S w' ∧ wpE P ops Q S E r a' w') Q) : wpE P ops Q S E ((i, .behind) :: r) a w := by
  show wpOp P ops Q i _ a w
  unfold wpOp
  rw [ho]
  show if Region.wanted o (yielded ops a.tmps) = true then _ else _
  rw [if_pos hw]
  exact .inl h
theorem m_enter {f : FuncId} {args : Array Value} {R : Ending → World → Prop} (ho : ops[i]? = some o) (hd : o.dst = d) (hw : Region.wanted o (yielded ops a.tmps) = true) (hr : (execOp a.eval o).run P w = .ok (.enter f args) w) (hc : Calls P f args w R)
    (h : ∀ e w', R e w' → ∃ v, e = .returned v ∧ S w' ∧ wpE P ops Q S E r (a.put d v) w') : wpE P ops Q S E ((i, .behind) :: r) a w := by
  refine m_behind ho hw ?_
  unfold Oper.wp
  rw [hr, Oper.upon_enter]
  refine hc.mono ?_
  rintro e w' hR
  obtain ⟨v, rfl, hS, h⟩ := h e w' hR
  rw [hd]
  exact ⟨hS, h⟩
theorem m_unwanted (ho : ops[i]? = some o) (hd : o.dst = d) (hw : Region.wanted o (yielded ops a.tmps) = false) (h : wpE P ops Q S E r (a.put d undef) w) : wpE P ops Q S E ((i, .free) :: r) a w :=
  ⟨o, undef, ho, .inr ⟨hw, rfl⟩, by rw [hd]; exact h⟩
theorem m_skipped (ho : ops[i]? = some o) (hd : o.dst = d) (hw : Region.wanted o (yielded ops a.tmps) = false) (h : S w ∧ wpE P ops Q S E r (a.put d undef) w) : wpE P ops Q S E ((i, .behind) :: r) a w := by
  show wpOp P ops Q i _ a w
  unfold wpOp
  rw [ho]
  show if Region.wanted o (yielded ops a.tmps) = true then _ else _
  rw [if_neg (by rw [hw]; decide), hd]
  exact h
theorem tmp_at {t : Nat} {b : Bool} (he : a.eval (.tmp t) = .bool b) : a.tmps[t]? = some (.bool b) := by
  have h3 : a.tmps.getD t undef = .bool b := he
  rw [Array.getD_eq_getD_getElem?] at h3
  cases h4 : a.tmps[t]? with
  | none => rw [h4] at h3; exact absurd h3 (by simp [undef])
  | some u => rw [h4] at h3; simp at h3; rw [h3]
theorem w_false {j : Nat} {dj : Tmp} {oj : Oper} (hg : o.guard = some (j, false)) (hj : ops[j]? = some oj) (hd : oj.dst = some dj) (he : a.eval (.tmp dj) = .bool false) : Region.wanted o (yielded ops a.tmps) = true := by
  have h2 := tmp_at he
  unfold Region.wanted
  rw [hg]
  simp only [yielded, hj, Option.bind_some, hd, h2]
  rfl
theorem w_not {j : Nat} {dj : Tmp} {oj : Oper} (hg : o.guard = some (j, true)) (hj : ops[j]? = some oj) (hd : oj.dst = some dj) (he : a.eval (.tmp dj) = .bool false) : Region.wanted o (yielded ops a.tmps) = false := by
  have h2 := tmp_at he
  unfold Region.wanted
  rw [hg]
  simp only [yielded, hj, Option.bind_some, hd, h2]
  rfl
end
section
variable {P : Program} {ρ : Operand → Value} {o : Oper} {x y c : Operand} {v : Value}
theorem r_not {b : Bool} {ty : TypeId} (ho : o.op = .unOp .not ty x) (hx : ρ x = .bool b) (w : World) : (execOp ρ o).run P w = .ok (.value (.bool (!b))) w := by
  obtain ⟨dst, op, ty', pos, after, guard⟩ := o
  simp only at ho
  subst ho
  go_simp
theorem r_pickF (ho : o.op = .pick c x y) (hc : ρ c = .bool false) (h : ρ y = v) (w : World) : (execOp ρ o).run P w = .ok (.value v) w := by
  unfold execOp; simp only [ho, hc, h, Sem.run_bind]; rfl
end
end Go.Proofs.Ytkfkdomjjepmdaa

/-
  Steps of region_phase ahead of the store that ends what is read early.
-/
namespace Go.Proofs.Ytkfkdomjjepmdaa
open Go.RowKit Go.Proofs.ShaWords
section
variable {P : Program} {ops : Array Oper} {Q : Exit → Act → World → Prop} {S E : World → Prop} {r : List (Nat × Met)} {i : Nat} {o : Oper} {d : Option Tmp} {v : Value} {a : Act} {w w' : World}
end
section
variable {ρ : Operand → Value} {o : Oper} {x y : Operand} {w : World}
theorem run_fieldT {T : TypeId} {f off b : Nat} (ho : o.op = .fieldAddr T x f) (hf : ∀ w, (Instr.fieldAt T (.pointer (some ⟨b, 0, none⟩)) f).run Try.prog w = .ok (.pointer (some ⟨b, off, none⟩)) w) (h : ρ x = .pointer (some ⟨b, 0, none⟩)) (w : World) :
    (execOp ρ o).run Try.prog w = .ok (.value (.pointer (some ⟨b, off, none⟩))) w := by
  unfold execOp; simp only [ho, h, Sem.run_bind, hf, Result.andThen_ok, Sem.run_pure]
end
end Go.Proofs.Ytkfkdomjjepmdaa

/-
  What the rows share: the program's own knobs; bytes out of a slice that came in; arrays of bytes and numbers that came in.
-/
namespace Go.Proofs.Ytkfkdomjjepmdaa
open Go.ChangeShapes Go.WideShapes Go.ChangeAt Go.RowKit Go.Proofs.ShaWords Go.Deep

theorem own : ownKnob Try.prog.godebug = none := by kernel_rfl
end Go.Proofs.Ytkfkdomjjepmdaa

/-
  Slices of structs, of one's own: a slice of one struct, and one more behind such a slice.
-/
namespace Go.Proofs.Ytkfkdomjjepmdaa
open Go.RowKit Go.Proofs.ShaWords
/-- A struct type of N cells and Z bytes, and the slices of it. -/
structure ElemT (tr ts : TypeId) (N Z : Nat) : Prop where
  sl : Try.prog.underlying ts = some (.slice tr)
  info : ∃ i z, Try.prog.info? tr = some i ∧ i.zero = some z ∧ i.size = N ∧ z.cells.size = N ∧ i.bytes = Z
  pos : 0 < N
  few : N ≤ 1000 ∧ Z ≤ 10000
theorem elemInfo {tr : TypeId} {N Z : Nat} (h1 : (Try.prog.info? tr).isSome = true) (h2 : (Try.prog.info? tr).map (fun i => (i.zero.map (·.cells.size), i.size, i.bytes)) = some (some N, N, Z)) : ∃ i z, Try.prog.info? tr = some i ∧ i.zero = some z ∧ i.size = N ∧ z.cells.size = N ∧ i.bytes = Z := by
  cases hi : Try.prog.info? tr with
  | none => rw [hi] at h1; cases h1
  | some i =>
    rw [hi] at h2
    simp only [Option.map_some, Option.some.injEq, Prod.mk.injEq] at h2
    cases hz : i.zero with
    | none => rw [hz] at h2; simp at h2
    | some z =>
      rw [hz] at h2
      simp only [Option.map_some, Option.some.injEq] at h2
      exact ⟨i, z, rfl, hz, h2.2.1, h2.1, h2.2.2⟩
section
variable {tr ts : TypeId} {N Z : Nat} {ρ : Operand → Value} {o : Oper} {w : World}
theorem ElemT.run_one (T : ElemT tr ts N Z) {x : Operand} {C : Array Value} (ho : o.op = .buildSlice ts 1 #[(0, x)]) (hx : ρ x = .agg C) (hC : C.size = N) (w : World) :
    (execOp ρ o).run Try.prog w = .ok (.value (.slice (some ⟨w.heap.size, 0, none⟩) 1 1)) (w.alloc (.cells C tr)) := by
  obtain ⟨i, z, hi, hz, hs, hzs, -⟩ := T.info
  have hN := T.few
  have hca : (Value.agg C).cells = C := rfl
  have hf : Instr.fill (fun j => some (j * i.size, i.size)) ((Array.range (1 * i.size)).map (z.cells[· % z.cells.size]!)) [(0, .agg C)] = some C := by
    have h := fill_seq (fun j => some (j * i.size, i.size)) [.agg C] 0 [] ((Array.range (1 * i.size)).map (z.cells[· % z.cells.size]!)).toList [] (by simp [Fits, hca, hC, hs]) (by simp [hca, hC, hs])
    rw [List.nil_append, List.append_nil, Array.toArray_toList] at h
    exact h.trans (by simp [hca])
  have hr := run_buildSlice (P := Try.prog) w ts tr 1 #[(0, .agg C)] C i z T.sl hi hz (by rw [hs, Nat.one_mul]; omega) (by rw [hs, Nat.one_mul]; have := T.pos; omega) hf
  obtain ⟨dst, op, ty', pos, after, guard⟩ := o
  simp only at ho
  subst ho
  unfold execOp
  simp only [List.map_toArray, List.map_cons, List.map_nil, hx, Sem.run_bind, hr, Result.andThen_ok, Sem.run_pure]
theorem ElemT.run_append (T : ElemT tr ts N Z) {s x : Operand} {base g n : Nat} {v : Value} {xs : List Value} {C : Array Value} (ho : o.op = .call { callee := .builtin .append, args := #[s, x], argTypes := #[ts, ts] }) (hs : ρ s = v) (hown : w.ownsRow base tr N v n xs)
    (hx : ρ x = .slice (some ⟨g, 0, none⟩) 1 1) (hc : w.heap[g]? = some (.cells C tr (0, 0))) (hC : C.size = N) (h1 : ∀ u ∈ C.toList, u.oneCell' = true) (hn : n ≤ 1000000) (hb : base ≤ w.heap.size) :
    ∃ v' w', (execOp ρ o).run Try.prog w = .ok (.value v') w' ∧ w'.ownsRow base tr N v' (n + 1) (xs ++ C.toList) ∧ w.grownBy w' v.ownBlock ∧ (v'.ownBlock = v.ownBlock ∨ v'.ownBlock = some w.heap.size) := by
  obtain ⟨it, z, hit, hz, hsz, hzs, hby⟩ := T.info
  have hN := T.few
  have hN1 := T.pos
  obtain ⟨dst, op, ty', pos, after, guard⟩ := o
  simp only at ho
  subst ho
  have hbd : (n + 1) * Z ≤ 1000001 * 10000 := Nat.mul_le_mul (by omega) hN.2
  obtain ⟨v', w', hr, h2, h3, -, h5⟩ := run_append_own_at (P := Try.prog) (w := w) base ts ty' tr it z N Z T.sl hit hz hsz hby hzs (by omega) v n xs hown ⟨g, 0, none⟩ 1 1 C.toList (by rw [Array.length_toList, hC, Nat.one_mul]) (fun j u hu => by
    rw [Addr.add_mid, Nat.zero_add, cell_of_row w g j C tr (0, 0) hc]
    simpa using hu) h1 (by unfold maxLen; omega) (by omega) hb
  refine ⟨v', w', ?_, h2, h3, h5⟩
  unfold execOp
  simp only [resolve, invoke, builtin, Sem.run_bind, Sem.run_pure, Result.andThen_ok, List.map_toArray, List.map_cons, List.map_nil, hs, hx, hr]
theorem ElemT.wpList_append (T : ElemT tr ts N Z) {ops : Array Oper} {rest : List Oper} {a : Act} {Q : Exit → Act → World → Prop} (hw : Region.wanted o (yielded ops a.tmps) = true) {s x : Operand} {base g n : Nat} {v : Value} {xs : List Value} {C : Array Value} (ho : o.op = .call { callee := .builtin .append, args := #[s, x], argTypes := #[ts, ts] }) (hs : a.eval s = v) (hown : w.ownsRow base tr N v n xs)
    (hx : a.eval x = .slice (some ⟨g, 0, none⟩) 1 1) (hc : w.heap[g]? = some (.cells C tr (0, 0))) (hC : C.size = N) (h1 : ∀ u ∈ C.toList, u.oneCell' = true) (hn : n ≤ 1000000) (hb : base ≤ w.heap.size)
    (h : ∀ v' w', w'.ownsRow base tr N v' (n + 1) (xs ++ C.toList) → w.grownBy w' v.ownBlock → (v'.ownBlock = v.ownBlock ∨ v'.ownBlock = some w.heap.size) → wpList Try.prog ops Q rest (a.put o.dst v') w') : wpList Try.prog ops Q (o :: rest) a w := by
  obtain ⟨v', w', hr, h2, h3, h4⟩ := T.run_append (ρ := a.eval) ho hs hown hx hc hC h1 hn hb
  unfold wpList
  rw [if_pos hw]
  refine .inl ?_
  unfold Oper.wp
  rw [hr, Oper.upon_value]
  exact h v' w' h2 h3 h4
end
end Go.Proofs.Ytkfkdomjjepmdaa

/-
  Two arrays of bytes compared; a step of a region by what it yields.
-/
namespace Go.Proofs.Ytkfkdomjjepmdaa
open Go.RowKit Go.Proofs.ShaWords
theorem wpList_run {P : Program} {ops : Array Oper} {rest : List Oper} {o : Oper} {a : Act} {w : World} {Q : Exit → Act → World → Prop} {v : Value} (hw : Region.wanted o (yielded ops a.tmps) = true) (hr : (execOp a.eval o).run P w = .ok (.value v) w)
    (h : wpList P ops Q rest (a.put o.dst v) w) : wpList P ops Q (o :: rest) a w := by
  unfold wpList
  rw [if_pos hw]
  refine .inl ?_
  unfold Oper.wp
  rw [hr, Oper.upon_value]
  exact h
end Go.Proofs.Ytkfkdomjjepmdaa

/-
  A region that draws its order, carried out along a tree: where two of its operations that are not plain may come up, both ways are gone.
-/
namespace Go.Proofs.Ytkfkdomjjepmdaa
open Go.RowKit Go.Proofs.ShaWords

inductive Tr
  | nil
  | pure (i : Nat) (t : Tr)
  | one (i : Nat) (t : Tr)
  | two (i j : Nat) (s t : Tr)
def Tr.ok (ops : Array Oper) : Tr → Nat → Array Bool → Bool
  | .nil, 0, L => (Region.ready .any ops L).isEmpty
  | .pure i t, n + 1, L => Region.free .any ops L i && (Region.ready .any ops L).contains i && t.ok ops n (L.setIfInBounds i true)
  | .one i t, n + 1, L => decide (Region.ready .any ops L = [i]) && t.ok ops n (L.setIfInBounds i true)
  | .two i j s t, n + 1, L => decide (Region.ready .any ops L = [i, j]) && s.ok ops n (L.setIfInBounds i true) && t.ok ops n (L.setIfInBounds j true)
  | _, _, _ => false
def Tr.wp (P : Program) (ops : Array Oper) (Q : Exit → Act → World → Prop) (S : World → Prop) : Tr → Act → World → Prop
  | .nil, a, w => Q .normal a w
  | .pure i t, a, w => ∃ o v, ops[i]? = some o ∧ YieldsIf P ops S o v a ∧ t.wp P ops Q S (a.put o.dst v) w
  | .one i t, a, w => wpOp P ops Q i (fun a' w' => S w' ∧ t.wp P ops Q S a' w') a w
  | .two i j s t, a, w => wpOp P ops Q i (fun a' w' => S w' ∧ s.wp P ops Q S a' w') a w ∧ wpOp P ops Q j (fun a' w' => S w' ∧ t.wp P ops Q S a' w') a w
theorem wpAnyH_tree {P : Program} {ops : Array Oper} {Q : Exit → Act → World → Prop} {S : World → Prop} (hs : Region.noSelect ops = true) (hQ : ∀ c a w, ¬ Q (.panic c) a w) :
    ∀ (r : Tr) (n : Nat) (L : Array Bool) (a : Act) (w : World), r.ok ops n L = true → S w → r.wp P ops Q S a w → wpAnyH P .any ops Q S n L a w
  | .nil, 0, L, a, w, hc, _, h => by
    simp only [Tr.ok, List.isEmpty_iff] at hc
    exact wpAnyH_done hc h 0
  | .pure i t, n + 1, L, a, w, hc, hS, h => by
    simp only [Tr.ok, Bool.and_eq_true] at hc
    obtain ⟨o, v, ho, hy, h⟩ := h
    exact wpAnyH_take ho hs hc.1.1 hc.1.2 (fun c a w h => absurd h (hQ c _ w)) hy hS (wpAnyH_tree hs hQ t n _ _ w hc.2 hS h)
  | .one i t, n + 1, L, a, w, hc, hS, h => by
    simp only [Tr.ok, Bool.and_eq_true, decide_eq_true_eq] at hc
    refine wpAnyH_all hc.1 (by simp) (fun j hj => ?_)
    rw [List.mem_singleton.1 hj]
    exact wpOp_mono (fun a' w' h' => ⟨h'.1, wpAnyH_tree hs hQ t n _ a' w' hc.2 h'.1 h'.2⟩) h
  | .two i j s t, n + 1, L, a, w, hc, hS, h => by
    simp only [Tr.ok, Bool.and_eq_true, decide_eq_true_eq] at hc
    refine wpAnyH_all hc.1.1 (by simp) (fun k hk => ?_)
    rcases List.mem_cons.1 hk with rfl | hk
    · exact wpOp_mono (fun a' w' h' => ⟨h'.1, wpAnyH_tree hs hQ s n _ a' w' hc.1.2 h'.1 h'.2⟩) h.1
    · rw [List.mem_singleton.1 hk]
      exact wpOp_mono (fun a' w' h' => ⟨h'.1, wpAnyH_tree hs hQ t n _ a' w' hc.2 h'.1 h'.2⟩) h.2
theorem region_tree {P : Program} {id : Nat} {ops : Array Oper} {Q : Exit → Act → World → Prop} {a : Act} {w : World} (S : World → Prop) (hS : S w.drew) (r : Tr) (hm : P.follows .mixedOrders = true) (hs : Region.noSelect ops = true)
    (hc : r.ok ops ops.size (Array.replicate ops.size false) = true)
    (h : ∀ ops', ops' = ops → ∀ A, A = a → r.wp P ops' (NoPanic Q) S A w.drew) : (Code.region id ops true).wp P Q a w := by
  refine wp_region_noPanic (wp_region_held (S := S) hm ?_)
  exact wpAnyH_tree hs (fun c a w h => h) r ops.size _ a w.drew hc hS (h ops rfl a rfl)
section
variable {P : Program} {ops : Array Oper} {Q : Exit → Act → World → Prop} {S : World → Prop} {i : Nat} {o : Oper} {d : Option Tmp} {v : Value} {a : Act} {w w' : World} {K : Act → World → Prop} {t : Tr}
theorem Tr.takes (ho : ops[i]? = some o) (hd : o.dst = d) (hw : Region.wanted o (yielded ops a.tmps) = true) (hr : ∀ w, S w → (execOp a.eval o).run P w = .ok (.value v) w) (h : t.wp P ops Q S (a.put d v) w) : (Tr.pure i t).wp P ops Q S a w :=
  ⟨o, v, ho, .inl ⟨hw, hr⟩, by rw [hd]; exact h⟩
theorem at_op (ho : ops[i]? = some o) (hd : o.dst = d) (hw : Region.wanted o (yielded ops a.tmps) = true) (hr : (execOp a.eval o).run P w = .ok (.value v) w') (h : K (a.put d v) w') : wpOp P ops Q i K a w := by
  unfold wpOp
  rw [ho]
  show if Region.wanted o (yielded ops a.tmps) = true then _ else _
  rw [if_pos hw]
  refine .inl ?_
  unfold Oper.wp
  rw [hr, Oper.upon_value, hd]
  exact h
theorem at_wp (ho : ops[i]? = some o) (hw : Region.wanted o (yielded ops a.tmps) = true) (h : o.wp P a w K Q) : wpOp P ops Q i K a w := by
  unfold wpOp
  rw [ho]
  show if Region.wanted o (yielded ops a.tmps) = true then _ else _
  rw [if_pos hw]
  exact .inl h
end
end Go.Proofs.Ytkfkdomjjepmdaa

/-
  The builtin max of two and of three lengths, as one step of the walk.
-/
namespace Go.Proofs.Ytkfkdomjjepmdaa
open Go.RowKit Go.Proofs.ShaWords
theorem run_max2 {ρ : Operand → Value} {o : Oper} {x y : Operand} {n m k : Nat} (ho : o.op = .call { callee := .builtin .max, args := #[x, y], argTypes := #[3, 3] }) (hx : ρ x = .int .i64 (n : Int)) (hy : ρ y = .int .i64 (m : Int)) (hk : k = max n m) (w : World) :
    (execOp ρ o).run Try.prog w = .ok (.value (.int .i64 (k : Int))) w := by
  obtain ⟨dst, op, ty', pos, after, guard⟩ := o
  simp only at ho
  subst ho
  by_cases h : n < m
  · have q : (n : Int) < (m : Int) := by omega
    have q2 : ¬ (m : Int) < (n : Int) := by omega
    have q3 : (n : Int) ≤ (m : Int) := by omega
    obtain rfl : k = m := by omega
    clear hk h
    go_simp
  · by_cases h2 : m < n
    · have q : ¬ (n : Int) < (m : Int) := by omega
      have q2 : (m : Int) < (n : Int) := by omega
      have q3 : (m : Int) ≤ (n : Int) := by omega
      obtain rfl : k = n := by omega
      clear hk h h2
      go_simp
    · obtain rfl : n = m := by omega
      obtain rfl : k = n := by omega
      clear hk h h2
      go_simp
theorem run_max3 {ρ : Operand → Value} {o : Oper} {x y z : Operand} {n m r k : Nat} (ho : o.op = .call { callee := .builtin .max, args := #[x, y, z], argTypes := #[3, 3, 3] }) (hx : ρ x = .int .i64 (n : Int)) (hy : ρ y = .int .i64 (m : Int)) (hz : ρ z = .int .i64 (r : Int)) (hk : k = max (max n m) r) (w : World) :
    (execOp ρ o).run Try.prog w = .ok (.value (.int .i64 (k : Int))) w := by
  obtain ⟨dst, op, ty', pos, after, guard⟩ := o
  simp only at ho
  subst ho
  by_cases h : n < m
  · by_cases h2 : m < r
    · have q : (n : Int) < (m : Int) := by omega
      have q2 : (m : Int) < (r : Int) := by omega
      obtain rfl : k = r := by omega
      clear hk h h2
      go_simp
    · have q : (n : Int) < (m : Int) := by omega
      have q2 : ¬ (m : Int) < (r : Int) := by omega
      obtain rfl : k = m := by omega
      clear hk h h2
      go_simp
  · by_cases h2 : n < r
    · have q : ¬ (n : Int) < (m : Int) := by omega
      have q2 : (n : Int) < (r : Int) := by omega
      obtain rfl : k = r := by omega
      clear hk h h2
      go_simp
    · have q : ¬ (n : Int) < (m : Int) := by omega
      have q2 : ¬ (n : Int) < (r : Int) := by omega
      obtain rfl : k = n := by omega
      clear hk h h2
      go_simp
end Go.Proofs.Ytkfkdomjjepmdaa

/- The kit's Pick: some number below its bound. -/
namespace Go.Proofs.Ytkfkdomjjepmdaa
open Go.RowKit Go.Proofs.ShaWords

theorem tmod_bounds (v n : Int) (h : 1 ≤ n) : -n < v.tmod n ∧ v.tmod n < n := by
  have h1 := Int.tmod_lt_of_pos v (show 0 < n by omega)
  have h2 := Int.tmod_lt_of_pos (-v) (show 0 < n by omega)
  rw [Int.neg_tmod] at h2
  omega
def SomeIn (n : Int) (w : World) (e : Ending) (w' : World) : Prop := ∃ r : Nat, (r : Int) < n ∧ e = .returned (.int .i64 (r : Int)) ∧ w = w'
set_option maxHeartbeats 400000 in
theorem pick_any (v n : Int) (w : World) (h1 : 1 ≤ n) (h2 : n ≤ 1000000) : Calls Try.prog 28 #[.int .i64 v, .int .i64 n] w (SomeIn n w) := by
  have hb := tmod_bounds v n h1
  obtain ⟨hb1, hb2⟩ := hb
  have hn0 : ¬ n = 0 := by omega
  by_cases hneg : v.tmod n < 0
  · go_enter Try.func28, Try.ntmps28
    go_wp2_with fail
    go_ret
    exact ⟨(v.tmod n + n).toNat, by omega, by
      have : ((v.tmod n + n).toNat : Int) = v.tmod n + n := by omega
      rw [this]; rfl, rfl⟩
  · go_enter Try.func28, Try.ntmps28
    go_wp2_with fail
    go_ret
    exact ⟨(v.tmod n).toNat, by omega, by
      have : ((v.tmod n).toNat : Int) = v.tmod n := by omega
      rw [this]; rfl, rfl⟩

end Go.Proofs.Ytkfkdomjjepmdaa

/-
  Single operations on slices of bytes: a slice loaded, an element's address, a byte loaded, stored, combined.
-/
namespace Go.Proofs.Ytkfkdomjjepmdaa
open Go.RowKit Go.Proofs.ShaWords
section
variable {ρ : Operand → Value} {o : Oper} {x y : Operand} {w : World}
end
end Go.Proofs.Ytkfkdomjjepmdaa

/-
  Operations about an append of bytes in a region that draws its order: a slice built of one byte, of four; the append itself; words read, shifted, cut to bytes.
-/
namespace Go.Proofs.Ytkfkdomjjepmdaa
open Go.RowKit Go.Proofs.ShaWords
attribute [local go_sem] and32 or32 xor32 add32 shl32 shr32 wrap32_n8 wrap8_n32

section
variable {ρ : Operand → Value} {o : Oper} {x y : Operand} {w : World}
theorem run_build1 {i : Int} (ho : o.op = .buildSlice 44 1 #[(0, x)]) (hx : ρ x = .int .u8 i) (w : World) :
    (execOp ρ o).run Try.prog w = .ok (.value (.slice (some ⟨w.heap.size, 0, none⟩) 1 1)) (w.alloc (.cells #[.int .u8 i] 5)) := by
  obtain ⟨dst, op, ty', pos, after, guard⟩ := o
  simp only at ho
  subst ho
  go_simp
end
end Go.Proofs.Ytkfkdomjjepmdaa
