/-
  What other texts lean on: Words, Gen, Bytes, WordsAt, OwnBytes, BytesBig, Foot, Structs, BaseG, StdBytes, AppendAt, Phase, Met, MetBefore, SameB, KeyBoxes, ArrEq, ByteOps, AppendOps, Elems, AppendList, AppendZeros, Pick, Tree, SeqCells, SeqVals, X2.
-/
import Derived.WalkKit
import Derived.WalkLawsBesides
import Derived.Laws.BitsAllLaws
import Derived.Test.YtoidjapenompiaaDoorProg
import Derived.WalkSpells
import Derived.Lib.Hide
import Derived.StillTailTactics
import Derived.IntWalk
import Derived.Laws.CopyOwn
import Derived.Laws.Rows
import Derived.Deep.QuietTactic
import Derived.BigQuiet
import Derived.Deep.RegionHeld3
import Derived.Deep.DeepFit
import Derived.Lib.SlBytesConst
import Derived.Laws.OwnMore
import Derived.Great.BuildSlice
import Derived.Test.YtoidjapenompiaaDoorRows
import Derived.ProofKit
import Derived.OpenShut
import Derived.ShutString
import Derived.ChangeOld
import Derived.Below
import Derived.LaidMore
import Derived.Lib.LaidTab
import Derived.Stop.Joined
import Derived.Deep.Matrix
import Derived.SizedLaws
import Derived.Laws.AppendOwnNone
import Derived.Laws.BytesArg
import Derived.Laws.BytesString
import Derived.Lib.SliceRun
import Derived.Lib.Bytes
import Derived.Maps.AppendAt
import Derived.Stop.BytesEq
import Derived.Deep.AppendLies
import Derived.Lib.AppendZeros
import Derived.Deep.DeepCutAuto
import Derived.RangeFuncNested
import Derived.RangeFuncLeaves
import Derived.RangeFuncBound
import Derived.RangeFuncCalls
import Derived.OwnWalkIn
import Derived.TacticsInMore
import Derived.LoopNIn
import Derived.LoopIn
/-
  Words of 32 bits and bytes as plain bit vectors: what the model's integer operations at uint32 and uint8 come to on them. Without any condition.
-/
namespace Go.Proofs.ShaWords
open Go

/-- A word as the number that the model holds. -/
def n32 (x : BitVec 32) : Int := (x.toNat : Int)
/-- A byte as the number that the model holds. -/
def n8 (x : BitVec 8) : Int := (x.toNat : Int)

theorem n32_nonneg (x : BitVec 32) : 0 ≤ n32 x := by unfold n32; omega
theorem and32 (x y : BitVec 32) : bits .and .u32 (n32 x) (n32 y) = n32 (x &&& y) := by
  unfold n32; rw [u32_and_nat _ _ (by have := x.isLt; omega) (by have := y.isLt; omega), BitVec.toNat_and]
theorem or32 (x y : BitVec 32) : bits .or .u32 (n32 x) (n32 y) = n32 (x ||| y) := by
  unfold n32; rw [u32_or_nat _ _ (by have := x.isLt; omega) (by have := y.isLt; omega), BitVec.toNat_or]
theorem xor32 (x y : BitVec 32) : bits .xor .u32 (n32 x) (n32 y) = n32 (x ^^^ y) := by
  unfold n32; rw [u32_xor_nat _ _ (by have := x.isLt; omega) (by have := y.isLt; omega), BitVec.toNat_xor]
theorem add32 (x y : BitVec 32) : IntKind.u32.wrap (n32 x + n32 y) = n32 (x + y) := by
  unfold n32; rw [IntKind.wrap_u32', BitVec.toNat_add]; omega
theorem shl32 (x : BitVec 32) (k : Nat) : IntKind.u32.wrap (n32 x * 2 ^ k) = n32 (x <<< k) := by
  unfold n32
  have e : (x.toNat : Int) * 2 ^ k = ((x.toNat * 2 ^ k : Nat) : Int) := by rw [Int.natCast_mul, Int.natCast_pow]; rfl
  rw [IntKind.wrap_u32', BitVec.toNat_shiftLeft, Nat.shiftLeft_eq, e]
  generalize x.toNat * 2 ^ k = m
  omega
theorem shr32 (x : BitVec 32) (k : Nat) : n32 x / 2 ^ k = n32 (x >>> k) := by
  unfold n32; rw [BitVec.toNat_ushiftRight, Nat.shiftRight_eq_div_pow, Int.natCast_ediv, Int.natCast_pow]; rfl

/-- A byte as a word; a word's last byte. -/
def ext (b : BitVec 8) : BitVec 32 := b.setWidth 32
def lo8 (x : BitVec 32) : BitVec 8 := x.setWidth 8
theorem wrap32_n8 (b : BitVec 8) : IntKind.u32.wrap (n8 b) = n32 (ext b) := by
  unfold n8 n32 ext; rw [IntKind.wrap_u32', BitVec.toNat_setWidth]; have := b.isLt; omega
theorem wrap8_n32 (x : BitVec 32) : IntKind.u8.wrap (n32 x) = n8 (lo8 x) := by
  unfold n8 n32 lo8; rw [IntKind.wrap_u8', BitVec.toNat_setWidth]; omega
theorem shl32_8 (x : BitVec 32) : IntKind.u32.wrap (n32 x * (256 : Int)) = n32 (x <<< 8) := shl32 x 8
theorem shl32_16 (x : BitVec 32) : IntKind.u32.wrap (n32 x * (65536 : Int)) = n32 (x <<< 16) := shl32 x 16
theorem shl32_24 (x : BitVec 32) : IntKind.u32.wrap (n32 x * (16777216 : Int)) = n32 (x <<< 24) := shl32 x 24
theorem shr32_8 (x : BitVec 32) : n32 x / (256 : Int) = n32 (x >>> 8) := shr32 x 8
theorem shr32_16 (x : BitVec 32) : n32 x / (65536 : Int) = n32 (x >>> 16) := shr32 x 16
theorem shr32_24 (x : BitVec 32) : n32 x / (16777216 : Int) = n32 (x >>> 24) := shr32 x 24

end Go.Proofs.ShaWords

/-
  What every layer leans on: bytes and words in memory; blocks that hold bytes; loads, stores, copies and makes of whole rows; a region that draws its order, carried out along one list of its operations; calls.
-/
namespace Go.Proofs.YtoidjapenompiaaDoor
open Go.RowKit Go.Proofs.ShaWords

def bytesV (l : List (BitVec 8)) : List Value := l.map fun b => .int .u8 (n8 b)
def wordsV (l : List (BitVec 32)) : List Value := l.map fun x => .int .u32 (n32 x)
theorem cell_bytesV {w : World} {g j : Nat} {l : List (BitVec 8)} {t : TypeId} {fr : Nat × Nat} (h : w.heap[g]? = some (.cells (bytesV l).toArray t fr)) (hj : j < l.length) : w.cell? ⟨g, j, none⟩ = some (.int .u8 (n8 l[j])) := by
  rw [cell_of_row w g j _ t fr h]; simp [bytesV, hj]
theorem cell_wordsV {w : World} {g j : Nat} {l : List (BitVec 32)} {t : TypeId} {fr : Nat × Nat} (h : w.heap[g]? = some (.cells (wordsV l).toArray t fr)) (hj : j < l.length) : w.cell? ⟨g, j, none⟩ = some (.int .u32 (n32 l[j])) := by
  rw [cell_of_row w g j _ t fr h]; simp [wordsV, hj]
theorem wordsV_set (l : List (BitVec 32)) (k : Nat) (x : BitVec 32) : (wordsV l).toArray.setIfInBounds k (.int .u32 (n32 x)) = (wordsV (l.set k x)).toArray := by
  simp [wordsV, List.map_set]
theorem bytesV_one (l : List (BitVec 8)) : (bytesV l).toArray.all (·.oneCell') = true :=
  Array.all_eq_true_iff_forall_mem.2 fun v hv => by
    simp only [bytesV, List.mem_toArray, List.mem_map] at hv
    obtain ⟨x, _, rfl⟩ := hv
    rfl
theorem heap_new_at {w : World} {o : Obj} {n : Nat} (h : w.heap.size = n) : (w.alloc o).heap[n]? = some o := by
  subst h; exact _root_.Go.heap_alloc_new w o
theorem size_alloc (w : World) (o : Obj) : (w.alloc o).heap.size = w.heap.size + 1 := by simp
theorem bytesV_size (l : List (BitVec 8)) (n : Nat) (h : l.length = n) : (bytesV l).toArray.size = n := by simp [bytesV, h]
theorem wp_gen {P : Program} {c : Code} {Q : Exit → Act → World → Prop} {a : Act} {w : World} (F : World → Prop) (hF : F w) (h : ∀ w, F w → Code.wp P c Q a w) : Code.wp P c Q a w := h w hF
theorem alloc3_1 (w : World) (a b c : Obj) : (((w.alloc a).alloc b).alloc c).heap[w.heap.size]? = some a := by
  rw [Below.heap_alloc _ _ _ (by rw [size_alloc, size_alloc]; omega), Below.heap_alloc _ _ _ (by rw [size_alloc]; omega)]; exact heap_new_at rfl
theorem alloc3_2 (w : World) (a b c : Obj) : (((w.alloc a).alloc b).alloc c).heap[w.heap.size + 1]? = some b := by
  rw [Below.heap_alloc _ _ _ (by rw [size_alloc, size_alloc]; omega)]; exact heap_new_at (by rw [size_alloc])
theorem alloc3_3 (w : World) (a b c : Obj) : (((w.alloc a).alloc b).alloc c).heap[w.heap.size + 1 + 1]? = some c := 
  heap_new_at (by rw [size_alloc, size_alloc])
theorem alloc3_below (w : World) (a b c : Obj) : Below w.heap.size w (((w.alloc a).alloc b).alloc c) :=
  (((Below.refl _ _).alloc (Nat.le_refl _) _).alloc (by rw [size_alloc]; omega) _).alloc (by rw [size_alloc, size_alloc]; omega) _
theorem info5 : (Tryd.prog.info? 5).map (fun i => (i.zero, i.size, i.bytes)) = some (some (.int .u8 0), 1, 1) := by kernel_rfl
/-- A make of whatever length and capacity: the new row known whole. -/
theorem wpList_make_any {P : Program} {w : World} {ops : Array Oper} {rest : List Oper} {o : Oper} {a : Act} {Q : Exit → Act → World → Prop}
    (hg : o.guard = none) (l c : Operand) (t : TypeId) (hop : o.op = Op.makeSlice t l c)
    (e : TypeId) (i : TypeInfo) (z : Value) (h1 : P.underlying t = some (.slice e)) (h2 : P.info? e = some i) (h3 : i.zero = some z) (h4 : i.size = 1) (h5 : i.bytes = 1)
    (kl kc : IntKind) (L C : Int) (ln cn : Nat) (hl : a.eval l = .int kl L) (hc : a.eval c = .int kc C) (hL : L = (ln : Int)) (hC : C = (cn : Int)) (hle : ln ≤ cn) (b2 : cn ≤ 281474976710656)
    (X : Array Value) (hX : madeCells z.cells cn = X)
    (hK : ∀ w', w'.heap[w.heap.size]? = some (.cells X e (0, 0)) → Below w.heap.size w w' → wpList P ops Q rest (a.put o.dst (.slice (some ⟨w.heap.size, 0, none⟩) ln cn)) w') :
    wpList P ops Q (o :: rest) a w := by
  refine wpList_plain hg fun K hK' => ?_
  subst hL hC
  have hrun := run_make (P := P) w t e i z h1 h2 h3 kl kc (ln : Int) (cn : Int) (by omega) (by omega) (by rw [h5]; omega) (by omega)
  rw [h4, Nat.mul_one] at hrun
  simp only [Int.toNat_natCast] at hrun
  rw [hX] at hrun
  unfold Oper.wp
  simp [execOp, hop, hl, hc, hrun, Result.andThen]
  exact hK' _ _ (hK _ (heap_new_at rfl) ((Below.refl _ _).alloc (Nat.le_refl _) _))
theorem made_noughts (c : Nat) : madeCells #[Value.int .u8 0] c = (bytesV (List.replicate c 0#8)).toArray := by
  apply Array.ext'
  rw [toList_madeCells_one]
  simp only [bytesV, List.map_replicate]
  rfl
theorem splice_cons {α : Type} (L : List α) (o : Nat) (b : α) (r : List α) (h : o + (r.length + 1) ≤ L.length) : splice L o (b :: r) = splice (L.set o b) (o + 1) r := by
  unfold splice
  have e : (L.set o b).take (o + 1) = L.take o ++ [b] := by
    rw [List.take_succ_eq_append_getElem (by simp; omega), List.getElem_set_self, List.take_set_of_le (Nat.le_refl _)]
  rw [e, List.drop_set_of_lt (by omega)]
  simp only [List.length_cons, List.append_assoc, List.cons_append, List.nil_append]
  rw [show o + (r.length + 1) = o + 1 + r.length by omega]
theorem splice_nil {α : Type} (L : List α) (o : Nat) : splice L o [] = L := by simp [splice]
theorem bytesV_length (l : List (BitVec 8)) : (bytesV l).length = l.length := by simp [bytesV]
/-- Bytes that a slice's address leads to, in a block other than g. -/
def Reads (w : World) (g : Nat) (p : Option Addr) (bs : List (BitVec 8)) : Prop :=
  bs = [] ∨ ∃ b off, p = some ⟨b, off, none⟩ ∧ b ≠ g ∧ w.rangeAt b off (bytesV bs)
theorem bytesV_append (a b : List (BitVec 8)) : bytesV (a ++ b) = bytesV a ++ bytesV b := List.map_append
theorem bytesV_take (l : List (BitVec 8)) (k : Nat) : bytesV (l.take k) = (bytesV l).take k := List.map_take
theorem bytesV_drop (l : List (BitVec 8)) (k : Nat) : bytesV (l.drop k) = (bytesV l).drop k := List.map_drop
theorem bytesV_mem {l : List (BitVec 8)} {v : Value} (h : v ∈ bytesV l) : v.oneCell' = true := by
  simp only [bytesV, List.mem_map] at h; obtain ⟨x, _, rfl⟩ := h; rfl
theorem grown_setCell (w : World) (g j : Nat) (v : Value) : w.grownBy (w.setCell ⟨g, j, none⟩ v) (some g) :=
  ⟨rfl, rfl, rfl, by simp [World.setCell], fun k _ hk => heap_setCell_other _ _ _ _ (fun e => hk (by rw [e]))⟩
theorem grown_setRow (w : World) (g : Nat) (cs : Array Value) : w.grownBy (w.setRow g cs) (some g) :=
  ⟨rfl, rfl, rfl, by simp, fun k _ hk => setRow_other w g k cs (fun e => hk (by rw [e]))⟩
theorem still_load_mid {P : Program} {ops : Array Oper} {w : World} {Q : Act → Prop} {rest : List Oper} {o : Oper} {a : Act} (hgd : o.guard = none) (ty : TypeId) (x : Operand) (ho : o.op = .load ty x)
    (b off : Nat) (hx : a.eval x = .pointer (some ⟨b, off, none⟩)) (cs : List Value) (d : TypeDesc) (hc : w.rangeAt b off cs) (hu : P.underlying ty = some d) (hd : d.isRow = true)
    (hi : (P.info? ty).map (·.size) = some cs.length) (h : wpStill P ops w Q rest (a.put o.dst (.agg cs.toArray))) : wpStill P ops w Q (o :: rest) a := by
  have hw : Region.wanted o (yielded ops a.tmps) = true := by simp [Region.wanted, hgd]
  unfold wpStill
  rw [if_pos hw]
  unfold Oper.still execOp
  simp only [ho, hx, Instr.loadAt, Instr.sureAddr, Sem.run_bind, Sem.run_pure, Result.andThen_ok, run_loadVar_mid w b off ty cs d hc hu hd hi, Oper.stillUpon]
  exact ⟨trivial, h⟩
/-- Cells that are stored one behind another, seen in the whole row. -/
theorem heap_setCells (g : Nat) (t : TypeId) : ∀ (vs : List Value) (o : Nat) (cur : List Value) (w : World), w.heap[g]? = some (.cells cur.toArray t (0, 0)) → o + vs.length ≤ cur.length →
    (w.setCells g o vs).heap[g]? = some (.cells (splice cur o vs).toArray t (0, 0))
  | [], o, cur, w, h, _ => by rw [splice_nil]; exact h
  | v :: r, o, cur, w, h, hl => by
    simp only [List.length_cons] at hl
    rw [World.setCells, splice_cons _ _ _ _ hl]
    refine heap_setCells g t r (o + 1) (cur.set o v) _ ?_ (by simp; omega)
    rw [heap_setCell_same _ _ _ _ _ _ h]; simp
theorem heap_setCells_other (g k : Nat) (hk : k ≠ g) : ∀ (vs : List Value) (o : Nat) (w : World), (w.setCells g o vs).heap[k]? = w.heap[k]?
  | [], _, _ => rfl
  | v :: r, o, w => by rw [World.setCells, heap_setCells_other g k hk r, heap_setCell_other _ _ _ _ hk]
theorem size_setCells (g : Nat) : ∀ (vs : List Value) (o : Nat) (w : World), (w.setCells g o vs).heap.size = w.heap.size ∧ (w.setCells g o vs).os = w.os ∧ (w.setCells g o vs).tape = w.tape ∧ (w.setCells g o vs).output = w.output
  | [], _, _ => ⟨rfl, rfl, rfl, rfl⟩
  | v :: r, o, w => by
    rw [World.setCells]
    obtain ⟨a, b, c, d⟩ := size_setCells g r (o + 1) (w.setCell ⟨g, o, none⟩ v)
    exact ⟨a.trans (by simp [World.setCell]), b, c, d⟩
theorem grown_setCells (w : World) (g o : Nat) (vs : List Value) : w.grownBy (w.setCells g o vs) (some g) := by
  obtain ⟨a, b, c, d⟩ := size_setCells g vs o w
  exact ⟨b, c, d, by rw [a]; exact Nat.le_refl _, fun k _ hk => heap_setCells_other g k (fun e => hk (by rw [e])) vs o w⟩
theorem Reads.grown {w w' : World} {g b off : Nat} {l : List Value} (h : w.rangeAt b off l) (hb : w.grownBy w' (some g)) (hg : b ≠ g) : w'.rangeAt b off l := fun j v hv =>
  (World.cell?_of_block (a := ⟨b, off + j, none⟩) (hb.block b (World.block_lt_of_cell? w _ (h j v hv)) (fun e => hg (Option.some.inj e)))).trans (h j v hv)
theorem range_drop {w : World} {b off k : Nat} {l : List (BitVec 8)} (h : w.rangeAt b off (bytesV l)) : w.rangeAt b (off + k) (bytesV (l.drop k)) := fun j v hv => by
  rw [Nat.add_assoc]
  refine h (k + j) v ?_
  rw [bytesV_drop, List.getElem?_drop] at hv; exact hv
theorem put_size (a : Act) (d : Nat) (v : Value) : (a.put (some d) v).tmps.size = a.tmps.size := by simp [Act.put]
theorem eval_same (a : Act) (d : Nat) (v : Value) (h : d < a.tmps.size) : (a.put (some d) v).eval (.tmp d) = v := by simp [Act.eval, Act.put, h]
theorem eval_other (a : Act) (d t : Nat) (v : Value) (h : d ≠ t) : (a.put (some d) v).eval (.tmp t) = a.eval (.tmp t) := Act.eval_put (fun e he hx => by cases he; cases hx; exact h rfl)
theorem run_move {P : Program} {ρ : Operand → Value} {o : Oper} {x : Operand} {v : Value} (ho : o.op = .move x) (h : ρ x = v) (w : World) : (execOp ρ o).run P w = .ok (.value v) w := by
  unfold execOp; simp only [ho, h, Sem.run_pure]
theorem run_nilCheck {P : Program} {ρ : Operand → Value} {o : Oper} {x : Operand} {p : Addr} (ho : o.op = .nilCheck x) (h : ρ x = .pointer (some p)) (w : World) :
    (execOp ρ o).run P w = .ok (.value (.pointer (some p))) w := by
  unfold execOp; simp only [ho, h, Sem.run_pure]
theorem wanted_of {o : Oper} {ops : Array Oper} {t : Array Value} (h : o.guard = none) : Region.wanted o (yielded ops t) = true := by simp [Region.wanted, h]
theorem grown_trans {w w1 w2 : World} {r : Option Nat} (h1 : w.grownBy w1 r) (h2 : w1.grownBy w2 r) : w.grownBy w2 r :=
  ⟨h2.os.trans h1.os, h2.tape.trans h1.tape, h2.output.trans h1.output, Nat.le_trans h1.size h2.size, fun k hk hn => (h2.block k (Nat.lt_of_lt_of_le hk h1.size) hn).trans (h1.block k hk hn)⟩
theorem grown_below {w w1 : World} {B : Nat} (hb : Below B w w1) (hB : w.heap.size ≤ B) (r : Option Nat) : w.grownBy w1 r :=
  ⟨hb.os, hb.tape, hb.output, hb.size, fun k hk _ => hb.block k (by omega)⟩
/-- A whole array or struct, stored into the block that was made last. -/
theorem wpList_store_new {P : Program} {ops : Array Oper} {rest : List Oper} {o : Oper} {a : Act} {w0 : World} {old : Array Value} {t : TypeId} {Q : Exit → Act → World → Prop} (hgd : o.guard = none) (ty : TypeId) (x y : Operand) (ho : o.op = .store ty x y)
    (n : Nat) (hn : w0.heap.size = n) (cells : Array Value) (hx : a.eval x = .pointer (some ⟨n, 0, none⟩)) (hy : a.eval y = .agg cells)
    (hi : (P.info? ty).map (·.size) = some cells.size) (hold : old.size = cells.size) (h1 : cells.all (·.oneCell') = true)
    (h : ∀ w', w'.heap[n]? = some (.cells cells t (0, 0)) → Below n w0 w' → wpList P ops Q rest (a.put o.dst undef) w') : wpList P ops Q (o :: rest) a (w0.alloc (.cells old t (0, 0))) := by
  subst hn
  exact wpList_store_row hgd ty x y ho w0.heap.size cells hx hy t old (heap_new_at rfl) hi hold h1
    (h _ (setRow_heap _ _ _ _ _ _ (heap_new_at rfl)) (below_setRow ((Below.refl _ _).alloc (Nat.le_refl _) _) (Nat.le_refl _) _))
theorem range_bytesV {w : World} {g : Nat} {l : List (BitVec 8)} {t : TypeId} {fr : Nat × Nat} (h : w.heap[g]? = some (.cells (bytesV l).toArray t fr)) : w.rangeAt g 0 (bytesV l) := fun j v hv => by
  rw [Nat.zero_add, cell_of_row w g j _ t fr h]; simpa using hv
theorem noughts32 : (bytesV (List.replicate 32 0#8)).toArray = #[Value.int IntKind.u8 0, Value.int IntKind.u8 0, Value.int IntKind.u8 0, Value.int IntKind.u8 0, Value.int IntKind.u8 0, Value.int IntKind.u8 0, Value.int IntKind.u8 0, Value.int IntKind.u8 0, Value.int IntKind.u8 0, Value.int IntKind.u8 0, Value.int IntKind.u8 0, Value.int IntKind.u8 0, Value.int IntKind.u8 0, Value.int IntKind.u8 0, Value.int IntKind.u8 0, Value.int IntKind.u8 0, Value.int IntKind.u8 0, Value.int IntKind.u8 0, Value.int IntKind.u8 0, Value.int IntKind.u8 0, Value.int IntKind.u8 0, Value.int IntKind.u8 0, Value.int IntKind.u8 0, Value.int IntKind.u8 0, Value.int IntKind.u8 0, Value.int IntKind.u8 0, Value.int IntKind.u8 0, Value.int IntKind.u8 0, Value.int IntKind.u8 0, Value.int IntKind.u8 0, Value.int IntKind.u8 0, Value.int IntKind.u8 0] := by rfl
/-- Bytes that a slice's address leads to. -/
def Lies (w : World) (p : Option Addr) (bs : List (BitVec 8)) : Prop := bs = [] ∨ ∃ b off, p = some ⟨b, off, none⟩ ∧ w.rangeAt b off (bytesV bs)
theorem Lies.below {w w' : World} {p : Option Addr} {bs : List (BitVec 8)} (h : Lies w p bs) (hb : Below w.heap.size w w') : Lies w' p bs := by
  rcases h with h | ⟨b, off, hp, hr⟩
  · exact Or.inl h
  · exact Or.inr ⟨b, off, hp, fun j v hv => (hb.cell (p := ⟨b, off + j, none⟩) (World.block_lt_of_cell? w _ (hr j v hv))).trans (hr j v hv)⟩
/-- What lies in a world lies in no block that was made later. -/
theorem Lies.reads {w w' : World} {p : Option Addr} {bs : List (BitVec 8)} (h : Lies w p bs) (hb : Below w.heap.size w w') (g : Nat) (hg : w.heap.size ≤ g) : Reads w' g p bs := by
  rcases h with h | ⟨b, off, hp, hr⟩
  · exact Or.inl h
  · by_cases hne : bs = []
    · exact Or.inl hne
    · refine Or.inr ⟨b, off, hp, ?_, fun j v hv => (hb.cell (p := ⟨b, off + j, none⟩) (World.block_lt_of_cell? w _ (hr j v hv))).trans (hr j v hv)⟩
      cases bs with
      | nil => exact absurd rfl hne
      | cons x r =>
        have := World.block_lt_of_cell? w _ (hr 0 _ rfl)
        intro e; subst e; simp at this; omega
section
variable {P : Program} {ops : Array Oper} {Q : Exit → Act → World → Prop} {S : World → Prop} {r : List (Nat × Bool)} {i : Nat} {o : Oper} {d : Option Tmp} {v : Value} {a : Act} {w w' : World}
theorem wanted_guard {j : Nat} {dj : Tmp} {oj : Oper} (hg : o.guard = some (j, true)) (hj : ops[j]? = some oj) (hd : oj.dst = some dj) (he : a.eval (.tmp dj) = .bool true) : Region.wanted o (yielded ops a.tmps) = true := by
  have h2 : a.tmps[dj]? = some (.bool true) := by
    have h3 : a.tmps.getD dj undef = .bool true := he
    rw [Array.getD_eq_getD_getElem?] at h3
    cases h4 : a.tmps[dj]? with
    | none => rw [h4] at h3; exact absurd h3 (by simp [undef])
    | some u => rw [h4] at h3; simp at h3; rw [h3]
  unfold Region.wanted
  rw [hg]
  simp only [yielded, hj, Option.bind_some, hd, h2]
  rfl
end
section
variable {P : Program} {ρ : Operand → Value} {o : Oper} {x y c : Operand} {v u : Value}
theorem run_assign (ho : o.op = .assign x) (h : ρ x = v) (w : World) : (execOp ρ o).run P w = .ok (.value v) w := by
  unfold execOp; simp only [ho, h, Sem.run_pure]
theorem run_pick_true (ho : o.op = .pick c x y) (hc : ρ c = .bool true) (h : ρ x = v) (w : World) : (execOp ρ o).run P w = .ok (.value v) w := by
  unfold execOp; simp only [ho, hc, h, Sem.run_bind]; rfl
theorem range_keep {w w' : World} {b off : Nat} {l : List Value} (h : w.rangeAt b off l) (hb : Below w.heap.size w w') : w'.rangeAt b off l := fun j v hv =>
  (hb.cell (p := ⟨b, off + j, none⟩) (World.block_lt_of_cell? w _ (h j v hv))).trans (h j v hv)
/-- A call of any function of the program that has a body. -/
theorem callFunc_body {P : Program} {f : FuncId} {fn : Func} (hfn : P.funcs[f]? = some fn) (hb : (fn.name == "runtime.NumGoroutine" || fn.body.isNone) = false) (args : Array Value) (w : World) : (callFunc f args).run P w = .ok (.enter f args) w := by
  rw [Bool.or_eq_false_iff] at hb
  have h1 : ¬ fn.name = "runtime.NumGoroutine" := by simpa using hb.1
  have h2 : ¬ fn.body = none := fun h => by rw [h] at hb; exact absurd hb.2 (by decide)
  simp [callFunc, go_sem, hfn, h1, h2]
theorem run_callf1 {P : Program} {f : FuncId} {fn : Func} {T : Array TypeId} (ho : o.op = .call { callee := .value (.func f), args := #[x], argTypes := T }) (hf : ρ (.func f) = .func (.func f) #[] #[]) (hx : ρ x = v) (hfn : P.funcs[f]? = some fn) (hb : (fn.name == "runtime.NumGoroutine" || fn.body.isNone) = false) (w : World) : (execOp ρ o).run P w = .ok (.enter f #[v]) w := by
  obtain ⟨dst, op, ty, pos, after, guard⟩ := o
  simp only at ho
  subst ho
  have h := callFunc_body hfn hb #[v] w
  go_simp
theorem run_callf2 {P : Program} {f : FuncId} {fn : Func} {T : Array TypeId} (ho : o.op = .call { callee := .value (.func f), args := #[x, y], argTypes := T }) (hf : ρ (.func f) = .func (.func f) #[] #[]) (hx : ρ x = v) (hy : ρ y = u) (hfn : P.funcs[f]? = some fn) (hb : (fn.name == "runtime.NumGoroutine" || fn.body.isNone) = false) (w : World) : (execOp ρ o).run P w = .ok (.enter f #[v, u]) w := by
  obtain ⟨dst, op, ty, pos, after, guard⟩ := o
  simp only at ho
  subst ho
  have h := callFunc_body hfn hb #[v, u] w
  go_simp
theorem run_callf3 {P : Program} {f : FuncId} {fn : Func} {T : Array TypeId} {z : Value} (ho : o.op = .call { callee := .value (.func f), args := #[x, y, c], argTypes := T }) (hf : ρ (.func f) = .func (.func f) #[] #[]) (hx : ρ x = v) (hy : ρ y = u) (hz : ρ c = z) (hfn : P.funcs[f]? = some fn) (hb : (fn.name == "runtime.NumGoroutine" || fn.body.isNone) = false) (w : World) : (execOp ρ o).run P w = .ok (.enter f #[v, u, z]) w := by
  obtain ⟨dst, op, ty, pos, after, guard⟩ := o
  simp only at ho
  subst ho
  have h := callFunc_body hfn hb #[v, u, z] w
  go_simp
theorem run_callf4 {P : Program} {f : FuncId} {fn : Func} {T : Array TypeId} {z z2 : Value} {c2 : Operand} (ho : o.op = .call { callee := .value (.func f), args := #[x, y, c, c2], argTypes := T }) (hf : ρ (.func f) = .func (.func f) #[] #[]) (hx : ρ x = v) (hy : ρ y = u) (hz : ρ c = z) (hz2 : ρ c2 = z2) (hfn : P.funcs[f]? = some fn) (hb : (fn.name == "runtime.NumGoroutine" || fn.body.isNone) = false) (w : World) : (execOp ρ o).run P w = .ok (.enter f #[v, u, z, z2]) w := by
  obtain ⟨dst, op, ty, pos, after, guard⟩ := o
  simp only at ho
  subst ho
  have h := callFunc_body hfn hb #[v, u, z, z2] w
  go_simp
end
/-- A block that holds these bytes. -/
def BytesAt (w : World) (g : Nat) (t : TypeId) (l : List (BitVec 8)) : Prop := w.heap[g]? = some (.cells (bytesV l).toArray t (0, 0))
theorem BytesAt.size {w : World} {g : Nat} {t : TypeId} {l : List (BitVec 8)} (h : BytesAt w g t l) : g < w.heap.size := (Array.getElem?_eq_some_iff.1 h).1
theorem BytesAt.keep {w w' : World} {g : Nat} {t : TypeId} {l : List (BitVec 8)} (h : BytesAt w g t l) (hb : Below w.heap.size w w') : BytesAt w' g t l := (hb.block _ h.size).trans h
theorem BytesAt.range {w : World} {g : Nat} {t : TypeId} {l : List (BitVec 8)} (h : BytesAt w g t l) : w.rangeAt g 0 (bytesV l) := range_bytesV h
def noughts (n : Nat) : List (BitVec 8) := List.replicate n 0#8
theorem noughts_length (n : Nat) : (noughts n).length = n := by simp [noughts]
theorem splice_noughts (n : Nat) (l : List (BitVec 8)) : splice (List.replicate n 0#8) 0 l = l ++ List.replicate (n - l.length) 0#8 := by simp [splice]
set_option maxRecDepth 100000 in
/-- A copy of bytes into a block of the call's own, from the block's start. -/
theorem run_copy_bytes (w : World) (ty : TypeId) (g n cap : Nat) (t : TypeId) (blk bs : List (BitVec 8)) (p : Option Addr) (m c : Nat) (hg : BytesAt w g t blk) (hn : blk.length = n) (hL : Lies w p bs) (hm : bs.length = m) (hle : m ≤ n) :
    ∃ w', (Builtin.copy_ #[37, 37] ty #[.slice (some ⟨g, 0, none⟩) n cap, .slice p m c]).run Tryd.prog w = .ok (goInt m) w' ∧ BytesAt w' g t (splice blk 0 bs) ∧ w.grownBy w' (some g) := by
  have hmin : Nat.min m n = m := Nat.min_eq_left hle
  have i5 : (Tryd.prog.info? 5).map (·.size) = some 1 := by kernel_rfl
  by_cases h0 : m = 0
  · subst h0
    have hb : bs = [] := List.length_eq_zero_iff.1 hm
    subst hb
    refine ⟨w, run_copy_none (P := Tryd.prog) w 37 37 ty 5 _ p n cap 0 c Tryd.underlying37 i5 (by simp), ?_, World.grownBy.refl _ _⟩
    rw [splice_nil]; exact hg
  · rcases hL with hb | ⟨b, off, rfl, hr⟩
    · subst hb; exact absurd hm.symm h0
    · have hl : (bytesV bs).length = m := by rw [bytesV_length, hm]
      have hrun := run_copy_row (P := Tryd.prog) w 37 37 ty 5 g 0 n cap ⟨b, off, none⟩ m c (bytesV blk).toArray t (bytesV bs) Tryd.underlying37 i5 hg (by rw [hl, hmin])
        (fun j v hv => by rw [Addr.add_mid]; exact hr j v hv) (by rw [hl, bytesV_size _ n hn]; omega) (fun v hv => bytesV_mem hv)
      rw [hl] at hrun
      refine ⟨_, hrun, ?_, grown_setRow _ _ _⟩
      show _ = _
      rw [setRow_heap _ _ _ _ _ _ hg]
      congr 2
      rw [← hl]
      simp [splice, bytesV]
theorem wpList_copy_bytes {w : World} {ops : Array Oper} {rest : List Oper} {o : Oper} {a : Act} {Q : Exit → Act → World → Prop} (hgd : o.guard = none) (d s : Operand)
    (ho : o.op = .call { callee := .builtin .copy, args := #[d, s], argTypes := #[37, 37] }) (g n cap : Nat) (t : TypeId) (blk bs : List (BitVec 8)) (p : Option Addr) (m c : Nat)
    (hd : a.eval d = .slice (some ⟨g, 0, none⟩) n cap) (hs : a.eval s = .slice p m c) (hg : BytesAt w g t blk) (hn : blk.length = n) (hL : Lies w p bs) (hm : bs.length = m) (hle : m ≤ n)
    (h : ∀ w', BytesAt w' g t (splice blk 0 bs) → w.grownBy w' (some g) → wpList Tryd.prog ops Q rest (a.put o.dst (goInt m)) w') : wpList Tryd.prog ops Q (o :: rest) a w := by
  refine wpList_plain hgd fun K hK => ?_
  obtain ⟨w', hrun, h1, h2⟩ := run_copy_bytes w o.type g n cap t blk bs p m c hg hn hL hm hle
  unfold Oper.wp
  simp [execOp, ho, resolve, invoke, builtin, hd, hs, hrun, Result.andThen]
  exact hK _ _ (h w' h1 h2)
theorem run_copy_op {ρ : Operand → Value} {o : Oper} {x y : Operand} {w w' : World} {v u r : Value} (ho : o.op = .call { callee := .builtin .copy, args := #[x, y], argTypes := #[37, 37] }) (hx : ρ x = v) (hy : ρ y = u)
    (hr : (Builtin.copy_ #[37, 37] o.type #[v, u]).run Tryd.prog w = .ok r w') : (execOp ρ o).run Tryd.prog w = .ok (.value r) w' := by
  simp [execOp, ho, resolve, invoke, builtin, hx, hy, hr, Result.andThen]
theorem setCell_bytes {w : World} {g : Nat} {l : List (BitVec 8)} {t : TypeId} {k : Nat} (h : w.heap[g]? = some (.cells (bytesV l).toArray t (0, 0))) (x : BitVec 8) :
    (w.setCell ⟨g, k, none⟩ (.int .u8 (n8 x))).heap[g]? = some (.cells (bytesV (l.set k x)).toArray t (0, 0)) := by
  rw [heap_setCell_same _ _ _ _ _ _ h, List.setIfInBounds_toArray]
  simp [bytesV, List.map_set]
theorem Reads.on {w w' : World} {g : Nat} {p : Option Addr} {bs : List (BitVec 8)} (h : Reads w g p bs) (hb : Below w.heap.size w w') : Reads w' g p bs := by
  rcases h with h | ⟨b, off, hp, hne, hr⟩
  · exact Or.inl h
  · exact Or.inr ⟨b, off, hp, hne, range_keep hr hb⟩
theorem run_len26 {ρ : Operand → Value} {o : Oper} {x : Operand} {q : Option Addr} {n c : Nat} (ho : o.op = .call { callee := .builtin .len, args := #[x], argTypes := #[37] }) (hx : ρ x = .slice q n c) (w : World) :
    (execOp ρ o).run Tryd.prog w = .ok (.value (.int .i64 (n : Int))) w := by
  obtain ⟨dst, op, ty, pos, after, guard⟩ := o
  simp only at ho
  subst ho
  go_simp
end Go.Proofs.YtoidjapenompiaaDoor

/-
  The contracts of the kit's own functions on bytes: CopyBytes, markBytes, LentBytes, SameBytes at equal lists, KeptBytes at what LentBytes made.
-/
namespace Go.Proofs.YtoidjapenompiaaDoor
open Go.RowKit Go.Proofs.ShaWords

/-- A slice of the call's own that holds these bytes. -/
def Own (B : Nat) (w : World) (l : List (BitVec 8)) (v : Value) : Prop := w.ownsRow B 5 1 v l.length (bytesV l)
theorem Own.nil (B : Nat) (w : World) : Own B w [] (.slice none 0 0) := World.ownsRow_nil w B 5 1
theorem Own.lies {B : Nat} {w : World} {l : List (BitVec 8)} {v : Value} (h : Own B w l v) : ∃ p cap, v = .slice p l.length cap ∧ l.length ≤ cap ∧ cap ≤ maxLen ∧ Lies w p l := by
  rcases h.2 with ⟨rfl, h0⟩ | ⟨g, cap, cur, rfl, hg, hh, hc, hm, hs, ht⟩
  · have : l = [] := List.length_eq_zero_iff.1 h0
    subst this
    exact ⟨none, 0, rfl, Nat.le_refl _, Nat.zero_le _, Or.inl rfl⟩
  · refine ⟨some ⟨g, 0, none⟩, cap, rfl, hc, hm, Or.inr ⟨g, 0, rfl, fun j v hv => ?_⟩⟩
    rw [Nat.zero_add, cell_of_row w g j cur 5 (0, 0) hh]
    rw [← ht, Nat.mul_one, List.getElem?_take] at hv
    split at hv
    · rw [← hv]; simp
    · cases hv
theorem Own.below {B : Nat} {w w' : World} {l : List (BitVec 8)} {v : Value} (h : Own B w l v) (hb : Below w.heap.size w w') : Own B w' l v :=
  World.ownsRow.kept h (grown_below hb (Nat.le_refl _) none) (by cases v.ownBlock <;> simp)
theorem info5' : ∃ i : TypeInfo, Tryd.prog.info? 5 = some i ∧ i.zero = some (.int .u8 0) ∧ i.size = 1 ∧ i.bytes = 1 := info_parts info5
set_option maxHeartbeats 400000 in
/-- Two lists of the same bytes are told to be the same. -/
theorem same_any (l : List (BitVec 8)) (n : Nat) (p q : Option Addr) (c1 c2 : Nat) (w : World) (hln : l.length = n) (hl : n < 1000000) (hp : Lies w p l) (hq : Lies w q l) :
    Calls Tryd.prog 14 #[.slice p n c1, .slice q n c2] w fun e w' => e = .returned (.bool true) ∧ Below w.heap.size w w' := by
  have HP := Lib.hid hp; clear hp
  have HQ := Lib.hid hq; clear hq
  have HN := Lib.hid hln; clear hln
  go_enter Tryd.func14, Tryd.ntmps14
  go_wp2_with fail
  go_loopw [5] (fun i wr => ∃ k : Nat, k ≤ n ∧ i = .int .i64 k ∧ Below w.heap.size w wr) (fun i _ => n - (intOf i).toNat)
  case atStart => exact ⟨0, Nat.zero_le _, rfl, Below.refl _ _⟩
  case round =>
    obtain ⟨k, hk, rfl, hb⟩ := hrel
    by_cases hlt : k < n
    · have hlt' : k < l.length := by rw [HN.out]; exact hlt
      have hv : (bytesV l)[k]? = some (.int .u8 (n8 l[k])) := by simp [bytesV, hlt']
      rcases HP.out with h0 | ⟨b, off, rfl, hr⟩
      · exfalso; rw [h0] at hlt'; simp at hlt'
      rcases HQ.out with h0 | ⟨b2, off2, rfl, hr2⟩
      · exfalso; rw [h0] at hlt'; simp at hlt'
      have hc := (hb.cell (p := ⟨b, off + k, none⟩) (World.block_lt_of_cell? w _ (hr k _ hv))).trans (hr k _ hv)
      have hc2 := (hb.cell (p := ⟨b2, off2 + k, none⟩) (World.block_lt_of_cell? w _ (hr2 k _ hv))).trans (hr2 k _ hv)
      generalize l[k] = x at hc hc2 hv
      have HB := Lib.hid hb
      clear hb hr hr2 hv hlt'
      have q0 : (k : Int) < (n : Int) := by omega
      go_wp2_with fail
      go_quiet (fail)
      go_wp2_with fail
      go_roundw
      case rel => exact ⟨k + 1, by omega, by go_num, HB.out.trans ⟨rfl, rfl, rfl, Nat.le_refl _, fun _ _ => rfl⟩⟩
      case measure => simp [intOf]; omega
    · have HB := Lib.hid hb; clear hb
      go_wp2_with fail
      go_ret
      exact ⟨rfl, HB.out⟩

end Go.Proofs.YtoidjapenompiaaDoor

/-
  A block that holds words; pieces of a list written over.
-/
namespace Go.Proofs.YtoidjapenompiaaDoor
open Go.RowKit Go.Proofs.ShaWords

/-- A block that holds these words. -/
def WordsAt (w : World) (g : Nat) (t : TypeId) (l : List (BitVec 32)) : Prop := w.heap[g]? = some (.cells (wordsV l).toArray t (0, 0))
theorem WordsAt.size {w : World} {g : Nat} {t : TypeId} {l : List (BitVec 32)} (h : WordsAt w g t l) : g < w.heap.size := (Array.getElem?_eq_some_iff.1 h).1
theorem WordsAt.keep {w w' : World} {g : Nat} {t : TypeId} {l : List (BitVec 32)} (h : WordsAt w g t l) (hb : Below w.heap.size w w') : WordsAt w' g t l := (hb.block _ h.size).trans h
theorem WordsAt.cell {w : World} {g : Nat} {t : TypeId} {l : List (BitVec 32)} (h : WordsAt w g t l) (k : Nat) (hk : k < l.length) : w.cell? ⟨g, k, none⟩ = some (.int .u32 (n32 (l.getD k 0#32))) := by
  rw [cell_wordsV h hk]; simp [List.getD, hk]
theorem WordsAt.set {w : World} {g : Nat} {t : TypeId} {l : List (BitVec 32)} (h : WordsAt w g t l) (k : Nat) (x : BitVec 32) : WordsAt (w.setCell ⟨g, k, none⟩ (.int .u32 (n32 x))) g t (l.set k x) := by
  show _ = _
  rw [heap_setCell_same _ _ _ _ _ _ h, wordsV_set]
theorem WordsAt.range {w : World} {g : Nat} {t : TypeId} {l : List (BitVec 32)} (h : WordsAt w g t l) : w.rangeAt g 0 (wordsV l) := fun j v hv => by
  rw [Nat.zero_add, cell_of_row w g j _ t _ h]; simpa using hv
theorem WordsAt.drew {w : World} {g : Nat} {t : TypeId} {l : List (BitVec 32)} (h : WordsAt w g t l) : WordsAt w.drew g t l := h
theorem BytesAt.cell {w : World} {g : Nat} {t : TypeId} {l : List (BitVec 8)} (h : BytesAt w g t l) (k : Nat) (hk : k < l.length) : w.cell? ⟨g, k, none⟩ = some (.int .u8 (n8 (l.getD k 0#8))) := by
  rw [cell_bytesV h hk]; simp [List.getD, hk]
theorem BytesAt.put {w : World} {g : Nat} {t : TypeId} {l : List (BitVec 8)} (h : BytesAt w g t l) (k : Nat) (x : BitVec 8) : BytesAt (w.setCell ⟨g, k, none⟩ (.int .u8 (n8 x))) g t (l.set k x) := setCell_bytes h x
end Go.Proofs.YtoidjapenompiaaDoor

/-
  A slice of bytes of the call's own: its block; a byte written. Blocks of bytes, many at once.
-/
namespace Go.Proofs.YtoidjapenompiaaDoor
open Go.RowKit Go.Proofs.ShaWords
theorem Own.form8 {B : Nat} {w : World} {l : List (BitVec 8)} {v : Value} (h : Own B w l v) (hne : 0 < l.length) : ∃ g cap, v = .slice (some ⟨g, 0, none⟩) l.length cap ∧ B ≤ g ∧ g < w.heap.size ∧ l.length ≤ cap ∧ cap ≤ maxLen ∧
    (∀ j, j < l.length → w.cell? ⟨g, j, none⟩ = some (.int .u8 (n8 (l.getD j 0#8)))) ∧ ∀ j, w.frozen? ⟨g, j, none⟩ = false := by
  rcases h.2 with ⟨rfl, h0⟩ | ⟨g, cap, cur, rfl, hg, hh, hc, hm, hs, ht⟩
  · omega
  · refine ⟨g, cap, rfl, hg, (Array.getElem?_eq_some_iff.1 hh).1, hc, hm, fun j hj => ?_, fun j => frozen_of_row _ _ _ _ _ hh⟩
    rw [cell_of_row w g j cur 5 (0, 0) hh]
    have hv : (bytesV l)[j]? = some (.int .u8 (n8 (l.getD j 0#8))) := by simp [bytesV, List.getD, hj]
    rw [← ht, Nat.mul_one, List.getElem?_take, if_pos hj] at hv
    simpa using hv
theorem Own.put {B g n cap : Nat} {w : World} {l : List (BitVec 8)} (h : Own B w l (.slice (some ⟨g, 0, none⟩) n cap)) (k : Nat) (x : BitVec 8) : Own B (w.setCell ⟨g, k, none⟩ (.int .u8 (n8 x))) (l.set k x) (.slice (some ⟨g, 0, none⟩) n cap) := by
  rcases h.2 with ⟨h0, _⟩ | ⟨g', cap', cur, he, hg, hh, hc, hm, hs, ht⟩
  · cases h0
  · cases he
    refine ⟨by rw [bytesV_length, Nat.mul_one], .inr ⟨g, cap, cur.setIfInBounds k (.int .u8 (n8 x)), by rw [List.length_set], hg, heap_setCell_same _ _ _ _ _ _ hh, by rw [List.length_set]; exact hc, hm, by rw [Array.size_setIfInBounds]; exact hs, ?_⟩⟩
    rw [Nat.mul_one] at ht
    rw [List.length_set, Array.toList_setIfInBounds, Nat.mul_one, List.take_set, ht]
    simp [bytesV, List.map_set]
/-- Blocks of bytes that the call has made. -/
structure Has (w0 : World) (L : List (Nat × TypeId × List (BitVec 8))) (w : World) : Prop where
  below : Below w0.heap.size w0 w
  all : ∀ (i g : Nat) (t : TypeId) (l : List (BitVec 8)), L[i]? = some (g, t, l) → BytesAt w g t l ∧ w0.heap.size ≤ g
theorem Has.on {w0 wr w' : World} {L : List (Nat × TypeId × List (BitVec 8))} (h : Has w0 L wr) (hb : Below wr.heap.size wr w') : Has w0 L w' :=
  ⟨h.below.trans (hb.mono h.below.size), fun i g t l e => ⟨(h.all i g t l e).1.keep hb, (h.all i g t l e).2⟩⟩
theorem Has.add {w0 wr : World} {L : List (Nat × TypeId × List (BitVec 8))} (h : Has w0 L wr) {g : Nat} {t : TypeId} {l : List (BitVec 8)} (hb : BytesAt wr g t l) (hg : w0.heap.size ≤ g) : Has w0 ((g, t, l) :: L) wr :=
  ⟨h.below, fun i g' t' l' e => by
    cases i with
    | zero => simp only [List.getElem?_cons_zero, Option.some.injEq, Prod.mk.injEq] at e; obtain ⟨rfl, rfl, rfl⟩ := e; exact ⟨hb, hg⟩
    | succ i => rw [List.getElem?_cons_succ] at e; exact h.all i g' t' l' e⟩
end Go.Proofs.YtoidjapenompiaaDoor

/-
  The kit's functions on byte lists, whatever their length.
-/
namespace Go.Proofs.YtoidjapenompiaaDoor
open Go.RowKit Go.Proofs.ShaWords
/-- One byte more, behind a slice of the call's own. -/
theorem wpList_append_byte_big {ops : Array Oper} {rest : List Oper} {o : Oper} {a : Act} {w : World} {Q : Exit → Act → World → Prop} (hgd : o.guard = none) (s x : Operand)
    (ho : o.op = .call { callee := .builtin .append, args := #[s, x], argTypes := #[37, 37] }) (B : Nat) (v : Value) (l : List (BitVec 8)) (b : BitVec 8) (hs : a.eval s = v) (hown : Own B w l v) (hx : a.eval x = .slice (some ⟨w.heap.size, 0, none⟩) 1 1)
    (hl : l.length < 140737488355328) (hB : B ≤ w.heap.size)
    (h : ∀ v' w', Own B w' (l ++ [b]) v' → Below B w w' → wpList Tryd.prog ops Q rest (a.put o.dst v') w') : wpList Tryd.prog ops Q (o :: rest) a (w.alloc (.cells #[.int .u8 (n8 b)] 5)) := by
  obtain ⟨i, hi, hz, hsz, hby⟩ := info5'
  refine wpList_append_own (w := w.alloc (.cells #[.int .u8 (n8 b)] 5)) hgd s x 37 ho B 5 i (.int .u8 0) 1 1 Tryd.underlying37 hi hz hsz hby rfl (by decide) v l.length (bytesV l) hs (hown.alloc _) ⟨w.heap.size, 0, none⟩ 1 1 [.int .u8 (n8 b)] hx rfl ?_ ?_ (by unfold maxLen; omega) (by omega) (by rw [size_alloc]; omega) ?_
  · intro j u hu
    have hj : j = 0 := by have := (List.getElem?_eq_some_iff.1 hu).1; simp at this; exact this
    subst hj
    rw [Addr.add_mid, cell_of_row _ _ _ _ _ _ (heap_new_at rfl)]
    simpa using hu
  · intro u hu
    rw [List.mem_singleton.1 hu]; rfl
  · intro v' w' ho' hg _
    refine h v' w' ?_ ?_
    · unfold Own
      rw [List.length_append, bytesV_append]; exact ho'
    · refine ((Below.refl B w).alloc hB _).grown hg (by rw [size_alloc]; omega) (fun k hk => ?_)
      exact (hown.lt k hk).1
set_option maxHeartbeats 400000 in
theorem copy_big (l : List (BitVec 8)) (p : Option Addr) (cap : Nat) (w : World) (hl : l.length < 140737488355328) (hL : Lies w p l) :
    Calls Tryd.prog 33 #[.slice p l.length cap] w fun e w' => ∃ v, e = .returned v ∧ Own w.heap.size w' l v ∧ Below w.heap.size w w' := by
  have HL := Lib.hid hL; clear hL
  go_enter Tryd.func33, Tryd.ntmps33
  go_wp2_with fail
  go_loopw [3, 4] (fun v i wr => ∃ k : Nat, k ≤ l.length ∧ i = .int .i64 k ∧ Own w.heap.size wr (l.take k) v ∧ Below w.heap.size w wr) (fun _ i _ => l.length - (intOf i).toNat)
  case atStart => exact ⟨0, Nat.zero_le _, rfl, Own.nil _ _, Below.refl _ _⟩
  case round =>
    obtain ⟨k, hk, rfl, ho, hb⟩ := hrel
    have sz := hb.size
    by_cases hlt : k < l.length
    · rcases HL.out with h0 | ⟨b, off, rfl, hr⟩
      · exfalso; rw [h0] at hlt; simp at hlt
      · have hv : (bytesV l)[k]? = some (.int .u8 (n8 l[k])) := by simp [bytesV, hlt]
        have hbl := World.block_lt_of_cell? w _ (hr k _ hv)
        have hc := (hb.cell (p := ⟨b, off + k, none⟩) hbl).trans (hr k _ hv)
        clear hv
        have HTK := Lib.hid (List.take_succ_eq_append_getElem hlt)
        generalize l[k] = x at hc HTK
        have hk1 : (l.take k).length < 140737488355328 := by rw [List.length_take]; omega
        have HO := Lib.hid ho; clear ho
        have HB := Lib.hid hb; clear hb hr hbl
        have HK1 := Lib.hid hk1; clear hk1
        go_wp2_with (at_builtin; refine wpList_append_byte_big rfl (.tmp 11) (.tmp 16) rfl w.heap.size _ (l.take k) x rfl HO.out rfl HK1.out (by omega) ?_; intro v' w' ho' hb'; rw [← HTK.out] at ho'; have HO' := Lib.hid ho'; have HB' := Lib.hid (HB.out.trans hb'); clear ho' hb')
        go_roundw
        case rel => exact ⟨k + 1, by omega, by go_num, HO'.out, HB'.out⟩
        case measure => simp [intOf]; omega
    · have HO := Lib.hid ho; clear ho
      have HB := Lib.hid hb; clear hb
      go_wp2_with fail
      go_ret
      refine ⟨_, rfl, ?_, HB.out⟩
      have h1 := HO.out
      rw [List.take_of_length_le (by omega)] at h1
      exact h1
theorem copy_bigL (l : List (BitVec 8)) (n : Nat) (p : Option Addr) (cap : Nat) (w : World) (hln : l.length = n) (hl : n < 140737488355328) (hL : Lies w p l) :
    Calls Tryd.prog 33 #[.slice p n cap] w fun e w' => ∃ v, e = .returned v ∧ Own w.heap.size w' l v ∧ Below w.heap.size w w' := by
  subst hln
  exact copy_big l p cap w hl hL
end Go.Proofs.YtoidjapenompiaaDoor

/-
  A call that changes a few blocks alone: what it leaves; bytes that lie in blocks of a set.
-/
namespace Go.Proofs.YtoidjapenompiaaDoor
open Go.RowKit Go.Proofs.ShaWords

/-- All blocks stay but those of F; new ones come. -/
structure Stays (F : Nat → Prop) (w w' : World) : Prop where
  os : w'.os = w.os
  tape : w'.tape = w.tape
  output : w'.output = w.output
  size : w.heap.size ≤ w'.heap.size
  block : ∀ k, k < w.heap.size → ¬ F k → w'.heap[k]? = w.heap[k]?
theorem Stays.refl (F : Nat → Prop) (w : World) : Stays F w w := ⟨rfl, rfl, rfl, Nat.le_refl _, fun _ _ _ => rfl⟩
theorem Stays.trans {F G : Nat → Prop} {w w' w'' : World} (h : Stays F w w') (h2 : Stays G w' w'') (hG : ∀ k, G k → k < w.heap.size → F k) : Stays F w w'' :=
  ⟨h2.os.trans h.os, h2.tape.trans h.tape, h2.output.trans h.output, Nat.le_trans h.size h2.size, fun k hk hn => (h2.block k (Nat.lt_of_lt_of_le hk h.size) (fun g => hn (hG k g hk))).trans (h.block k hk hn)⟩
theorem Stays.more {F G : Nat → Prop} {w w' : World} (h : Stays F w w') (hG : ∀ k, F k → G k) : Stays G w w' := ⟨h.os, h.tape, h.output, h.size, fun k hk hn => h.block k hk (fun f => hn (hG k f))⟩
theorem Below.stays {F : Nat → Prop} {w w' : World} (h : Below w.heap.size w w') : Stays F w w' := ⟨h.os, h.tape, h.output, h.size, fun k hk _ => h.block k hk⟩
theorem Stays.below {F : Nat → Prop} {B : Nat} {w w' : World} (h : Stays F w w') (hF : ∀ k, F k → B ≤ k) (hB : B ≤ w.heap.size) : Below B w w' := ⟨h.os, h.tape, h.output, h.size, fun k hk => h.block k (by omega) (fun f => by have := hF k f; omega)⟩
theorem grown_stays {F : Nat → Prop} {r : Option Nat} {w w' : World} (h : w.grownBy w' r) (hF : ∀ k, r = some k → F k) : Stays F w w' := ⟨h.os, h.tape, h.output, h.size, fun k hk hn => h.block k hk (fun e => hn (hF k e.symm))⟩
theorem ownsRow_stays {F : Nat → Prop} {w w' : World} {B size n : Nat} {e : TypeId} {v : Value} {xs : List Value} (h : w.ownsRow B e size v n xs) (hk : Stays F w w') (hne : ∀ k, v.ownBlock = some k → ¬ F k) : w'.ownsRow B e size v n xs := by
  refine ⟨h.1, ?_⟩
  rcases h.2 with h0 | ⟨g, cap, cur, he, hg, hh, r⟩
  · exact Or.inl h0
  · exact Or.inr ⟨g, cap, cur, he, hg, (hk.block g (Array.getElem?_eq_some_iff.1 hh).1 (hne g (by rw [he]; rfl))).trans hh, r⟩
/-- Bytes that lie in a block of D. -/
def LiesIn (D : Nat → Prop) (w : World) (p : Option Addr) (l : List (BitVec 8)) : Prop := l = [] ∨ ∃ b off, p = some ⟨b, off, none⟩ ∧ D b ∧ b < w.heap.size ∧ w.rangeAt b off (bytesV l)
theorem LiesIn.lies {D : Nat → Prop} {w : World} {p : Option Addr} {l : List (BitVec 8)} (h : LiesIn D w p l) : Lies w p l := by
  rcases h with h0 | ⟨b, off, rfl, _, _, hr⟩
  · exact Or.inl h0
  · exact Or.inr ⟨b, off, rfl, hr⟩
theorem LiesIn.more {D E : Nat → Prop} {w : World} {p : Option Addr} {l : List (BitVec 8)} (h : LiesIn D w p l) (hE : ∀ k, D k → k < w.heap.size → E k) : LiesIn E w p l := by
  rcases h with h0 | ⟨b, off, rfl, hd, hb, hr⟩
  · exact Or.inl h0
  · exact Or.inr ⟨b, off, rfl, hE b hd hb, hb, hr⟩
theorem range_of_block {w w' : World} {b off : Nat} {xs : List Value} (h : w.rangeAt b off xs) (hb : w'.heap[b]? = w.heap[b]?) : w'.rangeAt b off xs := fun j v hv => (World.cell?_of_block (a := ⟨b, off + j, none⟩) hb).trans (h j v hv)
theorem LiesIn.keep {D F : Nat → Prop} {w w' : World} {p : Option Addr} {l : List (BitVec 8)} (h : LiesIn D w p l) (hk : Stays F w w') (hD : ∀ k, F k → ¬ D k) : LiesIn D w' p l := by
  rcases h with h0 | ⟨b, off, rfl, hd, hb, hr⟩
  · exact Or.inl h0
  · exact Or.inr ⟨b, off, rfl, hd, Nat.lt_of_lt_of_le hb hk.size, range_of_block hr (hk.block b hb (fun f => hD b f hd))⟩
theorem Lies.stay {b : Nat} {w w' : World} {p : Option Addr} {l : List (BitVec 8)} (h : Lies w p l) (hk : Stays (fun k => k = b) w w') (hb : ∀ (off : Nat) (x : BitVec 8), w.cell? ⟨b, off, none⟩ ≠ some (.int .u8 (n8 x))) : Lies w' p l := by
  rcases h with h0 | ⟨c, off, rfl, hr⟩
  · exact Or.inl h0
  · cases l with
    | nil => exact Or.inl rfl
    | cons x l =>
      have h0 := hr 0 (.int .u8 (n8 x)) rfl
      have h1 : c < w.heap.size := World.block_lt_of_cell? w _ h0
      exact Or.inr ⟨c, off, rfl, range_of_block hr (hk.block c h1 (fun e => by subst e; exact hb _ _ h0))⟩
theorem lies_takeB {W : World} {p : Option Addr} {l : List (BitVec 8)} (h : Lies W p l) (k : Nat) : Lies W p (l.take k) := by
  rcases h with h0 | ⟨b, off, rfl, hr⟩
  · exact Or.inl (by rw [h0]; simp)
  · refine Or.inr ⟨b, off, rfl, fun j v hv => hr j v ?_⟩
    simp only [bytesV, List.map_take] at hv
    rw [List.getElem?_take] at hv
    split at hv
    · exact hv
    · cases hv
/-- A slice of bytes that lie in a block of D. -/
def SliceIn (D : Nat → Prop) (w : World) (v : Value) (l : List (BitVec 8)) : Prop := ∃ q c, v = .slice q l.length c ∧ l.length ≤ c ∧ c ≤ maxLen ∧ LiesIn D w q l
theorem SliceIn.keep {D F : Nat → Prop} {w w' : World} {v : Value} {l : List (BitVec 8)} (h : SliceIn D w v l) (hk : Stays F w w') (hD : ∀ k, F k → ¬ D k) : SliceIn D w' v l := by
  obtain ⟨q, c, rfl, h1, h2, h3⟩ := h
  exact ⟨q, c, rfl, h1, h2, h3.keep hk hD⟩
theorem SliceIn.more {D E : Nat → Prop} {w : World} {v : Value} {l : List (BitVec 8)} (h : SliceIn D w v l) (hE : ∀ k, D k → k < w.heap.size → E k) : SliceIn E w v l := by
  obtain ⟨q, c, rfl, h1, h2, h3⟩ := h
  exact ⟨q, c, rfl, h1, h2, h3.more hE⟩
end Go.Proofs.YtoidjapenompiaaDoor

/-
  A struct built out of its parts, one behind the other; a slice of one struct.
-/
namespace Go.Proofs.YtoidjapenompiaaDoor
open Go.RowKit Go.Proofs.ShaWords

theorem fold_list (off : Nat) : ∀ (vs : List Value) (k : Nat) (pre m rest : List Value), pre.length = off + k → m.length = vs.length →
    (vs.zipIdx k).foldl (fun (cs : Array Value) x => cs.setIfInBounds (off + x.2) x.1) (pre ++ m ++ rest).toArray = (pre ++ vs ++ rest).toArray
  | [], k, pre, m, rest, _, hm => by
    obtain rfl : m = [] := List.length_eq_zero_iff.1 hm
    simp
  | v :: vs, k, pre, [], rest, _, hm => by simp at hm
  | v :: vs, k, pre, a :: m, rest, hp, hm => by
    rw [List.zipIdx_cons, List.foldl_cons]
    have e : (pre ++ a :: m ++ rest).toArray.setIfInBounds (off + k) v = ((pre ++ [v]) ++ m ++ rest).toArray := by
      rw [List.setIfInBounds_toArray, ← hp, List.append_assoc, List.set_append_right _ _ (Nat.le_refl _), Nat.sub_self]
      simp
    rw [e, fold_list off vs (k + 1) (pre ++ [v]) m rest (by simp; omega) (by simpa using hm)]
    simp
/-- The parts stand one behind the other. -/
def Fits (place : Nat → Option (Nat × Nat)) : Nat → Nat → List Value → Prop
  | _, _, [] => True
  | i, off, v :: vs => place i = some (off, v.cells.size) ∧ Fits place (i + 1) (off + v.cells.size) vs
theorem fill_seq (place : Nat → Option (Nat × Nat)) : ∀ (vs : List Value) (i : Nat) (pre m rest : List Value), Fits place i pre.length vs → m.length = (vs.flatMap (·.cells.toList)).length →
    Instr.fill place (pre ++ m ++ rest).toArray ((vs.zipIdx i).map fun x => (x.2, x.1)) = some (pre ++ vs.flatMap (·.cells.toList) ++ rest).toArray
  | [], i, pre, m, rest, _, hm => by
    obtain rfl : m = [] := List.length_eq_zero_iff.1 hm
    simp [Instr.fill]
  | v :: vs, i, pre, m, rest, hf, hm => by
    rw [List.flatMap_cons, List.length_append] at hm
    obtain ⟨m1, m2, rfl, h1⟩ : ∃ m1 m2, m = m1 ++ m2 ∧ m1.length = v.cells.toList.length := ⟨m.take v.cells.toList.length, m.drop v.cells.toList.length, (List.take_append_drop _ _).symm, by rw [List.length_take]; omega⟩
    rw [List.length_append, h1] at hm
    rw [List.zipIdx_cons, List.map_cons, Instr.fill]
    simp only [hf.1]
    have hs : ¬ (v.cells.size ≠ v.cells.size || decide (pre.length + v.cells.size > (pre ++ (m1 ++ m2) ++ rest).toArray.size)) = true := by
      simp only [List.size_toArray, List.length_append, h1, Array.length_toList]
      simp
      omega
    rw [if_neg (by simpa using hs)]
    have e : v.cells.zipIdx.foldl (fun cs x => cs.setIfInBounds (pre.length + x.2) x.1) (pre ++ (m1 ++ m2) ++ rest).toArray = ((pre ++ v.cells.toList) ++ m2 ++ rest).toArray := by
      rw [← Array.foldl_toList, Array.toList_zipIdx]
      have h := fold_list pre.length v.cells.toList 0 pre m1 (m2 ++ rest) rfl h1
      have e1 : pre ++ (m1 ++ m2) ++ rest = pre ++ m1 ++ (m2 ++ rest) := by simp
      rw [e1, h]
      simp
    have ih := fill_seq place vs (i + 1) (pre ++ v.cells.toList) m2 rest (by rw [List.length_append, Array.length_toList]; exact hf.2) (by omega)
    rw [e, ih]
    simp
end Go.Proofs.YtoidjapenompiaaDoor

/-
  What the rows share: the program's own knobs; bytes out of a slice that came in; arrays of bytes and numbers that came in.
-/
namespace Go.Proofs.YtoidjapenompiaaDoor
open Go.ChangeShapes Go.WideShapes Go.ChangeAt Go.RowKit Go.Proofs.ShaWords Go.Deep

theorem own : ownKnob Tryd.prog.godebug = none := by kernel_rfl
theorem laidOut : laidOutB Tryd.prog = true := by kernel_rfl
theorem n8_ofInt (z : Int) (h : (Lit.int .u8 z).wf = true) : n8 (BitVec.ofInt 8 z) = z := by
  have hb := bounds_u8 h
  unfold n8
  obtain ⟨k, rfl⟩ := Int.eq_ofNat_of_zero_le hb.1
  rw [ofInt_u8 k (by omega)]
/-- Bytes out of a slice that came in. -/
theorem open_bytes {H : Type} {enc : TypeId × Value → H} {W : World} {fuel : Nat} {a : Option Addr} {len cap : Nat} {x : DataW H × List MemPlace}
    (h : DataW.trod enc Tryd.prog W 0 (fun _ => true) true fuel 37 (Value.cells (.slice a len cap)).toList = some x) :
    ∃ bs : List (BitVec 8), bs.length = len ∧ len ≤ cap ∧ Lies W a bs ∧ ((x.1 = .nil ∧ cap = 0) ∨ ∃ e sp, x.1 = .slice e sp ∧ e.length + sp.length = cap) := by
  rcases open_ints Tryd.underlying37 Tryd.underlying5 (by kernel_rfl) h with ⟨hcs, hx⟩ | ⟨y, l, c, zs, hcs, _, hl, hm, hz, hx, hcell, hwz⟩
  · simp [Value.cells] at hcs
    obtain ⟨rfl, rfl, rfl⟩ := hcs
    exact ⟨[], rfl, Nat.le_refl _, .inl rfl, .inl ⟨by rw [hx], rfl⟩⟩
  · simp [Value.cells] at hcs
    obtain ⟨rfl, rfl, rfl⟩ := hcs
    have hz' : zs.length = cap := by simpa using hz
    refine ⟨(zs.take len).map (BitVec.ofInt 8), by simp; omega, hl, ?_, .inr ⟨_, _, by rw [hx], by simp [lits]; omega⟩⟩
    by_cases h0 : len = 0
    · left; subst h0; simp
    · right
      obtain ⟨b, off, rfl, hc⟩ := ints_at hcell (by omega)
      refine ⟨b, off, rfl, fun j v hv => ?_⟩
      simp only [bytesV, List.map_map, List.getElem?_map, Option.map_eq_some_iff] at hv
      obtain ⟨z, hz1, rfl⟩ := hv
      have hj : j < len := by have := (List.getElem?_eq_some_iff.1 hz1).1; simp at this; omega
      have hz2 : zs[j]? = some z := by rw [List.getElem?_take] at hz1; simpa [hj] using hz1
      have hw : (Lit.int .u8 z).wf = true := hwz z (List.mem_of_getElem? hz2)
      rw [hc j (by omega)]
      simp only [Function.comp, n8_ofInt z hw, List.getD, hz2, Option.getD_some]
end Go.Proofs.YtoidjapenompiaaDoor

/-
  bytes.Clone and bytes.Equal, of bytes that lie anywhere.
-/
namespace Go.Proofs.YtoidjapenompiaaDoor
open Go.RowKit Go.Proofs.ShaWords
theorem append_nilB (B : Nat) (ty : TypeId) (v : Value) (l : List (BitVec 8)) (w : World) (hown : Own B w l v) (c : Nat) :
    (Builtin.append_ #[37, 37] ty #[v, .slice none 0 c]).run Tryd.prog w = .ok v w := by
  obtain ⟨i, hi, -, -, -⟩ := info5'
  rcases hown.2 with ⟨rfl, -⟩ | ⟨g, cap, cur, rfl, _, _, hnc, _⟩
  · simp [Builtin.append_, run_underlying Tryd.underlying37, sizeOf, typeInfo, hi, Builtin.lenOf, Builtin.firstCells]
  · simp [Builtin.append_, run_underlying Tryd.underlying37, sizeOf, typeInfo, hi, Builtin.lenOf, Builtin.firstCells, hnc, storeCells]
/-- Bytes that lie anywhere, however many, appended to a slice of the call's own. -/
theorem wpList_append_listB {ops : Array Oper} {rest : List Oper} {o : Oper} {a : Act} {w : World} {Q : Exit → Act → World → Prop} (hgd : o.guard = none) (s x : Operand)
    (ho : o.op = .call { callee := .builtin .append, args := #[s, x], argTypes := #[37, 37] }) (B : Nat) (v : Value) (l m : List (BitVec 8)) (p : Option Addr) (c : Nat) (hs : a.eval s = v) (hown : Own B w l v) (hx : a.eval x = .slice p m.length c)
    (hm : Lies w p m) (hl : l.length + m.length < 140737488355328) (hB : B ≤ w.heap.size)
    (h : ∀ v' w', Own B w' (l ++ m) v' → Below B w w' → wpList Tryd.prog ops Q rest (a.put o.dst v') w') : wpList Tryd.prog ops Q (o :: rest) a w := by
  obtain ⟨i, hi, hz, hsz, hby⟩ := info5'
  cases p with
  | none =>
    have hm0 : m = [] := by
      rcases hm with h0 | ⟨b, off, h0, _⟩
      · exact h0
      · cases h0
    subst hm0
    refine wpList_plain hgd fun K hK => ?_
    have hrun := append_nilB B o.type v l w hown c
    unfold Oper.wp
    simp [execOp, ho, resolve, invoke, builtin, hs, hx, hrun, Result.andThen]
    exact hK _ _ (h v w (by rw [List.append_nil]; exact hown) (Below.refl _ _))
  | some ad =>
    refine wpList_append_own w hgd s x 37 ho B 5 i (.int .u8 0) 1 1 Tryd.underlying37 hi hz hsz hby rfl (by decide) v l.length (bytesV l) hs hown ad m.length c (bytesV m) hx (by rw [bytesV_length, Nat.mul_one]) ?_ ?_ (by unfold maxLen; omega) (by omega) hB ?_
    · intro j u hu
      rcases hm with h0 | ⟨b, off, h0, hr⟩
      · subst h0; cases hu
      · cases h0
        rw [Addr.add_mid]
        exact hr j u hu
    · intro u hu
      simp only [bytesV, List.mem_map] at hu
      obtain ⟨y, _, rfl⟩ := hu
      rfl
    · intro v' w' ho' hg _
      refine h v' w' ?_ ?_
      · unfold Own
        rw [List.length_append, bytesV_append]; exact ho'
      · exact (Below.refl B w).grown hg hB (fun k hk => (hown.lt k hk).1)
set_option maxHeartbeats 400000 in
theorem clone_any (l : List (BitVec 8)) (n : Nat) (p : Option Addr) (c : Nat) (w : World) (hn : l.length = n) (hl : n < 140737488355328) (hL : Lies w p l) :
    Calls Tryd.prog 43 #[.slice p n c] w fun e w' => ∃ v, e = .returned v ∧ Own w.heap.size w' l v ∧ Below w.heap.size w w' := by
  have HL := Lib.hid hL; clear hL
  subst hn
  have qT : ∀ (w : World) (a : Option Addr) (n c n' c' : Nat), (binOp .eql 37 (.slice a n c) (.slice none n' c')).run Tryd.prog w = .ok (.bool a.isNone) w := fun w a n c n' c' => Lib.run_eql_slice_nil w _ _ a n c n' c' Tryd.underlying37
  cases p with
  | none =>
    obtain rfl : l = [] := by
      rcases HL.out with h0 | ⟨b, off, h0, _⟩
      · exact h0
      · cases h0
    go_enter Tryd.func43, Tryd.ntmps43
    go_wp2_with fail
    go_ret
    exact ⟨_, rfl, Own.nil _ _, Below.refl _ _⟩
  | some ad =>
    have HO : Hid (Own w.heap.size (w.alloc (.cells #[] 5)) [] (.slice (some ⟨w.heap.size, 0, none⟩) 0 0)) := show Own _ _ _ _ from World.ownsRow_lit w #[] 0 (Nat.le_refl _) (Nat.zero_le _) rfl
    have HB0 : Hid (Below w.heap.size w (w.alloc (.cells #[] 5))) := show Below _ _ _ from (Below.refl _ _).alloc (Nat.le_refl _) _
    go_enter Tryd.func43, Tryd.ntmps43
    go_wp2_with (at_builtin; refine wpList_append_listB rfl (.tmp 5) (.tmp 6) rfl w.heap.size _ [] l (some ad) c rfl HO.out rfl (HL.out.below HB0.out) (by simpa using hl) (by rw [size_alloc]; omega) ?_; intro v1 w1 h1 b1; have HO1 := Lib.hid h1; have HB1 := Lib.hid b1; clear h1 b1)
    go_ret
    exact ⟨_, rfl, by have h := HO1.out; rwa [List.nil_append] at h, HB0.out.trans HB1.out⟩
end Go.Proofs.YtoidjapenompiaaDoor

/-
  Bytes appended to a slice of one's own, and bytes copied into its midst: which block changes.
-/
namespace Go.Proofs.YtoidjapenompiaaDoor
open Go.RowKit Go.Proofs.ShaWords
theorem run_appendAt {ρ : Operand → Value} {o : Oper} {s x : Operand} {w : World} {v : Value} {p : Option Addr} {k c : Nat} (ho : o.op = .call { callee := .builtin .append, args := #[s, x], argTypes := #[37, 37] }) (hs : ρ s = v) (hx : ρ x = .slice p k c)
    (B : Nat) (l m : List (BitVec 8)) (hown : Own B w l v) (hk : m.length = k) (hm : Lies w p m) (hl : l.length + k < 140737488355328) (hB : B ≤ w.heap.size) :
    ∃ v' w', (execOp ρ o).run Tryd.prog w = .ok (.value v') w' ∧ Own B w' (l ++ m) v' ∧ w.grownBy w' v.ownBlock ∧ (v'.ownBlock = v.ownBlock ∨ v'.ownBlock = some w.heap.size) := by
  subst hk
  obtain ⟨i, hi, hz, hsz, hby⟩ := info5'
  obtain ⟨dst, op, ty', pos, after, guard⟩ := o
  simp only at ho
  subst ho
  cases p with
  | none =>
    have hm0 : m = [] := by
      rcases hm with h0 | ⟨b, off, h0, _⟩
      · exact h0
      · cases h0
    subst hm0
    refine ⟨v, w, ?_, by rw [List.append_nil]; exact hown, World.grownBy.refl _ _, Or.inl rfl⟩
    have hrun := append_nilB B ty' v l w hown c
    unfold execOp
    simp only [resolve, invoke, builtin, Sem.run_bind, Sem.run_pure, Result.andThen_ok, List.map_toArray, List.map_cons, List.map_nil, hs, hx, List.length_nil, hrun]
  | some ad =>
    obtain ⟨v', w', hr, h2, h3, -, h5⟩ := run_append_own_at (P := Tryd.prog) (w := w) B 37 ty' 5 i (.int .u8 0) 1 1 Tryd.underlying37 hi hz hsz hby rfl (by decide) v l.length (bytesV l) hown ad m.length c (bytesV m) (by rw [bytesV_length, Nat.mul_one]) (fun j u hu => by
      rcases hm with h0 | ⟨b, off, h0, hr⟩
      · subst h0; cases hu
      · cases h0
        rw [Addr.add_mid]
        exact hr j u hu) (fun u hu => bytesV_mem hu) (by unfold maxLen; omega) (by omega) hB
    refine ⟨v', w', ?_, by unfold Own; rw [List.length_append, bytesV_append]; exact h2, h3, h5⟩
    unfold execOp
    simp only [resolve, invoke, builtin, Sem.run_bind, Sem.run_pure, Result.andThen_ok, List.map_toArray, List.map_cons, List.map_nil, hs, hx, hr]
/-- The longest of a copy: bytes that fit behind a place of one's own slice. -/
theorem copy_into {w : World} {l m : List (BitVec 8)} {q p : Option Addr} {n c k j cm : Nat} {q2 : Option Addr} (ty : TypeId) (h : Own 0 w l (.slice q n c)) (hn : l.length = n) (hm : m.length = j) (hp : Lies w p m) (hk : k + j ≤ n) (hq : 0 < j → ∃ b, q = some ⟨b, 0, none⟩ ∧ q2 = some ⟨b, k, none⟩) :
    ∃ w1, (Builtin.copy_ #[37, 37] ty #[.slice q2 (n - k) (c - k), .slice p j cm]).run Tryd.prog w = .ok (goInt j) w1 ∧ Own 0 w1 (l.take k ++ m ++ l.drop (k + m.length)) (.slice q n c) ∧ w.grownBy w1 (Value.slice q n c).ownBlock := by
  have i5 : (Tryd.prog.info? 5).map (·.size) = some 1 := by kernel_rfl
  subst hm hn
  by_cases h0 : m.length = 0
  · obtain rfl : m = [] := List.length_eq_zero_iff.1 h0
    refine ⟨w, run_copy_none (P := Tryd.prog) w _ _ ty 5 q2 p _ _ _ _ Tryd.underlying37 i5 (by simp), ?_, World.grownBy.refl _ _⟩
    simpa using h
  · obtain ⟨b, rfl, rfl⟩ := hq (by omega)
    have hh := h.2
    rcases hh with ⟨h1, _⟩ | ⟨g, cap, cur, he, hg, hb, hc, hmx, hs, ht⟩
    · cases h1
    cases he
    have hcur : cur.toList.length = c := by rw [Array.length_toList, hs, Nat.mul_one]
    obtain ⟨x, r, hx⟩ : ∃ x r, m = x :: r := by
      cases m with
      | nil => simp at h0
      | cons x r => exact ⟨x, r, rfl⟩
    have hsrc : ∃ ad, p = some ad ∧ ∀ j v, (bytesV m)[j]? = some v → w.cell? (ad.add j) = some v := by
      rcases hp with h1 | ⟨b2, off, rfl, hr⟩
      · rw [h1] at hx; cases hx
      · exact ⟨_, rfl, fun j v hv => by rw [Addr.add_mid]; exact hr j v hv⟩
    obtain ⟨ad, rfl, hsrc⟩ := hsrc
    have hbl : (bytesV m).length = m.length := bytesV_length m
    refine ⟨_, by
      have hrun := run_copy_row (P := Tryd.prog) w 37 37 ty 5 b k (l.length - k) (c - k) ad m.length cm cur 5 (bytesV m) Tryd.underlying37 i5 hb (by rw [hbl]; exact (Nat.min_eq_left (by omega)).symm) hsrc (by rw [hbl, ← Array.length_toList, hcur]; omega) (fun v hv => bytesV_mem hv)
      rw [hbl] at hrun
      exact hrun, ?_, grown_setRow _ _ _⟩
    have hL : (l.take k ++ m ++ l.drop (k + m.length)).length = l.length := by rw [List.length_append, List.length_append, List.length_take, List.length_drop]; omega
    refine ⟨by rw [bytesV_length, Nat.mul_one], .inr ⟨b, c, _, by rw [hL], hg, setRow_heap _ _ _ _ _ _ hb, by rw [hL]; exact hc, hmx, ?_, ?_⟩⟩
    · rw [List.size_toArray, List.length_append, List.length_append, List.length_take, List.length_drop, hcur, hbl, Nat.mul_one]; omega
    · rw [Nat.mul_one] at ht ⊢
      rw [hL]
      show List.take l.length (cur.toList.take k ++ bytesV m ++ cur.toList.drop (k + m.length)) = _
      rw [bytesV_append, bytesV_append, bytesV_take, bytesV_drop, ← ht, List.take_take, Nat.min_eq_left (by omega), List.take_append, List.length_append, List.length_take, hcur, Nat.min_eq_left (by omega), hbl, List.take_of_length_le (by rw [List.length_append, List.length_take, hcur, hbl]; omega), List.drop_take]
end Go.Proofs.YtoidjapenompiaaDoor

/-
  A region that draws its order, carried out along one list of its operations, where a store z changes what operations ahead of it read: what holds at all times (S), and what holds until z (E).
-/
namespace Go.Proofs.YtoidjapenompiaaDoor
open Go.RowKit Go.Proofs.ShaWords

/-- Whatever order is picked from here on: behind every operation S holds, and E as long as z has not come up. -/
def wpAnyE (P : Program) (ops : Array Oper) (Q : Exit → Act → World → Prop) (S E : World → Prop) (z : Nat) : Nat → Array Bool → Act → World → Prop
  | 0, L, a, w => Region.ready .any ops L = [] ∧ Q .normal a w
  | f + 1, L, a, w => (Region.ready .any ops L = [] → Q .normal a w) ∧
    ∀ i ∈ Region.ready .any ops L, wpOp P ops Q i (fun a' w' => (S w' ∧ ((L.setIfInBounds i true).getD z true = false → E w')) ∧ wpAnyE P ops Q S E z f (L.setIfInBounds i true) a' w') a w

section
variable {P : Program} {ops : Array Oper} {Q : Exit → Act → World → Prop} {S E : World → Prop} {z : Nat}
theorem wpAny_of_E : ∀ (fuel : Nat) (L : Array Bool) (a : Act) (w : World), wpAnyE P ops Q S E z fuel L a w → wpAny P .any ops Q fuel L a w
  | 0, _, _, _, h => h
  | fuel + 1, _, _, _, h => ⟨h.1, fun i hi => wpOp_mono (fun a' w' h' => wpAny_of_E fuel _ a' w' h'.2) (h.2 i hi)⟩

/-- An operation that may come up now may be taken first: at all times (b false), or because z waits for it (b true). -/
theorem wpAnyE_first {i : Nat} {oi : Oper} {v : Value} (b : Bool) (hi : ops[i]? = some oi) (hsel : ∀ (j : Nat) (o : Oper) cs b, ops[j]? = some o → o.op ≠ .select cs b)
    (hQ : ∀ c a w, Q (.panic c) (a.put oi.dst v) w → Q (.panic c) a w) (hz : b = true → Region.waitsFor .any ops z i = true) (hzi : z ≠ i) :
    ∀ (fuel : Nat) (L : Array Bool) (a : Act) (w : World),
      (∀ j oj, ops[j]? = some oj → j ≠ i → L.getD j true = false → (∀ e ∈ oj.after, Region.binds .any e = true → e.on ≠ i) → oi.apart ops oj = true) →
      i ∈ Region.ready .any ops L → (b = true → L.getD z true = false) → YieldsIf P ops (fun w => S w ∧ (b = true → E w)) oi v a → S w → (L.getD z true = false → E w) →
      wpAnyE P ops Q S E z fuel (L.setIfInBounds i true) (a.put oi.dst v) w → wpAnyE P ops Q S E z (fuel + 1) L a w := by
  intro fuel
  induction fuel with
  | zero =>
    intro L a w _ hr hzl hy hS hE H
    refine ⟨fun h => (by rw [h] at hr; cases hr), fun j hj => ?_⟩
    by_cases hji : j = i
    · subst hji
      refine hy.wpOp hi ⟨hS, fun hb => hE (hzl hb)⟩ ⟨⟨hS, fun h => hE ?_⟩, H⟩
      by_cases hjz : j = z
      · subst hjz
        have hlt : j < L.size := by
          rcases Nat.lt_or_ge j L.size with h' | h'
          · exact h'
          · simp at h
        simp [hlt] at h
      · rw [getD_set_ne true hjz] at h; exact h
    · have := ready_mono hj hji
      rw [H.1] at this
      cases this
  | succ fuel ih =>
    intro L a w hfree hr hzl hy hS hE H
    refine ⟨fun h => (by rw [h] at hr; cases hr), fun j hj => ?_⟩
    by_cases hji : j = i
    · subst hji
      refine hy.wpOp hi ⟨hS, fun hb => hE (hzl hb)⟩ ⟨⟨hS, fun h => hE ?_⟩, H⟩
      by_cases hjz : j = z
      · subst hjz
        have hlt : j < L.size := by
          rcases Nat.lt_or_ge j L.size with h' | h'
          · exact h'
          · simp at h
        simp [hlt] at h
      · rw [getD_set_ne true hjz] at h; exact h
    · have h1 := H.2 j (ready_mono hj hji)
      obtain ⟨hjun, oj, hoj, hall⟩ := mem_ready.1 hj
      have hun : L.getD i false = false := getD_both (mem_ready.1 hr).1
      have hnot : ∀ e ∈ oj.after, Region.binds .any e = true → e.on ≠ i := fun e he hb heq => by
        have h1 := hall e he hb
        rw [heq, hun] at h1; cases h1
      have hjz : b = true → j ≠ z := fun hb e => by
        subst e
        obtain ⟨oz, hoz, e, he, hbd, hon⟩ := Region.waitsFor_spec (hz hb)
        rw [hoj] at hoz; cases hoz
        exact hnot e he hbd hon
      have hset : ((L.setIfInBounds i true).setIfInBounds j true) = ((L.setIfInBounds j true).setIfInBounds i true) := Array.setIfInBounds_comm _ _ (Ne.symm hji)
      have h2 := wpOp_putIf hoj (hfree j oj hoj hji hjun hnot) (fun cs b => hsel i oi cs b hi) (fun cs b => hsel j oj cs b hoj) hQ hy h1
      have hfree' : ∀ k ok, ops[k]? = some ok → k ≠ i → (L.setIfInBounds j true).getD k true = false →
          (∀ e ∈ ok.after, Region.binds .any e = true → e.on ≠ i) → oi.apart ops ok = true := fun k ok hk hki hun hno => by
        refine hfree k ok hk hki ?_ hno
        by_cases hjk : j = k
        · subst hjk; exact hjun
        · rw [getD_set_ne true hjk] at hun; exact hun
      have hE' : ∀ w' : World, (((L.setIfInBounds i true).setIfInBounds j true).getD z true = false → E w') → (L.setIfInBounds j true).getD z true = false → (b = true ∨ z ≠ i) → E w' := fun w' h h0 hbz => by
        refine h ?_
        rw [hset]
        have hiz : i ≠ z := by
          rcases hbz with hb | hb
          · intro e; subst e
            have hj2 := hzl hb
            obtain ⟨oz, hoz, e, he, hbd, hon⟩ := Region.waitsFor_spec (hz hb)
            have := (mem_ready.1 hr).2
            obtain ⟨o', ho', ha⟩ := this
            rw [hoz] at ho'; cases ho'
            have h3 := ha e he hbd
            rw [hon, hun] at h3; cases h3
          · exact fun e => hb e.symm
        rw [getD_set_ne true hiz]; exact h0
      refine wpOp_mono (fun a' w' h3 => ⟨⟨h3.2.1.1, fun h => hE' w' h3.2.1.2 h (.inr hzi)⟩, ih (L.setIfInBounds j true) a' w' hfree' (ready_mono hr (Ne.symm hji)) (fun hb => by rw [getD_set_ne true (hjz hb)]; exact hzl hb) h3.1 h3.2.1.1 (fun h => hE' w' h3.2.1.2 h (.inr hzi)) ?_⟩) h2
      rw [← hset]
      exact h3.2.2
theorem wpAnyE_all {rs : List Nat} {fuel : Nat} {L : Array Bool} {a : Act} {w : World} (hr : Region.ready .any ops L = rs) (hne : rs ≠ [])
    (h : ∀ i ∈ rs, wpOp P ops Q i (fun a' w' => (S w' ∧ ((L.setIfInBounds i true).getD z true = false → E w')) ∧ wpAnyE P ops Q S E z fuel (L.setIfInBounds i true) a' w') a w) : wpAnyE P ops Q S E z (fuel + 1) L a w :=
  ⟨fun h0 => absurd (hr ▸ h0) hne, hr ▸ h⟩
theorem wpAnyE_done {L : Array Bool} {a : Act} {w : World} (hr : Region.ready .any ops L = []) (h : Q .normal a w) : ∀ fuel, wpAnyE P ops Q S E z fuel L a w
  | 0 => ⟨hr, h⟩
  | _ + 1 => ⟨fun _ => h, by rw [hr]; simp⟩
end

/-- How an operation of the list is met: it yields at all times; it yields until z; it stands alone ahead of z; it stands alone, z or behind it. -/
inductive Met where
  | free
  | early
  | before
  | behind
def phaseOk (ops : Array Oper) (z : Nat) : List (Nat × Met) → Array Bool → Bool
  | [], L => (Region.ready .any ops L).isEmpty
  | (i, .free) :: r, L => Region.free .any ops L i && (Region.ready .any ops L).contains i && decide (z ≠ i) && phaseOk ops z r (L.setIfInBounds i true)
  | (i, .early) :: r, L => Region.free .any ops L i && (Region.ready .any ops L).contains i && decide (z ≠ i) && Region.waitsFor .any ops z i && !L.getD z true && phaseOk ops z r (L.setIfInBounds i true)
  | (i, .before) :: r, L => decide (Region.ready .any ops L = [i]) && phaseOk ops z r (L.setIfInBounds i true)
  | (i, .behind) :: r, L => decide (Region.ready .any ops L = [i]) && (L.setIfInBounds i true).getD z true && phaseOk ops z r (L.setIfInBounds i true)
def wpE (P : Program) (ops : Array Oper) (Q : Exit → Act → World → Prop) (S E : World → Prop) : List (Nat × Met) → Act → World → Prop
  | [], a, w => Q .normal a w
  | (i, .free) :: r, a, w => ∃ o v, ops[i]? = some o ∧ YieldsIf P ops S o v a ∧ wpE P ops Q S E r (a.put o.dst v) w
  | (i, .early) :: r, a, w => ∃ o v, ops[i]? = some o ∧ YieldsIf P ops (fun w => S w ∧ E w) o v a ∧ wpE P ops Q S E r (a.put o.dst v) w
  | (i, .before) :: r, a, w => wpOp P ops Q i (fun a' w' => (S w' ∧ E w') ∧ wpE P ops Q S E r a' w') a w
  | (i, .behind) :: r, a, w => wpOp P ops Q i (fun a' w' => S w' ∧ wpE P ops Q S E r a' w') a w
section
variable {P : Program} {ops : Array Oper} {Q : Exit → Act → World → Prop} {S E : World → Prop} {z : Nat}
theorem getD_of_set {L : Array Bool} {i z : Nat} (h : (L.setIfInBounds i true).getD z true = false) : L.getD z true = false := by
  by_cases hiz : i = z
  · subst hiz
    have hlt : i < L.size := by
      rcases Nat.lt_or_ge i L.size with h' | h'
      · exact h'
      · simp at h
    simp [hlt] at h
  · rw [getD_set_ne true hiz] at h; exact h
theorem wpAnyE_phase (hs : Region.noSelect ops = true) (hQ : ∀ c a w, ¬ Q (.panic c) a w) :
    ∀ (r : List (Nat × Met)) (L : Array Bool) (a : Act) (w : World), phaseOk ops z r L = true → S w → (L.getD z true = false → E w) → wpE P ops Q S E r a w → wpAnyE P ops Q S E z r.length L a w
  | [], L, a, w, hc, _, _, h => by
    simp only [phaseOk, List.isEmpty_iff] at hc
    exact wpAnyE_done hc h 0
  | (i, .free) :: r, L, a, w, hc, hS, hE, h => by
    simp only [phaseOk, Bool.and_eq_true, decide_eq_true_eq] at hc
    obtain ⟨o, v, ho, hy, h⟩ := h
    exact wpAnyE_first false ho (Region.noSelect_spec hs) (fun c a w h => absurd h (hQ c _ w)) (by simp) hc.1.2 r.length L a w (Region.free_spec ho hc.1.1.1) (by simpa using hc.1.1.2) (by simp)
      (hy.imp (fun ⟨h1, h2⟩ => ⟨h1, fun w hw => h2 w hw.1⟩) id) hS hE (wpAnyE_phase hs hQ r _ _ w hc.2 hS (fun h0 => hE (getD_of_set h0)) h)
  | (i, .early) :: r, L, a, w, hc, hS, hE, h => by
    simp only [phaseOk, Bool.and_eq_true, decide_eq_true_eq, Bool.not_eq_true'] at hc
    obtain ⟨o, v, ho, hy, h⟩ := h
    exact wpAnyE_first true ho (Region.noSelect_spec hs) (fun c a w h => absurd h (hQ c _ w)) (fun _ => hc.1.1.2) hc.1.1.1.2 r.length L a w (Region.free_spec ho hc.1.1.1.1.1) (by simpa using hc.1.1.1.1.2) (fun _ => hc.1.2)
      (hy.imp (fun ⟨h1, h2⟩ => ⟨h1, fun w hw => h2 w ⟨hw.1, hw.2 rfl⟩⟩) id) hS hE (wpAnyE_phase hs hQ r _ _ w hc.2 hS (fun h0 => hE (getD_of_set h0)) h)
  | (i, .before) :: r, L, a, w, hc, hS, hE, h => by
    simp only [phaseOk, Bool.and_eq_true, decide_eq_true_eq] at hc
    refine wpAnyE_all hc.1 (by simp) (fun j hj => ?_)
    rw [List.mem_singleton.1 hj]
    exact wpOp_mono (fun a' w' h' => ⟨⟨h'.1.1, fun _ => h'.1.2⟩, wpAnyE_phase hs hQ r _ a' w' hc.2 h'.1.1 (fun _ => h'.1.2) h'.2⟩) h
  | (i, .behind) :: r, L, a, w, hc, hS, hE, h => by
    simp only [phaseOk, Bool.and_eq_true, decide_eq_true_eq] at hc
    refine wpAnyE_all hc.1.1 (by simp) (fun j hj => ?_)
    rw [List.mem_singleton.1 hj]
    exact wpOp_mono (fun a' w' h' => ⟨⟨h'.1, fun h0 => by rw [hc.1.2] at h0; cases h0⟩, wpAnyE_phase hs hQ r _ a' w' hc.2 h'.1 (fun h0 => by rw [hc.1.2] at h0; cases h0) h'.2⟩) h
theorem region_phase {id : Nat} {a : Act} {w : World} (S E : World → Prop) (z : Nat) (hS : S w.drew) (hE : E w.drew) (r : List (Nat × Met)) (hm : P.follows .mixedOrders = true) (hs : Region.noSelect ops = true)
    (hl : r.length = ops.size) (hc : phaseOk ops z r (Array.replicate ops.size false) = true)
    (h : ∀ ops', ops' = ops → ∀ A, A = a → wpE P ops' (NoPanic Q) S E r A w.drew) : (Code.region id ops true).wp P Q a w := by
  refine wp_region_noPanic (wp_region_any hm (wpAny_of_E (S := S) (E := E) (z := z) _ _ _ _ ?_))
  rw [← hl]
  exact wpAnyE_phase hs (fun c a w h => h) r _ a w.drew (hl ▸ hc) hS (fun _ => hE) (h ops rfl a rfl)
end

section
variable {P : Program} {ops : Array Oper} {Q : Exit → Act → World → Prop} {S E : World → Prop} {r : List (Nat × Met)} {i : Nat} {o : Oper} {d : Option Tmp} {v : Value} {a : Act} {w w' : World}
theorem met_free (ho : ops[i]? = some o) (hd : o.dst = d) (hw : Region.wanted o (yielded ops a.tmps) = true) (hr : ∀ w, S w → (execOp a.eval o).run P w = .ok (.value v) w) (h : wpE P ops Q S E r (a.put d v) w) : wpE P ops Q S E ((i, .free) :: r) a w :=
  ⟨o, v, ho, .inl ⟨hw, hr⟩, by rw [hd]; exact h⟩
theorem met_early (ho : ops[i]? = some o) (hd : o.dst = d) (hw : Region.wanted o (yielded ops a.tmps) = true) (hr : ∀ w, S w → E w → (execOp a.eval o).run P w = .ok (.value v) w) (h : wpE P ops Q S E r (a.put d v) w) : wpE P ops Q S E ((i, .early) :: r) a w :=
  ⟨o, v, ho, .inl ⟨hw, fun w hw => hr w hw.1 hw.2⟩, by rw [hd]; exact h⟩
theorem met_op (ho : ops[i]? = some o) (hd : o.dst = d) (hw : Region.wanted o (yielded ops a.tmps) = true) (hr : (execOp a.eval o).run P w = .ok (.value v) w') (hS : S w') (h : wpE P ops Q S E r (a.put d v) w') : wpE P ops Q S E ((i, .behind) :: r) a w := by
  show wpOp P ops Q i _ a w
  unfold wpOp
  rw [ho]
  show if Region.wanted o (yielded ops a.tmps) = true then _ else _
  rw [if_pos hw]
  refine .inl ?_
  unfold Oper.wp
  rw [hr, Oper.upon_value, hd]
  exact ⟨hS, h⟩
theorem met_skip (ho : ops[i]? = some o) (hd : o.dst = d) (hw : Region.wanted o (yielded ops a.tmps) = true) (hr : (execOp a.eval o).run P w = .ok .skip w') (hS : S w') (h : wpE P ops Q S E r (a.put d undef) w') : wpE P ops Q S E ((i, .behind) :: r) a w := by
  show wpOp P ops Q i _ a w
  unfold wpOp
  rw [ho]
  show if Region.wanted o (yielded ops a.tmps) = true then _ else _
  rw [if_pos hw]
  refine .inl ?_
  unfold Oper.wp
  rw [hr, Oper.upon_skip, hd]
  exact ⟨hS, h⟩
end
end Go.Proofs.YtoidjapenompiaaDoor

/-
  Steps of region_phase for every kind of operation: calls, values, operations that are not wanted.
-/
namespace Go.Proofs.YtoidjapenompiaaDoor
open Go.RowKit Go.Proofs.ShaWords
section
variable {P : Program} {ops : Array Oper} {Q : Exit → Act → World → Prop} {S E : World → Prop} {r : List (Nat × Met)} {i : Nat} {o : Oper} {d : Option Tmp} {v : Value} {a : Act} {w w' : World}
theorem m_behind (ho : ops[i]? = some o) (hw : Region.wanted o (yielded ops a.tmps) = true)
    (h : o.wp P a w (fun a' w' => S w' ∧ wpE P ops Q S E r a' w') Q) : wpE P ops Q S E ((i, .behind) :: r) a w := by
  show wpOp P ops Q i _ a w
  unfold wpOp
  rw [ho]
  show if Region.wanted o (yielded ops a.tmps) = true then _ else _
  rw [if_pos hw]
  exact .inl h
theorem m_value (ho : ops[i]? = some o) (hd : o.dst = d) (hw : Region.wanted o (yielded ops a.tmps) = true) (hr : (execOp a.eval o).run P w = .ok (.value v) w')
    (h : S w' ∧ wpE P ops Q S E r (a.put d v) w') : wpE P ops Q S E ((i, .behind) :: r) a w := by
  refine m_behind ho hw ?_
  unfold Oper.wp
  rw [hr, Oper.upon_value, hd]
  exact h
theorem m_enter {f : FuncId} {args : Array Value} {R : Ending → World → Prop} (ho : ops[i]? = some o) (hd : o.dst = d) (hw : Region.wanted o (yielded ops a.tmps) = true) (hr : (execOp a.eval o).run P w = .ok (.enter f args) w) (hc : Calls P f args w R)
    (h : ∀ e w', R e w' → ∃ v, e = .returned v ∧ S w' ∧ wpE P ops Q S E r (a.put d v) w') : wpE P ops Q S E ((i, .behind) :: r) a w := by
  refine m_behind ho hw ?_
  unfold Oper.wp
  rw [hr, Oper.upon_enter]
  refine hc.mono ?_
  rintro e w' hR
  obtain ⟨v, rfl, hS, h⟩ := h e w' hR
  rw [hd]
  exact ⟨hS, h⟩
theorem m_unwanted (ho : ops[i]? = some o) (hd : o.dst = d) (hw : Region.wanted o (yielded ops a.tmps) = false) (h : wpE P ops Q S E r (a.put d undef) w) : wpE P ops Q S E ((i, .free) :: r) a w :=
  ⟨o, undef, ho, .inr ⟨hw, rfl⟩, by rw [hd]; exact h⟩
theorem m_skipped (ho : ops[i]? = some o) (hd : o.dst = d) (hw : Region.wanted o (yielded ops a.tmps) = false) (h : S w ∧ wpE P ops Q S E r (a.put d undef) w) : wpE P ops Q S E ((i, .behind) :: r) a w := by
  show wpOp P ops Q i _ a w
  unfold wpOp
  rw [ho]
  show if Region.wanted o (yielded ops a.tmps) = true then _ else _
  rw [if_neg (by rw [hw]; decide), hd]
  exact h
theorem tmp_at {t : Nat} {b : Bool} (he : a.eval (.tmp t) = .bool b) : a.tmps[t]? = some (.bool b) := by
  have h3 : a.tmps.getD t undef = .bool b := he
  rw [Array.getD_eq_getD_getElem?] at h3
  cases h4 : a.tmps[t]? with
  | none => rw [h4] at h3; exact absurd h3 (by simp [undef])
  | some u => rw [h4] at h3; simp at h3; rw [h3]
theorem w_false {j : Nat} {dj : Tmp} {oj : Oper} (hg : o.guard = some (j, false)) (hj : ops[j]? = some oj) (hd : oj.dst = some dj) (he : a.eval (.tmp dj) = .bool false) : Region.wanted o (yielded ops a.tmps) = true := by
  have h2 := tmp_at he
  unfold Region.wanted
  rw [hg]
  simp only [yielded, hj, Option.bind_some, hd, h2]
  rfl
theorem w_not {j : Nat} {dj : Tmp} {oj : Oper} (hg : o.guard = some (j, true)) (hj : ops[j]? = some oj) (hd : oj.dst = some dj) (he : a.eval (.tmp dj) = .bool false) : Region.wanted o (yielded ops a.tmps) = false := by
  have h2 := tmp_at he
  unfold Region.wanted
  rw [hg]
  simp only [yielded, hj, Option.bind_some, hd, h2]
  rfl
end
section
variable {P : Program} {ρ : Operand → Value} {o : Oper} {x y c : Operand} {v : Value}
theorem r_not {b : Bool} {ty : TypeId} (ho : o.op = .unOp .not ty x) (hx : ρ x = .bool b) (w : World) : (execOp ρ o).run P w = .ok (.value (.bool (!b))) w := by
  obtain ⟨dst, op, ty', pos, after, guard⟩ := o
  simp only at ho
  subst ho
  go_simp
theorem r_pickF (ho : o.op = .pick c x y) (hc : ρ c = .bool false) (h : ρ y = v) (w : World) : (execOp ρ o).run P w = .ok (.value v) w := by
  unfold execOp; simp only [ho, hc, h, Sem.run_bind]; rfl
theorem r_from {p p2 : Option Addr} {n cp k : Nat} (ho : o.op = .slice 37 x (some y) none none) (hk : k ≤ n) (hn : n ≤ cp) (hp : (p = none ∧ p2 = none ∧ cp = 0) ∨ ∃ g off, p = some ⟨g, off, none⟩ ∧ (if cp = k then some (⟨g, off, none⟩ : Addr) else some ⟨g, off + k, none⟩) = p2) (hx : ρ x = .slice p n cp) (hy : ρ y = .int .i64 (k : Int)) (w : World) :
    (execOp ρ o).run Tryd.prog w = .ok (.value (.slice p2 (n - k) (cp - k))) w := by
  obtain ⟨dst, op, ty, pos, after, guard⟩ := o
  simp only at ho
  subst ho
  have h0 : (0 : Int) ≤ (k : Int) := by omega
  have h1 : (k : Int) ≤ (n : Int) := by omega
  have h2 : (n : Int) ≤ (cp : Int) := by omega
  rcases hp with ⟨rfl, rfl, rfl⟩ | ⟨g, off, rfl, he⟩
  · obtain rfl : n = 0 := by omega
    obtain rfl : k = 0 := by omega
    go_simp
  · go_simp
end
end Go.Proofs.YtoidjapenompiaaDoor

/-
  Steps of region_phase ahead of the store that ends what is read early.
-/
namespace Go.Proofs.YtoidjapenompiaaDoor
open Go.RowKit Go.Proofs.ShaWords
section
variable {P : Program} {ops : Array Oper} {Q : Exit → Act → World → Prop} {S E : World → Prop} {r : List (Nat × Met)} {i : Nat} {o : Oper} {d : Option Tmp} {v : Value} {a : Act} {w w' : World}
theorem mb_before (ho : ops[i]? = some o) (hw : Region.wanted o (yielded ops a.tmps) = true)
    (h : o.wp P a w (fun a' w' => (S w' ∧ E w') ∧ wpE P ops Q S E r a' w') Q) : wpE P ops Q S E ((i, .before) :: r) a w := by
  show wpOp P ops Q i _ a w
  unfold wpOp
  rw [ho]
  show if Region.wanted o (yielded ops a.tmps) = true then _ else _
  rw [if_pos hw]
  exact .inl h
theorem mb_value (ho : ops[i]? = some o) (hd : o.dst = d) (hw : Region.wanted o (yielded ops a.tmps) = true) (hr : (execOp a.eval o).run P w = .ok (.value v) w')
    (h : (S w' ∧ E w') ∧ wpE P ops Q S E r (a.put d v) w') : wpE P ops Q S E ((i, .before) :: r) a w := by
  refine mb_before ho hw ?_
  unfold Oper.wp
  rw [hr, Oper.upon_value, hd]
  exact h
theorem mb_enter {f : FuncId} {args : Array Value} {R : Ending → World → Prop} (ho : ops[i]? = some o) (hd : o.dst = d) (hw : Region.wanted o (yielded ops a.tmps) = true) (hr : (execOp a.eval o).run P w = .ok (.enter f args) w) (hc : Calls P f args w R)
    (h : ∀ e w', R e w' → ∃ v, e = .returned v ∧ (S w' ∧ E w') ∧ wpE P ops Q S E r (a.put d v) w') : wpE P ops Q S E ((i, .before) :: r) a w := by
  refine mb_before ho hw ?_
  unfold Oper.wp
  rw [hr, Oper.upon_enter]
  refine hc.mono ?_
  rintro e w' hR
  obtain ⟨v, rfl, hS, h⟩ := h e w' hR
  rw [hd]
  exact ⟨hS, h⟩
end
section
variable {ρ : Operand → Value} {o : Oper} {x y : Operand} {w : World}
theorem run_fieldT {T : TypeId} {f off b : Nat} (ho : o.op = .fieldAddr T x f) (hf : ∀ w, (Instr.fieldAt T (.pointer (some ⟨b, 0, none⟩)) f).run Tryd.prog w = .ok (.pointer (some ⟨b, off, none⟩)) w) (h : ρ x = .pointer (some ⟨b, 0, none⟩)) (w : World) :
    (execOp ρ o).run Tryd.prog w = .ok (.value (.pointer (some ⟨b, off, none⟩))) w := by
  unfold execOp; simp only [ho, h, Sem.run_bind, hf, Result.andThen_ok, Sem.run_pure]
end
end Go.Proofs.YtoidjapenompiaaDoor

/-
  The kit's SameBytes at any two lists.
-/
namespace Go.Proofs.YtoidjapenompiaaDoor
open Go.RowKit Go.Proofs.ShaWords
theorem take_next {l m : List (BitVec 8)} {k : Nat} (h1 : k < l.length) (h2 : k < m.length) (h : l.take k = m.take k) (he : l[k] = m[k]) : l.take (k + 1) = m.take (k + 1) := by
  rw [List.take_succ_eq_append_getElem h1, List.take_succ_eq_append_getElem h2, h, he]
theorem n8_eq {x y : BitVec 8} (h : x ≠ y) : ¬ n8 x = n8 y := fun e => h (by
  unfold n8 at e
  exact BitVec.eq_of_toNat_eq (by omega))
set_option maxHeartbeats 800000 in
theorem sameBytes_any (l m : List (BitVec 8)) (n1 n2 : Nat) (p q : Option Addr) (c1 c2 : Nat) (w : World) (h1 : l.length = n1) (h2 : m.length = n2) (hn1 : n1 < 1000000) (hn2 : n2 < 1000000) (hp : Lies w p l) (hq : Lies w q m) :
    Calls Tryd.prog 14 #[.slice p n1 c1, .slice q n2 c2] w fun e w' => e = .returned (.bool (decide (l = m))) ∧ Below w.heap.size w w' := by
  have HP := Lib.hid hp; clear hp
  have HQ := Lib.hid hq; clear hq
  by_cases hne : n1 = n2
  · subst hne
    by_cases heq : l = m
    · subst heq
      refine (same_any l n1 p q c1 c2 w h1 hn1 HP.out HQ.out).mono ?_
      rintro e w' ⟨rfl, hb⟩
      exact ⟨by simp, hb⟩
    have HNE : Hid (decide (l = m) = false) := show _ = _ by simpa using heq
    have HL1 := Lib.hid h1
    have HL2 := Lib.hid h2
    have HEQ := Lib.hid heq
    clear h1 h2 heq
    go_enter Tryd.func14, Tryd.ntmps14
    go_wp2_with fail
    go_loopw [5] (fun i wr => ∃ k : Nat, k ≤ n1 ∧ i = .int .i64 k ∧ l.take k = m.take k ∧ Below w.heap.size w wr) (fun i _ => n1 - (intOf i).toNat)
    case atStart => exact ⟨0, Nat.zero_le _, rfl, by simp, Below.refl _ _⟩
    case round =>
      obtain ⟨k, hk, rfl, ht, hb⟩ := hrel
      by_cases hlt : k < n1
      · have k1 : k < l.length := by rw [HL1.out]; exact hlt
        have k2 : k < m.length := by rw [HL2.out]; exact hlt
        have hv : (bytesV l)[k]? = some (.int .u8 (n8 l[k])) := by simp [bytesV, k1]
        have hv2 : (bytesV m)[k]? = some (.int .u8 (n8 m[k])) := by simp [bytesV, k2]
        rcases HP.out with h0 | ⟨b, off, rfl, hr⟩
        · exfalso; rw [h0] at k1; simp at k1
        rcases HQ.out with h0 | ⟨b2, off2, rfl, hr2⟩
        · exfalso; rw [h0] at k2; simp at k2
        have hc := (hb.cell (p := ⟨b, off + k, none⟩) (World.block_lt_of_cell? w _ (hr k _ hv))).trans (hr k _ hv)
        have hc2 := (hb.cell (p := ⟨b2, off2 + k, none⟩) (World.block_lt_of_cell? w _ (hr2 k _ hv2))).trans (hr2 k _ hv2)
        have HN : Hid (l[k] = m[k] → l.take (k + 1) = m.take (k + 1)) := show _ → _ from fun he => take_next k1 k2 ht he
        generalize l[k] = x at hc hv HN
        generalize m[k] = y at hc2 hv2 HN
        have HB := Lib.hid hb
        clear hb hr hr2 hv hv2 k1 k2 ht
        have q0 : (k : Int) < (n1 : Int) := by omega
        by_cases hxy : x = y
        · subst hxy
          have HN' := Lib.hid (HN.out rfl); clear HN
          go_wp2_with fail
          go_quiet (fail)
          go_wp2_with fail
          go_roundw
          case rel => exact ⟨k + 1, by omega, by go_num, HN'.out, HB.out.trans ⟨rfl, rfl, rfl, Nat.le_refl _, fun _ _ => rfl⟩⟩
          case measure => simp [intOf]; omega
        · have q1 : (n8 x == n8 y) = false := by simpa using n8_eq hxy
          clear HN
          go_wp2_with fail
          go_quiet (fail)
          go_wp2_with fail
          go_ret
          exact ⟨by rw [HNE.out]; rfl, HB.out.trans ⟨rfl, rfl, rfl, Nat.le_refl _, fun _ _ => rfl⟩⟩
      · exfalso
        refine HEQ.out ?_
        rw [List.take_of_length_le (by rw [HL1.out]; omega), List.take_of_length_le (by rw [HL2.out]; omega)] at ht
        exact ht
  · have HNE : Hid (decide (l = m) = false) := show _ = _ by
      have : l ≠ m := fun e => hne (by rw [← h1, ← h2, e])
      simpa using this
    clear h1 h2
    have q0 : ((n1 : Int) == (n2 : Int)) = false := beq_eq_false_iff_ne.2 (by omega)
    have q1 : ¬ (n1 : Int) = (n2 : Int) := by omega
    go_enter Tryd.func14, Tryd.ntmps14
    go_wp2_with fail
    go_ret
    exact ⟨by rw [HNE.out]; rfl, Below.refl _ _⟩
end Go.Proofs.YtoidjapenompiaaDoor

/-
  A key and a nonce in blocks of their own.
-/
namespace Go.Proofs.YtoidjapenompiaaDoor
open Go.RowKit Go.Proofs.ShaWords
theorem infoKey (l : List (BitVec 8)) (h : l.length = 32) : (Tryd.prog.info? 36).map (·.size) = some (bytesV l).toArray.size :=
  (show (Tryd.prog.info? 36).map (·.size) = some 32 by kernel_rfl).trans (congrArg some (bytesV_size _ 32 h).symm)
section
variable {ρ : Operand → Value} {o : Oper} {x : Operand} {w : World}
theorem run_loadKeyB {l : List (BitVec 8)} {b : Nat} (ho : o.op = .load 36 x) (hx : ρ x = .pointer (some ⟨b, 0, none⟩)) (hl : l.length = 32) (hr : BytesAt w b 36 l) : (execOp ρ o).run Tryd.prog w = .ok (.value (.agg (bytesV l).toArray)) w := by
  have h := run_loadAt_mid (P := Tryd.prog) w b 0 36 (bytesV l) _ hr.range Tryd.underlying36 rfl (by rw [bytesV_length, hl]; kernel_rfl)
  unfold execOp
  simp only [ho, hx, Sem.run_bind, h, Result.andThen_ok, Sem.run_pure]
end
end Go.Proofs.YtoidjapenompiaaDoor

/-
  Two arrays of bytes compared; a step of a region by what it yields.
-/
namespace Go.Proofs.YtoidjapenompiaaDoor
open Go.RowKit Go.Proofs.ShaWords
theorem wpList_run {P : Program} {ops : Array Oper} {rest : List Oper} {o : Oper} {a : Act} {w : World} {Q : Exit → Act → World → Prop} {v : Value} (hw : Region.wanted o (yielded ops a.tmps) = true) (hr : (execOp a.eval o).run P w = .ok (.value v) w)
    (h : wpList P ops Q rest (a.put o.dst v) w) : wpList P ops Q (o :: rest) a w := by
  unfold wpList
  rw [if_pos hw]
  refine .inl ?_
  unfold Oper.wp
  rw [hr, Oper.upon_value]
  exact h
theorem bytesV_cell (l : List (BitVec 8)) : bytesV l = (l.map UInt8.ofBitVec).map Go.Extern.Stop.cell := by
  simp [bytesV, Go.Extern.Stop.cell, n8, UInt8.toNat]
theorem run_eqArr {ρ : Operand → Value} {o : Oper} {x y : Operand} {T ty : TypeId} {N : Nat} {l m : List (BitVec 8)} (ho : o.op = .binOp .eql T x y ty) (hT : Tryd.prog.underlying T = some (.array N 5)) (hg : Tryd.prog.eqGuardType Tryd.prog.depth T = false)
    (hl : l.length = N) (hm : m.length = N) (hx : ρ x = .agg (bytesV l).toArray) (hy : ρ y = .agg (bytesV m).toArray) (w : World) :
    (execOp ρ o).run Tryd.prog w = .ok (.value (.bool (decide (l = m)))) w := by
  have h := run_eql_bytes (P := Tryd.prog) w T 5 N hT Tryd.underlying5 (fun w => by kernel_rfl) (l.map UInt8.ofBitVec) (m.map UInt8.ofBitVec) (by simpa using hl) (by simpa using hm)
  rw [← bytesV_cell, ← bytesV_cell] at h
  have e : (l.map UInt8.ofBitVec == m.map UInt8.ofBitVec) = decide (l = m) := by
    rw [Bool.eq_iff_iff]
    simp only [beq_iff_eq, decide_eq_true_eq]
    exact List.map_inj_right (fun a b e => by simpa using congrArg UInt8.toBitVec e)
  rw [e] at h
  unfold execOp
  simp only [ho, hx, hy, Sem.run_bind, run_eqGuard_agg w .eql T x y _ _ hg, Result.andThen_ok, h, Sem.run_pure]
theorem run_loadArr {ρ : Operand → Value} {o : Oper} {x : Operand} {w : World} {T : TypeId} {N b off : Nat} {l : List (BitVec 8)} (ho : o.op = .load T x) (hx : ρ x = .pointer (some ⟨b, off, none⟩)) (hT : Tryd.prog.underlying T = some (.array N 5)) (hi : (Tryd.prog.info? T).map (·.size) = some (bytesV l).length) (hr : w.rangeAt b off (bytesV l)) :
    (execOp ρ o).run Tryd.prog w = .ok (.value (.agg (bytesV l).toArray)) w := by
  have h := run_loadAt_mid (P := Tryd.prog) w b off T (bytesV l) _ hr hT rfl hi
  unfold execOp
  simp only [ho, hx, Sem.run_bind, h, Result.andThen_ok, Sem.run_pure]
end Go.Proofs.YtoidjapenompiaaDoor

/-
  Single operations on slices of bytes: a slice loaded, an element's address, a byte loaded, stored, combined.
-/
namespace Go.Proofs.YtoidjapenompiaaDoor
open Go.RowKit Go.Proofs.ShaWords
theorem eval_none (a : Act) (v : Value) (t : Nat) : (a.put none v).eval (.tmp t) = a.eval (.tmp t) := rfl
section
variable {ρ : Operand → Value} {o : Oper} {x y : Operand} {w : World}
end
end Go.Proofs.YtoidjapenompiaaDoor

/-
  Operations about an append of bytes in a region that draws its order: a slice built of one byte, of four; the append itself; words read, shifted, cut to bytes.
-/
namespace Go.Proofs.YtoidjapenompiaaDoor
open Go.RowKit Go.Proofs.ShaWords
attribute [local go_sem] and32 or32 xor32 add32 shl32 shr32 wrap32_n8 wrap8_n32

section
variable {ρ : Operand → Value} {o : Oper} {x y : Operand} {w : World}
end
end Go.Proofs.YtoidjapenompiaaDoor

/-
  Slices of structs, of one's own: a slice of one struct, and one more behind such a slice.
-/
namespace Go.Proofs.YtoidjapenompiaaDoor
open Go.RowKit Go.Proofs.ShaWords
/-- A struct type of N cells and Z bytes, and the slices of it. -/
structure ElemT (tr ts : TypeId) (N Z : Nat) : Prop where
  sl : Tryd.prog.underlying ts = some (.slice tr)
  info : ∃ i z, Tryd.prog.info? tr = some i ∧ i.zero = some z ∧ i.size = N ∧ z.cells.size = N ∧ i.bytes = Z
  pos : 0 < N
  few : N ≤ 1000 ∧ Z ≤ 10000
theorem elemInfo {tr : TypeId} {N Z : Nat} (h1 : (Tryd.prog.info? tr).isSome = true) (h2 : (Tryd.prog.info? tr).map (fun i => (i.zero.map (·.cells.size), i.size, i.bytes)) = some (some N, N, Z)) : ∃ i z, Tryd.prog.info? tr = some i ∧ i.zero = some z ∧ i.size = N ∧ z.cells.size = N ∧ i.bytes = Z := by
  cases hi : Tryd.prog.info? tr with
  | none => rw [hi] at h1; cases h1
  | some i =>
    rw [hi] at h2
    simp only [Option.map_some, Option.some.injEq, Prod.mk.injEq] at h2
    cases hz : i.zero with
    | none => rw [hz] at h2; simp at h2
    | some z =>
      rw [hz] at h2
      simp only [Option.map_some, Option.some.injEq] at h2
      exact ⟨i, z, rfl, hz, h2.2.1, h2.1, h2.2.2⟩
section
variable {tr ts : TypeId} {N Z : Nat} {ρ : Operand → Value} {o : Oper} {w : World}
theorem ElemT.run_one (T : ElemT tr ts N Z) {x : Operand} {C : Array Value} (ho : o.op = .buildSlice ts 1 #[(0, x)]) (hx : ρ x = .agg C) (hC : C.size = N) (w : World) :
    (execOp ρ o).run Tryd.prog w = .ok (.value (.slice (some ⟨w.heap.size, 0, none⟩) 1 1)) (w.alloc (.cells C tr)) := by
  obtain ⟨i, z, hi, hz, hs, hzs, -⟩ := T.info
  have hN := T.few
  have hca : (Value.agg C).cells = C := rfl
  have hf : Instr.fill (fun j => some (j * i.size, i.size)) ((Array.range (1 * i.size)).map (z.cells[· % z.cells.size]!)) [(0, .agg C)] = some C := by
    have h := fill_seq (fun j => some (j * i.size, i.size)) [.agg C] 0 [] ((Array.range (1 * i.size)).map (z.cells[· % z.cells.size]!)).toList [] (by simp [Fits, hca, hC, hs]) (by simp [hca, hC, hs])
    rw [List.nil_append, List.append_nil, Array.toArray_toList] at h
    exact h.trans (by simp [hca])
  have hr := run_buildSlice (P := Tryd.prog) w ts tr 1 #[(0, .agg C)] C i z T.sl hi hz (by rw [hs, Nat.one_mul]; omega) (by rw [hs, Nat.one_mul]; have := T.pos; omega) hf
  obtain ⟨dst, op, ty', pos, after, guard⟩ := o
  simp only at ho
  subst ho
  unfold execOp
  simp only [List.map_toArray, List.map_cons, List.map_nil, hx, Sem.run_bind, hr, Result.andThen_ok, Sem.run_pure]
theorem ElemT.run_append (T : ElemT tr ts N Z) {s x : Operand} {base g n : Nat} {v : Value} {xs : List Value} {C : Array Value} (ho : o.op = .call { callee := .builtin .append, args := #[s, x], argTypes := #[ts, ts] }) (hs : ρ s = v) (hown : w.ownsRow base tr N v n xs)
    (hx : ρ x = .slice (some ⟨g, 0, none⟩) 1 1) (hc : w.heap[g]? = some (.cells C tr (0, 0))) (hC : C.size = N) (h1 : ∀ u ∈ C.toList, u.oneCell' = true) (hn : n ≤ 1000000) (hb : base ≤ w.heap.size) :
    ∃ v' w', (execOp ρ o).run Tryd.prog w = .ok (.value v') w' ∧ w'.ownsRow base tr N v' (n + 1) (xs ++ C.toList) ∧ w.grownBy w' v.ownBlock ∧ (v'.ownBlock = v.ownBlock ∨ v'.ownBlock = some w.heap.size) := by
  obtain ⟨it, z, hit, hz, hsz, hzs, hby⟩ := T.info
  have hN := T.few
  have hN1 := T.pos
  obtain ⟨dst, op, ty', pos, after, guard⟩ := o
  simp only at ho
  subst ho
  have hbd : (n + 1) * Z ≤ 1000001 * 10000 := Nat.mul_le_mul (by omega) hN.2
  obtain ⟨v', w', hr, h2, h3, -, h5⟩ := run_append_own_at (P := Tryd.prog) (w := w) base ts ty' tr it z N Z T.sl hit hz hsz hby hzs (by omega) v n xs hown ⟨g, 0, none⟩ 1 1 C.toList (by rw [Array.length_toList, hC, Nat.one_mul]) (fun j u hu => by
    rw [Addr.add_mid, Nat.zero_add, cell_of_row w g j C tr (0, 0) hc]
    simpa using hu) h1 (by unfold maxLen; omega) (by omega) hb
  refine ⟨v', w', ?_, h2, h3, h5⟩
  unfold execOp
  simp only [resolve, invoke, builtin, Sem.run_bind, Sem.run_pure, Result.andThen_ok, List.map_toArray, List.map_cons, List.map_nil, hs, hx, hr]
theorem ElemT.wpList_append (T : ElemT tr ts N Z) {ops : Array Oper} {rest : List Oper} {a : Act} {Q : Exit → Act → World → Prop} (hw : Region.wanted o (yielded ops a.tmps) = true) {s x : Operand} {base g n : Nat} {v : Value} {xs : List Value} {C : Array Value} (ho : o.op = .call { callee := .builtin .append, args := #[s, x], argTypes := #[ts, ts] }) (hs : a.eval s = v) (hown : w.ownsRow base tr N v n xs)
    (hx : a.eval x = .slice (some ⟨g, 0, none⟩) 1 1) (hc : w.heap[g]? = some (.cells C tr (0, 0))) (hC : C.size = N) (h1 : ∀ u ∈ C.toList, u.oneCell' = true) (hn : n ≤ 1000000) (hb : base ≤ w.heap.size)
    (h : ∀ v' w', w'.ownsRow base tr N v' (n + 1) (xs ++ C.toList) → w.grownBy w' v.ownBlock → (v'.ownBlock = v.ownBlock ∨ v'.ownBlock = some w.heap.size) → wpList Tryd.prog ops Q rest (a.put o.dst v') w') : wpList Tryd.prog ops Q (o :: rest) a w := by
  obtain ⟨v', w', hr, h2, h3, h4⟩ := T.run_append (ρ := a.eval) ho hs hown hx hc hC h1 hn hb
  unfold wpList
  rw [if_pos hw]
  refine .inl ?_
  unfold Oper.wp
  rw [hr, Oper.upon_value]
  exact h v' w' h2 h3 h4
end
end Go.Proofs.YtoidjapenompiaaDoor

/- append of any slice of bytes behind a slice of the call's own, as a step of the walk. -/
namespace Go.Proofs.YtoidjapenompiaaDoor
open Go.RowKit Go.Proofs.ShaWords
end Go.Proofs.YtoidjapenompiaaDoor

/- append(s, make([]byte, n)...) behind a slice of bytes of the call's own. -/
namespace Go.Proofs.YtoidjapenompiaaDoor
open Go.RowKit Go.Proofs.ShaWords
end Go.Proofs.YtoidjapenompiaaDoor

/- The kit's Pick: some number below its bound. -/
namespace Go.Proofs.YtoidjapenompiaaDoor
open Go.RowKit Go.Proofs.ShaWords

end Go.Proofs.YtoidjapenompiaaDoor

/-
  A region that draws its order, carried out along a tree: where two of its operations that are not plain may come up, both ways are gone.
-/
namespace Go.Proofs.YtoidjapenompiaaDoor
open Go.RowKit Go.Proofs.ShaWords

inductive Tr
  | nil
  | pure (i : Nat) (t : Tr)
  | one (i : Nat) (t : Tr)
  | two (i j : Nat) (s t : Tr)
def Tr.ok (ops : Array Oper) : Tr → Nat → Array Bool → Bool
  | .nil, 0, L => (Region.ready .any ops L).isEmpty
  | .pure i t, n + 1, L => Region.free .any ops L i && (Region.ready .any ops L).contains i && t.ok ops n (L.setIfInBounds i true)
  | .one i t, n + 1, L => decide (Region.ready .any ops L = [i]) && t.ok ops n (L.setIfInBounds i true)
  | .two i j s t, n + 1, L => decide (Region.ready .any ops L = [i, j]) && s.ok ops n (L.setIfInBounds i true) && t.ok ops n (L.setIfInBounds j true)
  | _, _, _ => false
def Tr.wp (P : Program) (ops : Array Oper) (Q : Exit → Act → World → Prop) (S : World → Prop) : Tr → Act → World → Prop
  | .nil, a, w => Q .normal a w
  | .pure i t, a, w => ∃ o v, ops[i]? = some o ∧ YieldsIf P ops S o v a ∧ t.wp P ops Q S (a.put o.dst v) w
  | .one i t, a, w => wpOp P ops Q i (fun a' w' => S w' ∧ t.wp P ops Q S a' w') a w
  | .two i j s t, a, w => wpOp P ops Q i (fun a' w' => S w' ∧ s.wp P ops Q S a' w') a w ∧ wpOp P ops Q j (fun a' w' => S w' ∧ t.wp P ops Q S a' w') a w
theorem wpAnyH_tree {P : Program} {ops : Array Oper} {Q : Exit → Act → World → Prop} {S : World → Prop} (hs : Region.noSelect ops = true) (hQ : ∀ c a w, ¬ Q (.panic c) a w) :
    ∀ (r : Tr) (n : Nat) (L : Array Bool) (a : Act) (w : World), r.ok ops n L = true → S w → r.wp P ops Q S a w → wpAnyH P .any ops Q S n L a w
  | .nil, 0, L, a, w, hc, _, h => by
    simp only [Tr.ok, List.isEmpty_iff] at hc
    exact wpAnyH_done hc h 0
  | .pure i t, n + 1, L, a, w, hc, hS, h => by
    simp only [Tr.ok, Bool.and_eq_true] at hc
    obtain ⟨o, v, ho, hy, h⟩ := h
    exact wpAnyH_take ho hs hc.1.1 hc.1.2 (fun c a w h => absurd h (hQ c _ w)) hy hS (wpAnyH_tree hs hQ t n _ _ w hc.2 hS h)
  | .one i t, n + 1, L, a, w, hc, hS, h => by
    simp only [Tr.ok, Bool.and_eq_true, decide_eq_true_eq] at hc
    refine wpAnyH_all hc.1 (by simp) (fun j hj => ?_)
    rw [List.mem_singleton.1 hj]
    exact wpOp_mono (fun a' w' h' => ⟨h'.1, wpAnyH_tree hs hQ t n _ a' w' hc.2 h'.1 h'.2⟩) h
  | .two i j s t, n + 1, L, a, w, hc, hS, h => by
    simp only [Tr.ok, Bool.and_eq_true, decide_eq_true_eq] at hc
    refine wpAnyH_all hc.1.1 (by simp) (fun k hk => ?_)
    rcases List.mem_cons.1 hk with rfl | hk
    · exact wpOp_mono (fun a' w' h' => ⟨h'.1, wpAnyH_tree hs hQ s n _ a' w' hc.1.2 h'.1 h'.2⟩) h.1
    · rw [List.mem_singleton.1 hk]
      exact wpOp_mono (fun a' w' h' => ⟨h'.1, wpAnyH_tree hs hQ t n _ a' w' hc.2 h'.1 h'.2⟩) h.2
theorem region_tree {P : Program} {id : Nat} {ops : Array Oper} {Q : Exit → Act → World → Prop} {a : Act} {w : World} (S : World → Prop) (hS : S w.drew) (r : Tr) (hm : P.follows .mixedOrders = true) (hs : Region.noSelect ops = true)
    (hc : r.ok ops ops.size (Array.replicate ops.size false) = true)
    (h : ∀ ops', ops' = ops → ∀ A, A = a → r.wp P ops' (NoPanic Q) S A w.drew) : (Code.region id ops true).wp P Q a w := by
  refine wp_region_noPanic (wp_region_held (S := S) hm ?_)
  exact wpAnyH_tree hs (fun c a w h => h) r ops.size _ a w.drew hc hS (h ops rfl a rfl)
section
variable {P : Program} {ops : Array Oper} {Q : Exit → Act → World → Prop} {S : World → Prop} {i : Nat} {o : Oper} {d : Option Tmp} {v : Value} {a : Act} {w w' : World} {K : Act → World → Prop} {t : Tr}
theorem Tr.takes (ho : ops[i]? = some o) (hd : o.dst = d) (hw : Region.wanted o (yielded ops a.tmps) = true) (hr : ∀ w, S w → (execOp a.eval o).run P w = .ok (.value v) w) (h : t.wp P ops Q S (a.put d v) w) : (Tr.pure i t).wp P ops Q S a w :=
  ⟨o, v, ho, .inl ⟨hw, hr⟩, by rw [hd]; exact h⟩
theorem at_op (ho : ops[i]? = some o) (hd : o.dst = d) (hw : Region.wanted o (yielded ops a.tmps) = true) (hr : (execOp a.eval o).run P w = .ok (.value v) w') (h : K (a.put d v) w') : wpOp P ops Q i K a w := by
  unfold wpOp
  rw [ho]
  show if Region.wanted o (yielded ops a.tmps) = true then _ else _
  rw [if_pos hw]
  refine .inl ?_
  unfold Oper.wp
  rw [hr, Oper.upon_value, hd]
  exact h
theorem at_wp (ho : ops[i]? = some o) (hw : Region.wanted o (yielded ops a.tmps) = true) (h : o.wp P a w K Q) : wpOp P ops Q i K a w := by
  unfold wpOp
  rw [ho]
  show if Region.wanted o (yielded ops a.tmps) = true then _ else _
  rw [if_pos hw]
  exact .inl h
end
end Go.Proofs.YtoidjapenompiaaDoor

/-
  A range over a function whose iterator keeps state of its own in cells: a law for the caller, and the two words that the caller and the iterator give one another. (A loop that runs to its end: no break, no return out of a round.)
-/
namespace Go.Proofs.YtoidjapenompiaaDoor
open Go.RowKit Go.Proofs.ShaWords

/-- Whatever lay, but for the blocks T, lies as it lay. -/
structure Spares (T : Nat → Prop) (w w' : World) : Prop where
  os : w'.os = w.os
  tape : w'.tape = w.tape
  output : w'.output = w.output
  size : w.heap.size ≤ w'.heap.size
  block : ∀ k, k < w.heap.size → ¬ T k → w'.heap[k]? = w.heap[k]?
theorem Spares.refl (T : Nat → Prop) (w : World) : Spares T w w := ⟨rfl, rfl, rfl, Nat.le_refl _, fun _ _ _ => rfl⟩
theorem Spares.trans {T : Nat → Prop} {a b c : World} (h : Spares T a b) (k : Spares T b c) : Spares T a c :=
  ⟨k.os.trans h.os, k.tape.trans h.tape, k.output.trans h.output, Nat.le_trans h.size k.size, fun i hi hn => (k.block i (Nat.lt_of_lt_of_le hi h.size) hn).trans (h.block i hi hn)⟩
theorem Spares.mono {T T' : Nat → Prop} {a b : World} (h : Spares T a b) (ht : ∀ k, k < a.heap.size → T k → T' k) : Spares T' a b :=
  ⟨h.os, h.tape, h.output, h.size, fun i hi hn => h.block i hi (fun t => hn (ht i hi t))⟩
theorem Spares.of_below {T : Nat → Prop} {a b : World} {B : Nat} (h : Below B a b) (hB : ∀ k, B ≤ k → k < a.heap.size → T k) : Spares T a b :=
  ⟨h.os, h.tape, h.output, h.size, fun i hi hn => h.block i (Nat.lt_of_not_le fun hl => hn (hB i hl hi))⟩
theorem Spares.all {T : Nat → Prop} {a b : World} (h : Below a.heap.size a b) : Spares T a b := Spares.of_below h (fun k h1 h2 => by omega)
theorem Spares.grown {T : Nat → Prop} {a b : World} {r : Nat} (h : a.grownBy b (some r)) (hr : T r) : Spares T a b :=
  ⟨h.os, h.tape, h.output, h.size, fun i hi hn => h.block i hi (fun e => hn (by rw [Option.some.inj e]; exact hr))⟩
theorem Spares.below {T : Nat → Prop} {a b : World} {B : Nat} (h : Spares T a b) (hB : B ≤ a.heap.size) (hT : ∀ k, k < B → ¬ T k) : Below B a b :=
  ⟨h.os, h.tape, h.output, h.size, fun i hi => h.block i (by omega) (hT i hi)⟩
end Go.Proofs.YtoidjapenompiaaDoor

/-
  A range over a function whose iterator makes what it gives (values in new memory) and keeps its place in a cell that was there: a law for the caller, and the iterator's word.
-/
namespace Go.Proofs.YtoidjapenompiaaDoor
open Go.RowKit Go.Proofs.ShaWords
theorem Spares.none {T : Nat → Prop} {a b : World} (h : Spares (fun _ => False) a b) : Spares T a b := h.mono (fun _ _ f => f.elim)
end Go.Proofs.YtoidjapenompiaaDoor

/-
  Two things side by side, each in blocks of its own, and a list of other blocks.
-/
namespace Go.Proofs.YtoidjapenompiaaDoor
open Go.RowKit Go.Proofs.ShaWords
/-- A thing in its blocks. -/
structure Part (A : (Nat → Prop) → World → Prop) : Prop where
  dom : ∀ S w, A S w → ∀ k, S k → k < w.heap.size
  keep : ∀ S w w' F, A S w → Stays F w w' → (∀ k, F k → ¬ S k) → A S w'
theorem Part.below {A : (Nat → Prop) → World → Prop} (P : Part A) {S : Nat → Prop} {w w' : World} (h : A S w) (hb : Below w.heap.size w w') : A S w' := P.keep S w w' (fun _ => False) h (Below.stays hb) (fun _ f => f.elim)
def X2 (A B : (Nat → Prop) → World → Prop) (lo : Nat) (w : World) (L : List (Nat × Obj)) : Prop := ∃ S U, A S w ∧ B U w ∧ (∀ k, S k → ¬ U k) ∧ (∀ k, S k → lo ≤ k) ∧ (∀ k, U k → lo ≤ k) ∧ ∀ y ∈ L, ¬ S y.1 ∧ ¬ U y.1 ∧ w.heap[y.1]? = some y.2
section
variable {A B A' B' : (Nat → Prop) → World → Prop} {lo : Nat} {w w' : World} {L L' : List (Nat × Obj)}
theorem X2.symm (h : X2 A B lo w L) : X2 B A lo w L := by
  obtain ⟨S, U, h1, h2, h3, h4, h5, h6⟩ := h
  exact ⟨U, S, h2, h1, fun k u s => h3 k s u, h5, h4, fun y hy => ⟨(h6 y hy).2.1, (h6 y hy).1, (h6 y hy).2.2⟩⟩
theorem X2.all (h : X2 A B lo w L) : ∀ y ∈ L, w.heap[y.1]? = some y.2 := by
  obtain ⟨S, U, _, _, _, _, _, h⟩ := h
  exact fun y hy => (h y hy).2.2
theorem X2.fewer (h : X2 A B lo w L) (hL : ∀ y ∈ L', y ∈ L) : X2 A B lo w L' := by
  obtain ⟨S, U, h1, h2, h3, h4, h5, h6⟩ := h
  exact ⟨S, U, h1, h2, h3, h4, h5, fun y hy => h6 y (hL y hy)⟩
theorem X2.below (PA : Part A) (PB : Part B) (h : X2 A B lo w L) (hb : Below w.heap.size w w') : X2 A B lo w' L := by
  obtain ⟨S, U, h1, h2, h3, h4, h5, h6⟩ := h
  exact ⟨S, U, PA.below h1 hb, PB.below h2 hb, h3, h4, h5, fun y hy => ⟨(h6 y hy).1, (h6 y hy).2.1, (hb.block _ (Array.getElem?_eq_some_iff.1 (h6 y hy).2.2).1).trans (h6 y hy).2.2⟩⟩
theorem X2.weak (h : X2 A B lo w L) (hA : ∀ S, A S w → ∃ S', A' S' w ∧ ∀ k, S' k → S k) : X2 A' B lo w L := by
  obtain ⟨S, U, h1, h2, h3, h4, h5, h6⟩ := h
  obtain ⟨S', b1, b2⟩ := hA S h1
  exact ⟨S', U, b1, h2, fun k s => h3 k (b2 k s), fun k s => h4 k (b2 k s), h5, fun y hy => ⟨fun s => (h6 y hy).1 (b2 _ s), (h6 y hy).2⟩⟩
theorem X2.add (PA : Part A) (PB : Part B) (h : X2 A B lo w L) (hb : Below w.heap.size w w') (hL : ∀ y ∈ L', w.heap.size ≤ y.1 ∧ w'.heap[y.1]? = some y.2) : X2 A B lo w' (L' ++ L) := by
  obtain ⟨S, U, h1, h2, h3, h4, h5, h6⟩ := h
  refine ⟨S, U, PA.below h1 hb, PB.below h2 hb, h3, h4, h5, fun y hy => ?_⟩
  rcases List.mem_append.1 hy with hy | hy
  · exact ⟨fun s => by have := PA.dom S w h1 _ s; have := (hL y hy).1; omega, fun s => by have := PB.dom U w h2 _ s; have := (hL y hy).1; omega, (hL y hy).2⟩
  · exact ⟨(h6 y hy).1, (h6 y hy).2.1, (hb.block _ (Array.getElem?_eq_some_iff.1 (h6 y hy).2.2).1).trans (h6 y hy).2.2⟩
/-- A block of the list is written to. -/
theorem X2.set (PA : Part A) (PB : Part B) (h : X2 A B lo w L) {k : Nat} {o o' : Obj} (hk : (k, o) ∈ L) (hs : Stays (fun y => y = k) w w') (ho : w'.heap[k]? = some o') (hL : ∀ y ∈ L', y = (k, o') ∨ y ∈ L ∧ y.1 ≠ k) : X2 A B lo w' L' := by
  obtain ⟨S, U, h1, h2, h3, h4, h5, h6⟩ := h
  have hkk := h6 _ hk
  refine ⟨S, U, PA.keep S w w' _ h1 hs (fun y e s => hkk.1 (e ▸ s)), PB.keep U w w' _ h2 hs (fun y e s => hkk.2.1 (e ▸ s)), h3, h4, h5, fun y hy => ?_⟩
  rcases hL y hy with rfl | ⟨hy, hne⟩
  · exact ⟨hkk.1, hkk.2.1, ho⟩
  · exact ⟨(h6 y hy).1, (h6 y hy).2.1, (hs.block _ (Array.getElem?_eq_some_iff.1 (h6 y hy).2.2).1 hne).trans (h6 y hy).2.2⟩
/-- A call of the one side. -/
theorem X2.goI {ι : Type} {C : ι → (Nat → Prop) → World → Prop} {R : ι → Ending → Prop} {f : FuncId} {args : Array Value} (PB : Part B) (h : X2 A B lo w L) (hlo : lo ≤ w.heap.size)
    (hc : ∀ S, A S w → (∀ y ∈ L, ¬ S y.1) → (∀ k, S k → lo ≤ k) → Calls Tryd.prog f args w fun e w' => ∃ i, R i e ∧ ∃ S', C i S' w' ∧ (∀ k, S' k → S k ∨ w.heap.size ≤ k) ∧ Stays S w w') :
    Calls Tryd.prog f args w fun e w' => ∃ i, R i e ∧ X2 (C i) B lo w' L ∧ Below lo w w' := by
  obtain ⟨S, U, h1, h2, h3, h4, h5, h6⟩ := h
  refine (hc S h1 (fun y hy => (h6 y hy).1) h4).mono fun _ w' ⟨i, a, S', b1, b2, b3⟩ => ⟨i, a, ⟨S', U, b1, PB.keep U w w' _ h2 b3 h3, fun k s u => (b2 k s).elim (fun s => h3 k s u) (fun h => by have := PB.dom U w h2 k u; omega), fun k s => (b2 k s).elim (h4 k) (fun h => by omega), h5, fun y hy => ?_⟩, b3.below h4 hlo⟩
  have hlt := (Array.getElem?_eq_some_iff.1 (h6 y hy).2.2).1
  exact ⟨fun s => (b2 _ s).elim (h6 y hy).1 (fun h => by omega), (h6 y hy).2.1, (b3.block _ hlt (h6 y hy).1).trans (h6 y hy).2.2⟩
theorem X2.go {C : (Nat → Prop) → World → Prop} {R : Ending → Prop} {f : FuncId} {args : Array Value} (PB : Part B) (h : X2 A B lo w L) (hlo : lo ≤ w.heap.size)
    (hc : ∀ S, A S w → (∀ y ∈ L, ¬ S y.1) → (∀ k, S k → lo ≤ k) → Calls Tryd.prog f args w fun e w' => R e ∧ ∃ S', C S' w' ∧ (∀ k, S' k → S k ∨ w.heap.size ≤ k) ∧ Stays S w w') :
    Calls Tryd.prog f args w fun e w' => R e ∧ X2 C B lo w' L ∧ Below lo w w' :=
  (X2.goI (ι := Unit) (C := fun _ => C) (R := fun _ => R) PB h hlo (fun S h1 h2 h3 => (hc S h1 h2 h3).mono fun _ _ h => ⟨(), h⟩)).mono fun _ _ ⟨_, h⟩ => h
theorem X2.goY {C : (Nat → Prop) → World → Prop} {R : Ending → Prop} {f : FuncId} {args : Array Value} (PA : Part A) (h : X2 A B lo w L) (hlo : lo ≤ w.heap.size)
    (hc : ∀ U, B U w → (∀ y ∈ L, ¬ U y.1) → (∀ k, U k → lo ≤ k) → Calls Tryd.prog f args w fun e w' => R e ∧ ∃ U', C U' w' ∧ (∀ k, U' k → U k ∨ w.heap.size ≤ k) ∧ Stays U w w') :
    Calls Tryd.prog f args w fun e w' => R e ∧ X2 A C lo w' L ∧ Below lo w w' :=
  (h.symm.go PA hlo hc).mono fun _ _ ⟨a, b, c⟩ => ⟨a, b.symm, c⟩
theorem X2.goYI {ι : Type} {C : ι → (Nat → Prop) → World → Prop} {R : ι → Ending → Prop} {f : FuncId} {args : Array Value} (PA : Part A) (h : X2 A B lo w L) (hlo : lo ≤ w.heap.size)
    (hc : ∀ U, B U w → (∀ y ∈ L, ¬ U y.1) → (∀ k, U k → lo ≤ k) → Calls Tryd.prog f args w fun e w' => ∃ i, R i e ∧ ∃ U', C i U' w' ∧ (∀ k, U' k → U k ∨ w.heap.size ≤ k) ∧ Stays U w w') :
    Calls Tryd.prog f args w fun e w' => ∃ i, R i e ∧ X2 A (C i) lo w' L ∧ Below lo w w' :=
  (h.symm.goI PA hlo hc).mono fun _ _ ⟨i, a, b, c⟩ => ⟨i, a, b.symm, c⟩
end
end Go.Proofs.YtoidjapenompiaaDoor
