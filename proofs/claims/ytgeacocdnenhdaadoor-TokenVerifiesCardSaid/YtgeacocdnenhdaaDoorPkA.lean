/-
  What other texts lean on: Words, Gen, Bytes, WordsAt, OwnBytes, BytesBig, Foot, Structs, BaseG, StdBytes, MacSame, Turned, Schedule, Padding, Phase, Met, AppendList, AppendZeros, KrClone, MetBefore, AppendAt, AnyOrder, AnyOrder2, Tree, ArrEq, Elems, SeqCells, SeqVals, ByteOps, AppendOps, Spoil, Pick.
-/
import Derived.WalkKit
import Derived.WalkLawsBesides
import Derived.Laws.BitsAllLaws
import Derived.Test.YtgeacocdnenhdaaDoorProg
import Derived.WalkSpells
import Derived.Lib.Hide
import Derived.StillTailTactics
import Derived.IntWalk
import Derived.Laws.CopyOwn
import Derived.Laws.Rows
import Derived.Deep.QuietTactic
import Derived.BigQuiet
import Derived.Deep.RegionHeld3
import Derived.Deep.DeepFit
import Derived.Lib.SlBytesConst
import Derived.Laws.OwnMore
import Derived.Great.BuildSlice
import Derived.Test.YtgeacocdnenhdaaDoorRows
import Derived.ProofKit
import Derived.OpenShut
import Derived.ShutString
import Derived.ChangeOld
import Derived.Below
import Derived.LaidMore
import Derived.Lib.LaidTab
import Derived.Stop.Joined
import Derived.Deep.Matrix
import Derived.SizedLaws
import Derived.Laws.AppendOwnNone
import Derived.Laws.BytesArg
import Derived.Laws.BytesString
import Derived.Lib.SliceRun
import Derived.Lib.Bytes
import Derived.Lib.AppendZeros
import Derived.Shelf.Pu.Clone
import Derived.Maps.AppendAt
import Derived.Deep.DeepCutAuto
import Derived.Stop.BytesEq
import Derived.RangeFuncNested
import Derived.RangeFuncLeaves
import Derived.RangeFuncBound
import Derived.RangeFuncCalls
import Derived.OwnWalkIn
import Derived.TacticsInMore
import Derived.LoopNIn
import Derived.LoopIn
import Derived.Deep.AppendLies
/-
  Words of 32 bits and bytes as plain bit vectors: what the model's integer operations at uint32 and uint8 come to on them. Without any condition.
-/
namespace Go.Proofs.ShaWords
open Go

/-- A word as the number that the model holds. -/
def n32 (x : BitVec 32) : Int := (x.toNat : Int)
/-- A byte as the number that the model holds. -/
def n8 (x : BitVec 8) : Int := (x.toNat : Int)

theorem n32_nonneg (x : BitVec 32) : 0 ≤ n32 x := by unfold n32; omega
theorem n8_inj {x y : BitVec 8} (h : n8 x = n8 y) : x = y := by
  unfold n8 at h; exact BitVec.eq_of_toNat_eq (by omega)

theorem and32 (x y : BitVec 32) : bits .and .u32 (n32 x) (n32 y) = n32 (x &&& y) := by
  unfold n32; rw [u32_and_nat _ _ (by have := x.isLt; omega) (by have := y.isLt; omega), BitVec.toNat_and]
theorem or32 (x y : BitVec 32) : bits .or .u32 (n32 x) (n32 y) = n32 (x ||| y) := by
  unfold n32; rw [u32_or_nat _ _ (by have := x.isLt; omega) (by have := y.isLt; omega), BitVec.toNat_or]
theorem xor32 (x y : BitVec 32) : bits .xor .u32 (n32 x) (n32 y) = n32 (x ^^^ y) := by
  unfold n32; rw [u32_xor_nat _ _ (by have := x.isLt; omega) (by have := y.isLt; omega), BitVec.toNat_xor]
theorem add32 (x y : BitVec 32) : IntKind.u32.wrap (n32 x + n32 y) = n32 (x + y) := by
  unfold n32; rw [IntKind.wrap_u32', BitVec.toNat_add]; omega
theorem shl32 (x : BitVec 32) (k : Nat) : IntKind.u32.wrap (n32 x * 2 ^ k) = n32 (x <<< k) := by
  unfold n32
  have e : (x.toNat : Int) * 2 ^ k = ((x.toNat * 2 ^ k : Nat) : Int) := by rw [Int.natCast_mul, Int.natCast_pow]; rfl
  rw [IntKind.wrap_u32', BitVec.toNat_shiftLeft, Nat.shiftLeft_eq, e]
  generalize x.toNat * 2 ^ k = m
  omega
theorem shr32 (x : BitVec 32) (k : Nat) : n32 x / 2 ^ k = n32 (x >>> k) := by
  unfold n32; rw [BitVec.toNat_ushiftRight, Nat.shiftRight_eq_div_pow, Int.natCast_ediv, Int.natCast_pow]; rfl

/-- A byte as a word; a word's last byte. -/
def ext (b : BitVec 8) : BitVec 32 := b.setWidth 32
def lo8 (x : BitVec 32) : BitVec 8 := x.setWidth 8
theorem wrap32_n8 (b : BitVec 8) : IntKind.u32.wrap (n8 b) = n32 (ext b) := by
  unfold n8 n32 ext; rw [IntKind.wrap_u32', BitVec.toNat_setWidth]; have := b.isLt; omega
theorem wrap8_n32 (x : BitVec 32) : IntKind.u8.wrap (n32 x) = n8 (lo8 x) := by
  unfold n8 n32 lo8; rw [IntKind.wrap_u8', BitVec.toNat_setWidth]; omega
theorem shl32_8 (x : BitVec 32) : IntKind.u32.wrap (n32 x * (256 : Int)) = n32 (x <<< 8) := shl32 x 8
theorem shl32_16 (x : BitVec 32) : IntKind.u32.wrap (n32 x * (65536 : Int)) = n32 (x <<< 16) := shl32 x 16
theorem shl32_24 (x : BitVec 32) : IntKind.u32.wrap (n32 x * (16777216 : Int)) = n32 (x <<< 24) := shl32 x 24
theorem shr32_3 (x : BitVec 32) : n32 x / (8 : Int) = n32 (x >>> 3) := shr32 x 3
theorem shr32_8 (x : BitVec 32) : n32 x / (256 : Int) = n32 (x >>> 8) := shr32 x 8
theorem shr32_10 (x : BitVec 32) : n32 x / (1024 : Int) = n32 (x >>> 10) := shr32 x 10
theorem shr32_16 (x : BitVec 32) : n32 x / (65536 : Int) = n32 (x >>> 16) := shr32 x 16
theorem shr32_24 (x : BitVec 32) : n32 x / (16777216 : Int) = n32 (x >>> 24) := shr32 x 24

/-- A word turned right by k. -/
def rr (x : BitVec 32) (k : Nat) : BitVec 32 := (x <<< (32 - k)) ||| (x >>> k)
end Go.Proofs.ShaWords

/-
  What every layer leans on: bytes and words in memory; blocks that hold bytes; loads, stores, copies and makes of whole rows; a region that draws its order, carried out along one list of its operations; calls.
-/
namespace Go.Proofs.YtgeacocdnenhdaaDoor
open Go.RowKit Go.Proofs.ShaWords

def bytesV (l : List (BitVec 8)) : List Value := l.map fun b => .int .u8 (n8 b)
def wordsV (l : List (BitVec 32)) : List Value := l.map fun x => .int .u32 (n32 x)
theorem cell_bytesV {w : World} {g j : Nat} {l : List (BitVec 8)} {t : TypeId} {fr : Nat × Nat} (h : w.heap[g]? = some (.cells (bytesV l).toArray t fr)) (hj : j < l.length) : w.cell? ⟨g, j, none⟩ = some (.int .u8 (n8 l[j])) := by
  rw [cell_of_row w g j _ t fr h]; simp [bytesV, hj]
theorem cell_wordsV {w : World} {g j : Nat} {l : List (BitVec 32)} {t : TypeId} {fr : Nat × Nat} (h : w.heap[g]? = some (.cells (wordsV l).toArray t fr)) (hj : j < l.length) : w.cell? ⟨g, j, none⟩ = some (.int .u32 (n32 l[j])) := by
  rw [cell_of_row w g j _ t fr h]; simp [wordsV, hj]
theorem wordsV_set (l : List (BitVec 32)) (k : Nat) (x : BitVec 32) : (wordsV l).toArray.setIfInBounds k (.int .u32 (n32 x)) = (wordsV (l.set k x)).toArray := by
  simp [wordsV, List.map_set]
theorem wordsV_one (l : List (BitVec 32)) : (wordsV l).toArray.all (·.oneCell') = true :=
  Array.all_eq_true_iff_forall_mem.2 fun v hv => by
    simp only [wordsV, List.mem_toArray, List.mem_map] at hv
    obtain ⟨x, _, rfl⟩ := hv
    rfl
theorem bytesV_one (l : List (BitVec 8)) : (bytesV l).toArray.all (·.oneCell') = true :=
  Array.all_eq_true_iff_forall_mem.2 fun v hv => by
    simp only [bytesV, List.mem_toArray, List.mem_map] at hv
    obtain ⟨x, _, rfl⟩ := hv
    rfl
theorem region_tail {P : Program} {id : Nat} {Q : Exit → Act → World → Prop} {a : Act} {w : World} {l : List Oper} (n : Nat) (hm : P.follows .mixedOrders = true) (hB : Region.lexTailB .any l.toArray n = true)
    (h : wpStill P l.toArray w.drew (fun a' => wpList P l.toArray Q (l.drop n) a' w.drew) (l.take n) a) : (Code.region id l.toArray true).wp P Q a w :=
  wp_region_still_tail n hm hB h
theorem heap_new_at {w : World} {o : Obj} {n : Nat} (h : w.heap.size = n) : (w.alloc o).heap[n]? = some o := by
  subst h; exact _root_.Go.heap_alloc_new w o
theorem size_alloc (w : World) (o : Obj) : (w.alloc o).heap.size = w.heap.size + 1 := by simp
theorem bytesV_size (l : List (BitVec 8)) (n : Nat) (h : l.length = n) : (bytesV l).toArray.size = n := by simp [bytesV, h]
theorem wordsV_size (l : List (BitVec 32)) (n : Nat) (h : l.length = n) : (wordsV l).toArray.size = n := by simp [wordsV, h]
theorem wp_gen {P : Program} {c : Code} {Q : Exit → Act → World → Prop} {a : Act} {w : World} (F : World → Prop) (hF : F w) (h : ∀ w, F w → Code.wp P c Q a w) : Code.wp P c Q a w := h w hF
theorem alloc3_1 (w : World) (a b c : Obj) : (((w.alloc a).alloc b).alloc c).heap[w.heap.size]? = some a := by
  rw [Below.heap_alloc _ _ _ (by rw [size_alloc, size_alloc]; omega), Below.heap_alloc _ _ _ (by rw [size_alloc]; omega)]; exact heap_new_at rfl
theorem alloc3_2 (w : World) (a b c : Obj) : (((w.alloc a).alloc b).alloc c).heap[w.heap.size + 1]? = some b := by
  rw [Below.heap_alloc _ _ _ (by rw [size_alloc, size_alloc]; omega)]; exact heap_new_at (by rw [size_alloc])
theorem alloc3_3 (w : World) (a b c : Obj) : (((w.alloc a).alloc b).alloc c).heap[w.heap.size + 1 + 1]? = some c := 
  heap_new_at (by rw [size_alloc, size_alloc])
theorem alloc3_below (w : World) (a b c : Obj) : Below w.heap.size w (((w.alloc a).alloc b).alloc c) :=
  (((Below.refl _ _).alloc (Nat.le_refl _) _).alloc (by rw [size_alloc]; omega) _).alloc (by rw [size_alloc, size_alloc]; omega) _
theorem info5 : (Tryd.prog.info? 5).map (fun i => (i.zero, i.size, i.bytes)) = some (some (.int .u8 0), 1, 1) := by kernel_rfl
/-- A make of whatever length and capacity: the new row known whole. -/
theorem wpList_make_any {P : Program} {w : World} {ops : Array Oper} {rest : List Oper} {o : Oper} {a : Act} {Q : Exit → Act → World → Prop}
    (hg : o.guard = none) (l c : Operand) (t : TypeId) (hop : o.op = Op.makeSlice t l c)
    (e : TypeId) (i : TypeInfo) (z : Value) (h1 : P.underlying t = some (.slice e)) (h2 : P.info? e = some i) (h3 : i.zero = some z) (h4 : i.size = 1) (h5 : i.bytes = 1)
    (kl kc : IntKind) (L C : Int) (ln cn : Nat) (hl : a.eval l = .int kl L) (hc : a.eval c = .int kc C) (hL : L = (ln : Int)) (hC : C = (cn : Int)) (hle : ln ≤ cn) (b2 : cn ≤ 281474976710656)
    (X : Array Value) (hX : madeCells z.cells cn = X)
    (hK : ∀ w', w'.heap[w.heap.size]? = some (.cells X e (0, 0)) → Below w.heap.size w w' → wpList P ops Q rest (a.put o.dst (.slice (some ⟨w.heap.size, 0, none⟩) ln cn)) w') :
    wpList P ops Q (o :: rest) a w := by
  refine wpList_plain hg fun K hK' => ?_
  subst hL hC
  have hrun := run_make (P := P) w t e i z h1 h2 h3 kl kc (ln : Int) (cn : Int) (by omega) (by omega) (by rw [h5]; omega) (by omega)
  rw [h4, Nat.mul_one] at hrun
  simp only [Int.toNat_natCast] at hrun
  rw [hX] at hrun
  unfold Oper.wp
  simp [execOp, hop, hl, hc, hrun, Result.andThen]
  exact hK' _ _ (hK _ (heap_new_at rfl) ((Below.refl _ _).alloc (Nat.le_refl _) _))
theorem made_noughts (c : Nat) : madeCells #[Value.int .u8 0] c = (bytesV (List.replicate c 0#8)).toArray := by
  apply Array.ext'
  rw [toList_madeCells_one]
  simp only [bytesV, List.map_replicate]
  rfl
theorem bytesV_set (l : List (BitVec 8)) (k : Nat) (x : BitVec 8) : (bytesV l).toArray.setIfInBounds k (.int .u8 (n8 x)) = (bytesV (l.set k x)).toArray := by
  simp [bytesV, List.map_set]
theorem splice_cons {α : Type} (L : List α) (o : Nat) (b : α) (r : List α) (h : o + (r.length + 1) ≤ L.length) : splice L o (b :: r) = splice (L.set o b) (o + 1) r := by
  unfold splice
  have e : (L.set o b).take (o + 1) = L.take o ++ [b] := by
    rw [List.take_succ_eq_append_getElem (by simp; omega), List.getElem_set_self, List.take_set_of_le (Nat.le_refl _)]
  rw [e, List.drop_set_of_lt (by omega)]
  simp only [List.length_cons, List.append_assoc, List.cons_append, List.nil_append]
  rw [show o + (r.length + 1) = o + 1 + r.length by omega]
theorem splice_nil {α : Type} (L : List α) (o : Nat) : splice L o [] = L := by simp [splice]
theorem wordsV_length (l : List (BitVec 32)) : (wordsV l).length = l.length := by simp [wordsV]
theorem bytesV_length (l : List (BitVec 8)) : (bytesV l).length = l.length := by simp [bytesV]
/-- Bytes that a slice's address leads to, in a block other than g. -/
def Reads (w : World) (g : Nat) (p : Option Addr) (bs : List (BitVec 8)) : Prop :=
  bs = [] ∨ ∃ b off, p = some ⟨b, off, none⟩ ∧ b ≠ g ∧ w.rangeAt b off (bytesV bs)
theorem wordsV_append (a b : List (BitVec 32)) : wordsV (a ++ b) = wordsV a ++ wordsV b := List.map_append
theorem bytesV_append (a b : List (BitVec 8)) : bytesV (a ++ b) = bytesV a ++ bytesV b := List.map_append
theorem bytesV_take (l : List (BitVec 8)) (k : Nat) : bytesV (l.take k) = (bytesV l).take k := List.map_take
theorem bytesV_drop (l : List (BitVec 8)) (k : Nat) : bytesV (l.drop k) = (bytesV l).drop k := List.map_drop
theorem bytesV_mem {l : List (BitVec 8)} {v : Value} (h : v ∈ bytesV l) : v.oneCell' = true := by
  simp only [bytesV, List.mem_map] at h; obtain ⟨x, _, rfl⟩ := h; rfl
theorem wordsV_mem {l : List (BitVec 32)} {v : Value} (h : v ∈ wordsV l) : v.oneCell' = true := by
  simp only [wordsV, List.mem_map] at h; obtain ⟨x, _, rfl⟩ := h; rfl
theorem grown_setCell (w : World) (g j : Nat) (v : Value) : w.grownBy (w.setCell ⟨g, j, none⟩ v) (some g) :=
  ⟨rfl, rfl, rfl, by simp [World.setCell], fun k _ hk => heap_setCell_other _ _ _ _ (fun e => hk (by rw [e]))⟩
theorem grown_setRow (w : World) (g : Nat) (cs : Array Value) : w.grownBy (w.setRow g cs) (some g) :=
  ⟨rfl, rfl, rfl, by simp, fun k _ hk => setRow_other w g k cs (fun e => hk (by rw [e]))⟩
/-- Cells that are stored one behind another, seen in the whole row. -/
theorem heap_setCells (g : Nat) (t : TypeId) : ∀ (vs : List Value) (o : Nat) (cur : List Value) (w : World), w.heap[g]? = some (.cells cur.toArray t (0, 0)) → o + vs.length ≤ cur.length →
    (w.setCells g o vs).heap[g]? = some (.cells (splice cur o vs).toArray t (0, 0))
  | [], o, cur, w, h, _ => by rw [splice_nil]; exact h
  | v :: r, o, cur, w, h, hl => by
    simp only [List.length_cons] at hl
    rw [World.setCells, splice_cons _ _ _ _ hl]
    refine heap_setCells g t r (o + 1) (cur.set o v) _ ?_ (by simp; omega)
    rw [heap_setCell_same _ _ _ _ _ _ h]; simp
theorem heap_setCells_other (g k : Nat) (hk : k ≠ g) : ∀ (vs : List Value) (o : Nat) (w : World), (w.setCells g o vs).heap[k]? = w.heap[k]?
  | [], _, _ => rfl
  | v :: r, o, w => by rw [World.setCells, heap_setCells_other g k hk r, heap_setCell_other _ _ _ _ hk]
theorem size_setCells (g : Nat) : ∀ (vs : List Value) (o : Nat) (w : World), (w.setCells g o vs).heap.size = w.heap.size ∧ (w.setCells g o vs).os = w.os ∧ (w.setCells g o vs).tape = w.tape ∧ (w.setCells g o vs).output = w.output
  | [], _, _ => ⟨rfl, rfl, rfl, rfl⟩
  | v :: r, o, w => by
    rw [World.setCells]
    obtain ⟨a, b, c, d⟩ := size_setCells g r (o + 1) (w.setCell ⟨g, o, none⟩ v)
    exact ⟨a.trans (by simp [World.setCell]), b, c, d⟩
theorem grown_setCells (w : World) (g o : Nat) (vs : List Value) : w.grownBy (w.setCells g o vs) (some g) := by
  obtain ⟨a, b, c, d⟩ := size_setCells g vs o w
  exact ⟨b, c, d, by rw [a]; exact Nat.le_refl _, fun k _ hk => heap_setCells_other g k (fun e => hk (by rw [e])) vs o w⟩
theorem Reads.grown {w w' : World} {g b off : Nat} {l : List Value} (h : w.rangeAt b off l) (hb : w.grownBy w' (some g)) (hg : b ≠ g) : w'.rangeAt b off l := fun j v hv =>
  (World.cell?_of_block (a := ⟨b, off + j, none⟩) (hb.block b (World.block_lt_of_cell? w _ (h j v hv)) (fun e => hg (Option.some.inj e)))).trans (h j v hv)
theorem range_drop {w : World} {b off k : Nat} {l : List (BitVec 8)} (h : w.rangeAt b off (bytesV l)) : w.rangeAt b (off + k) (bytesV (l.drop k)) := fun j v hv => by
  rw [Nat.add_assoc]
  refine h (k + j) v ?_
  rw [bytesV_drop, List.getElem?_drop] at hv; exact hv
theorem wp_act {P : Program} {c : Code} {Q : Exit → Act → World → Prop} {a : Act} {w : World} (h : ∀ A, A = a → Code.wp P c Q A w) : Code.wp P c Q a w := h a rfl
theorem put_size (a : Act) (d : Nat) (v : Value) : (a.put (some d) v).tmps.size = a.tmps.size := by simp [Act.put]
theorem eval_same (a : Act) (d : Nat) (v : Value) (h : d < a.tmps.size) : (a.put (some d) v).eval (.tmp d) = v := by simp [Act.eval, Act.put, h]
theorem eval_other (a : Act) (d t : Nat) (v : Value) (h : d ≠ t) : (a.put (some d) v).eval (.tmp t) = a.eval (.tmp t) := Act.eval_put (fun e he hx => by cases he; cases hx; exact h rfl)
theorem run_move {P : Program} {ρ : Operand → Value} {o : Oper} {x : Operand} {v : Value} (ho : o.op = .move x) (h : ρ x = v) (w : World) : (execOp ρ o).run P w = .ok (.value v) w := by
  unfold execOp; simp only [ho, h, Sem.run_pure]
theorem run_nilCheck {P : Program} {ρ : Operand → Value} {o : Oper} {x : Operand} {p : Addr} (ho : o.op = .nilCheck x) (h : ρ x = .pointer (some p)) (w : World) :
    (execOp ρ o).run P w = .ok (.value (.pointer (some p))) w := by
  unfold execOp; simp only [ho, h, Sem.run_pure]
theorem wp_enter {P : Program} {o : Oper} {a : Act} {w : World} {K : Act → World → Prop} {Q : Exit → Act → World → Prop} {f : FuncId} {args : Array Value} {v : Value} {R : World → Prop} (hr : (execOp a.eval o).run P w = .ok (.enter f args) w)
    (hc : Calls P f args w fun e w' => e = .returned v ∧ R w') (h : ∀ w', R w' → K (a.put o.dst v) w') : o.wp P a w K Q := by
  unfold Oper.wp
  rw [hr, Oper.upon_enter]
  refine hc.mono ?_
  rintro e w' ⟨rfl, hR⟩
  exact h w' hR
theorem wanted_of {o : Oper} {ops : Array Oper} {t : Array Value} (h : o.guard = none) : Region.wanted o (yielded ops t) = true := by simp [Region.wanted, h]
theorem abs_ops {P : Program} {md : Region.Mode} {ops : Array Oper} {Q : Exit → Act → World → Prop} {f : Nat} {L : Array Bool} {a : Act} {w : World}
    (h : ∀ ops', ops' = ops → wpAny P md ops' Q f L a w) : wpAny P md ops Q f L a w := h ops rfl
theorem wpOp_of_wp {P : Program} {ops : Array Oper} {Q : Exit → Act → World → Prop} {i : Nat} {K : Act → World → Prop} {a : Act} {w : World} {o : Oper} (ho : ops[i]? = some o) (hgd : o.guard = none) (h : o.wp P a w K Q) : wpOp P ops Q i K a w := by
  unfold wpOp
  rw [ho]
  have hw : Region.wanted o (yielded ops a.tmps) = true := by simp [Region.wanted, hgd]
  show if Region.wanted o (yielded ops a.tmps) = true then _ else _
  rw [if_pos hw]; exact .inl h
theorem wpAny_one {P : Program} {md : Region.Mode} {ops : Array Oper} {Q : Exit → Act → World → Prop} {fuel : Nat} {listed : Array Bool} {a : Act} {w : World} (i : Nat) (hr : Region.ready md ops listed = [i])
    (h : wpOp P ops Q i (wpAny P md ops Q fuel (listed.setIfInBounds i true)) a w) : wpAny P md ops Q (fuel + 1) listed a w :=
  wpAny_all hr (by simp) (fun j hj => by rw [List.mem_singleton.1 hj]; exact h)
theorem wpAny_two {P : Program} {md : Region.Mode} {ops : Array Oper} {Q : Exit → Act → World → Prop} {fuel : Nat} {listed : Array Bool} {a : Act} {w : World} (i j : Nat) (hr : Region.ready md ops listed = [i, j])
    (h1 : wpOp P ops Q i (wpAny P md ops Q fuel (listed.setIfInBounds i true)) a w) (h2 : wpOp P ops Q j (wpAny P md ops Q fuel (listed.setIfInBounds j true)) a w) : wpAny P md ops Q (fuel + 1) listed a w :=
  wpAny_all hr (by simp) (fun k hk => by
    rcases List.mem_cons.1 hk with rfl | hk
    · exact h1
    · rw [List.mem_singleton.1 hk]; exact h2)
theorem grown_trans {w w1 w2 : World} {r : Option Nat} (h1 : w.grownBy w1 r) (h2 : w1.grownBy w2 r) : w.grownBy w2 r :=
  ⟨h2.os.trans h1.os, h2.tape.trans h1.tape, h2.output.trans h1.output, Nat.le_trans h1.size h2.size, fun k hk hn => (h2.block k (Nat.lt_of_lt_of_le hk h1.size) hn).trans (h1.block k hk hn)⟩
theorem grown_below {w w1 : World} {B : Nat} (hb : Below B w w1) (hB : w.heap.size ≤ B) (r : Option Nat) : w.grownBy w1 r :=
  ⟨hb.os, hb.tape, hb.output, hb.size, fun k hk _ => hb.block k (by omega)⟩
theorem wpList_build_eq {P : Program} {ops : Array Oper} {rest : List Oper} {o : Oper} {a : Act} {w : World} {Q : Exit → Act → World → Prop} (hg : o.guard = none) (t : TypeId) (parts : Array (Nat × Operand)) (ho : o.op = .build t parts)
    (cs : Array Value) (hf : P.built t (parts.map fun (i, x) => (i, a.eval x)).toList = some cs)
    (h : wpList P ops Q rest (a.put o.dst (.agg cs)) w) : wpList P ops Q (o :: rest) a w :=
  wpList_build hg t parts ho (by rw [hf]; rfl) (by rw [hf]; exact h)
/-- A whole array or struct, stored into the block that was made last. -/
theorem wpList_store_new {P : Program} {ops : Array Oper} {rest : List Oper} {o : Oper} {a : Act} {w0 : World} {old : Array Value} {t : TypeId} {Q : Exit → Act → World → Prop} (hgd : o.guard = none) (ty : TypeId) (x y : Operand) (ho : o.op = .store ty x y)
    (n : Nat) (hn : w0.heap.size = n) (cells : Array Value) (hx : a.eval x = .pointer (some ⟨n, 0, none⟩)) (hy : a.eval y = .agg cells)
    (hi : (P.info? ty).map (·.size) = some cells.size) (hold : old.size = cells.size) (h1 : cells.all (·.oneCell') = true)
    (h : ∀ w', w'.heap[n]? = some (.cells cells t (0, 0)) → Below n w0 w' → wpList P ops Q rest (a.put o.dst undef) w') : wpList P ops Q (o :: rest) a (w0.alloc (.cells old t (0, 0))) := by
  subst hn
  exact wpList_store_row hgd ty x y ho w0.heap.size cells hx hy t old (heap_new_at rfl) hi hold h1
    (h _ (setRow_heap _ _ _ _ _ _ (heap_new_at rfl)) (below_setRow ((Below.refl _ _).alloc (Nat.le_refl _) _) (Nat.le_refl _) _))
theorem range_bytesV {w : World} {g : Nat} {l : List (BitVec 8)} {t : TypeId} {fr : Nat × Nat} (h : w.heap[g]? = some (.cells (bytesV l).toArray t fr)) : w.rangeAt g 0 (bytesV l) := fun j v hv => by
  rw [Nat.zero_add, cell_of_row w g j _ t fr h]; simpa using hv
theorem noughts32 : (bytesV (List.replicate 32 0#8)).toArray = #[Value.int IntKind.u8 0, Value.int IntKind.u8 0, Value.int IntKind.u8 0, Value.int IntKind.u8 0, Value.int IntKind.u8 0, Value.int IntKind.u8 0, Value.int IntKind.u8 0, Value.int IntKind.u8 0, Value.int IntKind.u8 0, Value.int IntKind.u8 0, Value.int IntKind.u8 0, Value.int IntKind.u8 0, Value.int IntKind.u8 0, Value.int IntKind.u8 0, Value.int IntKind.u8 0, Value.int IntKind.u8 0, Value.int IntKind.u8 0, Value.int IntKind.u8 0, Value.int IntKind.u8 0, Value.int IntKind.u8 0, Value.int IntKind.u8 0, Value.int IntKind.u8 0, Value.int IntKind.u8 0, Value.int IntKind.u8 0, Value.int IntKind.u8 0, Value.int IntKind.u8 0, Value.int IntKind.u8 0, Value.int IntKind.u8 0, Value.int IntKind.u8 0, Value.int IntKind.u8 0, Value.int IntKind.u8 0, Value.int IntKind.u8 0] := by rfl
/-- Bytes that a slice's address leads to. -/
def Lies (w : World) (p : Option Addr) (bs : List (BitVec 8)) : Prop := bs = [] ∨ ∃ b off, p = some ⟨b, off, none⟩ ∧ w.rangeAt b off (bytesV bs)
theorem Lies.below {w w' : World} {p : Option Addr} {bs : List (BitVec 8)} (h : Lies w p bs) (hb : Below w.heap.size w w') : Lies w' p bs := by
  rcases h with h | ⟨b, off, hp, hr⟩
  · exact Or.inl h
  · exact Or.inr ⟨b, off, hp, fun j v hv => (hb.cell (p := ⟨b, off + j, none⟩) (World.block_lt_of_cell? w _ (hr j v hv))).trans (hr j v hv)⟩
/-- What lies in a world lies in no block that was made later. -/
theorem Lies.reads {w w' : World} {p : Option Addr} {bs : List (BitVec 8)} (h : Lies w p bs) (hb : Below w.heap.size w w') (g : Nat) (hg : w.heap.size ≤ g) : Reads w' g p bs := by
  rcases h with h | ⟨b, off, hp, hr⟩
  · exact Or.inl h
  · by_cases hne : bs = []
    · exact Or.inl hne
    · refine Or.inr ⟨b, off, hp, ?_, fun j v hv => (hb.cell (p := ⟨b, off + j, none⟩) (World.block_lt_of_cell? w _ (hr j v hv))).trans (hr j v hv)⟩
      cases bs with
      | nil => exact absurd rfl hne
      | cons x r =>
        have := World.block_lt_of_cell? w _ (hr 0 _ rfl)
        intro e; subst e; simp at this; omega
theorem take_set_fill (l : List (BitVec 8)) (n i : Nat) (hl : l.length = n) (hi : i < n) : (l.take i ++ List.replicate (n - i) 0#8).set i (l.getD i 0#8) = l.take (i + 1) ++ List.replicate (n - (i + 1)) 0#8 := by
  have h1 : (l.take i).length = i := by rw [List.length_take]; omega
  obtain ⟨m, hm⟩ : ∃ m, n - i = m + 1 := ⟨n - i - 1, by omega⟩
  rw [List.take_succ_eq_append_getElem (by omega), hm, show n - (i + 1) = m by omega, List.set_append_right _ _ (by omega), h1, Nat.sub_self, List.replicate_succ, List.set_cons_zero, List.append_assoc]
  simp [List.getD, show i < l.length by omega]
/-- May the region be carried out along this list? (true: the operation yields its value whatever else has been done; false: it is the only one that may come up.) -/
def schedOk (ops : Array Oper) : List (Nat × Bool) → Array Bool → Bool
  | [], L => (Region.ready .any ops L).isEmpty
  | (i, true) :: r, L => Region.free .any ops L i && (Region.ready .any ops L).contains i && schedOk ops r (L.setIfInBounds i true)
  | (i, false) :: r, L => decide (Region.ready .any ops L = [i]) && schedOk ops r (L.setIfInBounds i true)
/-- What is to be shown, operation by operation. -/
def wpS (P : Program) (ops : Array Oper) (Q : Exit → Act → World → Prop) (S : World → Prop) : List (Nat × Bool) → Act → World → Prop
  | [], a, w => Q .normal a w
  | (i, true) :: r, a, w => ∃ o v, ops[i]? = some o ∧ YieldsIf P ops S o v a ∧ wpS P ops Q S r (a.put o.dst v) w
  | (i, false) :: r, a, w => wpOp P ops Q i (fun a' w' => S w' ∧ wpS P ops Q S r a' w') a w
theorem wpAnyH_sched {P : Program} {ops : Array Oper} {Q : Exit → Act → World → Prop} {S : World → Prop} (hs : Region.noSelect ops = true) (hQ : ∀ c a w, ¬ Q (.panic c) a w) :
    ∀ (r : List (Nat × Bool)) (L : Array Bool) (a : Act) (w : World), schedOk ops r L = true → S w → wpS P ops Q S r a w → wpAnyH P .any ops Q S r.length L a w
  | [], L, a, w, hc, _, h => by
    simp only [schedOk, List.isEmpty_iff] at hc
    exact wpAnyH_done hc h 0
  | (i, true) :: r, L, a, w, hc, hS, h => by
    simp only [schedOk, Bool.and_eq_true] at hc
    obtain ⟨o, v, ho, hy, h⟩ := h
    exact wpAnyH_take ho hs hc.1.1 hc.1.2 (fun c a w h => absurd h (hQ c _ w)) hy hS (wpAnyH_sched hs hQ r _ _ w hc.2 hS h)
  | (i, false) :: r, L, a, w, hc, hS, h => by
    simp only [schedOk, Bool.and_eq_true, decide_eq_true_eq] at hc
    refine wpAnyH_all hc.1 (by simp) (fun j hj => ?_)
    rw [List.mem_singleton.1 hj]
    exact wpOp_mono (fun a' w' h' => ⟨h'.1, wpAnyH_sched hs hQ r _ a' w' hc.2 h'.1 h'.2⟩) h
section
variable {P : Program} {ops : Array Oper} {Q : Exit → Act → World → Prop} {S : World → Prop} {r : List (Nat × Bool)} {i : Nat} {o : Oper} {d : Option Tmp} {v : Value} {a : Act} {w w' : World}
theorem wanted_guard {j : Nat} {dj : Tmp} {oj : Oper} (hg : o.guard = some (j, true)) (hj : ops[j]? = some oj) (hd : oj.dst = some dj) (he : a.eval (.tmp dj) = .bool true) : Region.wanted o (yielded ops a.tmps) = true := by
  have h2 : a.tmps[dj]? = some (.bool true) := by
    have h3 : a.tmps.getD dj undef = .bool true := he
    rw [Array.getD_eq_getD_getElem?] at h3
    cases h4 : a.tmps[dj]? with
    | none => rw [h4] at h3; exact absurd h3 (by simp [undef])
    | some u => rw [h4] at h3; simp at h3; rw [h3]
  unfold Region.wanted
  rw [hg]
  simp only [yielded, hj, Option.bind_some, hd, h2]
  rfl
theorem step_pure (ho : ops[i]? = some o) (hd : o.dst = d) (hw : Region.wanted o (yielded ops a.tmps) = true) (hr : ∀ w, S w → (execOp a.eval o).run P w = .ok (.value v) w) (h : wpS P ops Q S r (a.put d v) w) : wpS P ops Q S ((i, true) :: r) a w :=
  ⟨o, v, ho, .inl ⟨hw, hr⟩, by rw [hd]; exact h⟩
theorem step_op (ho : ops[i]? = some o) (hd : o.dst = d) (hw : Region.wanted o (yielded ops a.tmps) = true) (hr : (execOp a.eval o).run P w = .ok (.value v) w') (hS : S w') (h : wpS P ops Q S r (a.put d v) w') : wpS P ops Q S ((i, false) :: r) a w := by
  show wpOp P ops Q i _ a w
  unfold wpOp
  rw [ho]
  show if Region.wanted o (yielded ops a.tmps) = true then _ else _
  rw [if_pos hw]
  refine .inl ?_
  unfold Oper.wp
  rw [hr, Oper.upon_value, hd]
  exact ⟨hS, h⟩
theorem step_call {f : FuncId} {args : Array Value} {R : World → Prop} (ho : ops[i]? = some o) (hd : o.dst = d) (hw : Region.wanted o (yielded ops a.tmps) = true) (hr : (execOp a.eval o).run P w = .ok (.enter f args) w)
    (hc : Calls P f args w fun e w' => e = .returned v ∧ R w') (hS : ∀ w', R w' → S w') (h : ∀ w', R w' → wpS P ops Q S r (a.put d v) w') : wpS P ops Q S ((i, false) :: r) a w := by
  show wpOp P ops Q i _ a w
  unfold wpOp
  rw [ho]
  show if Region.wanted o (yielded ops a.tmps) = true then _ else _
  rw [if_pos hw]
  exact .inl (wp_enter hr hc (fun w' hR => by rw [hd]; exact ⟨hS w' hR, h w' hR⟩))
end
section
variable {P : Program} {ρ : Operand → Value} {o : Oper} {x y c : Operand} {v u : Value}
theorem run_assign (ho : o.op = .assign x) (h : ρ x = v) (w : World) : (execOp ρ o).run P w = .ok (.value v) w := by
  unfold execOp; simp only [ho, h, Sem.run_pure]
theorem run_pick_true (ho : o.op = .pick c x y) (hc : ρ c = .bool true) (h : ρ x = v) (w : World) : (execOp ρ o).run P w = .ok (.value v) w := by
  unfold execOp; simp only [ho, hc, h, Sem.run_bind]; rfl
theorem range_keep {w w' : World} {b off : Nat} {l : List Value} (h : w.rangeAt b off l) (hb : Below w.heap.size w w') : w'.rangeAt b off l := fun j v hv =>
  (hb.cell (p := ⟨b, off + j, none⟩) (World.block_lt_of_cell? w _ (h j v hv))).trans (h j v hv)
/-- A call of any function of the program that has a body. -/
theorem callFunc_body {P : Program} {f : FuncId} {fn : Func} (hfn : P.funcs[f]? = some fn) (hb : (fn.name == "runtime.NumGoroutine" || fn.body.isNone) = false) (args : Array Value) (w : World) : (callFunc f args).run P w = .ok (.enter f args) w := by
  rw [Bool.or_eq_false_iff] at hb
  have h1 : ¬ fn.name = "runtime.NumGoroutine" := by simpa using hb.1
  have h2 : ¬ fn.body = none := fun h => by rw [h] at hb; exact absurd hb.2 (by decide)
  simp [callFunc, go_sem, hfn, h1, h2]
theorem run_callf0 {P : Program} {f : FuncId} {fn : Func} {T : Array TypeId} (ho : o.op = .call { callee := .value (.func f), args := #[], argTypes := T }) (hf : ρ (.func f) = .func (.func f) #[] #[])  (hfn : P.funcs[f]? = some fn) (hb : (fn.name == "runtime.NumGoroutine" || fn.body.isNone) = false) (w : World) : (execOp ρ o).run P w = .ok (.enter f #[]) w := by
  obtain ⟨dst, op, ty, pos, after, guard⟩ := o
  simp only at ho
  subst ho
  have h := callFunc_body hfn hb #[] w
  go_simp
theorem run_callf1 {P : Program} {f : FuncId} {fn : Func} {T : Array TypeId} (ho : o.op = .call { callee := .value (.func f), args := #[x], argTypes := T }) (hf : ρ (.func f) = .func (.func f) #[] #[]) (hx : ρ x = v) (hfn : P.funcs[f]? = some fn) (hb : (fn.name == "runtime.NumGoroutine" || fn.body.isNone) = false) (w : World) : (execOp ρ o).run P w = .ok (.enter f #[v]) w := by
  obtain ⟨dst, op, ty, pos, after, guard⟩ := o
  simp only at ho
  subst ho
  have h := callFunc_body hfn hb #[v] w
  go_simp
theorem run_callf2 {P : Program} {f : FuncId} {fn : Func} {T : Array TypeId} (ho : o.op = .call { callee := .value (.func f), args := #[x, y], argTypes := T }) (hf : ρ (.func f) = .func (.func f) #[] #[]) (hx : ρ x = v) (hy : ρ y = u) (hfn : P.funcs[f]? = some fn) (hb : (fn.name == "runtime.NumGoroutine" || fn.body.isNone) = false) (w : World) : (execOp ρ o).run P w = .ok (.enter f #[v, u]) w := by
  obtain ⟨dst, op, ty, pos, after, guard⟩ := o
  simp only at ho
  subst ho
  have h := callFunc_body hfn hb #[v, u] w
  go_simp
theorem run_callf3 {P : Program} {f : FuncId} {fn : Func} {T : Array TypeId} {z : Value} (ho : o.op = .call { callee := .value (.func f), args := #[x, y, c], argTypes := T }) (hf : ρ (.func f) = .func (.func f) #[] #[]) (hx : ρ x = v) (hy : ρ y = u) (hz : ρ c = z) (hfn : P.funcs[f]? = some fn) (hb : (fn.name == "runtime.NumGoroutine" || fn.body.isNone) = false) (w : World) : (execOp ρ o).run P w = .ok (.enter f #[v, u, z]) w := by
  obtain ⟨dst, op, ty, pos, after, guard⟩ := o
  simp only at ho
  subst ho
  have h := callFunc_body hfn hb #[v, u, z] w
  go_simp
theorem run_callf4 {P : Program} {f : FuncId} {fn : Func} {T : Array TypeId} {z z2 : Value} {c2 : Operand} (ho : o.op = .call { callee := .value (.func f), args := #[x, y, c, c2], argTypes := T }) (hf : ρ (.func f) = .func (.func f) #[] #[]) (hx : ρ x = v) (hy : ρ y = u) (hz : ρ c = z) (hz2 : ρ c2 = z2) (hfn : P.funcs[f]? = some fn) (hb : (fn.name == "runtime.NumGoroutine" || fn.body.isNone) = false) (w : World) : (execOp ρ o).run P w = .ok (.enter f #[v, u, z, z2]) w := by
  obtain ⟨dst, op, ty, pos, after, guard⟩ := o
  simp only at ho
  subst ho
  have h := callFunc_body hfn hb #[v, u, z, z2] w
  go_simp
end
theorem calls_gen {P : Program} {f : FuncId} {args : Array Value} {w : World} {R : Ending → World → Prop} (F : World → Prop) (hF : F w) (h : ∀ w, F w → Calls P f args w R) : Calls P f args w R := h w hF
/-- A block that holds these bytes. -/
def BytesAt (w : World) (g : Nat) (t : TypeId) (l : List (BitVec 8)) : Prop := w.heap[g]? = some (.cells (bytesV l).toArray t (0, 0))
theorem BytesAt.size {w : World} {g : Nat} {t : TypeId} {l : List (BitVec 8)} (h : BytesAt w g t l) : g < w.heap.size := (Array.getElem?_eq_some_iff.1 h).1
theorem BytesAt.keep {w w' : World} {g : Nat} {t : TypeId} {l : List (BitVec 8)} (h : BytesAt w g t l) (hb : Below w.heap.size w w') : BytesAt w' g t l := (hb.block _ h.size).trans h
theorem BytesAt.past {w w' : World} {g r : Nat} {t : TypeId} {l : List (BitVec 8)} (h : BytesAt w g t l) (hg : w.grownBy w' (some r)) (hne : g ≠ r) : BytesAt w' g t l := (hg.block _ h.size (fun e => hne (Option.some.inj e))).trans h
theorem BytesAt.range {w : World} {g : Nat} {t : TypeId} {l : List (BitVec 8)} (h : BytesAt w g t l) : w.rangeAt g 0 (bytesV l) := range_bytesV h
def noughts (n : Nat) : List (BitVec 8) := List.replicate n 0#8
theorem noughts_length (n : Nat) : (noughts n).length = n := by simp [noughts]
theorem splice_noughts (n : Nat) (l : List (BitVec 8)) : splice (List.replicate n 0#8) 0 l = l ++ List.replicate (n - l.length) 0#8 := by simp [splice]
set_option maxRecDepth 100000 in
/-- A copy of bytes into a block of the call's own, from the block's start. -/
theorem run_copy_bytes (w : World) (ty : TypeId) (g n cap : Nat) (t : TypeId) (blk bs : List (BitVec 8)) (p : Option Addr) (m c : Nat) (hg : BytesAt w g t blk) (hn : blk.length = n) (hL : Lies w p bs) (hm : bs.length = m) (hle : m ≤ n) :
    ∃ w', (Builtin.copy_ #[24, 24] ty #[.slice (some ⟨g, 0, none⟩) n cap, .slice p m c]).run Tryd.prog w = .ok (goInt m) w' ∧ BytesAt w' g t (splice blk 0 bs) ∧ w.grownBy w' (some g) := by
  have hmin : Nat.min m n = m := Nat.min_eq_left hle
  have i5 : (Tryd.prog.info? 5).map (·.size) = some 1 := by kernel_rfl
  by_cases h0 : m = 0
  · subst h0
    have hb : bs = [] := List.length_eq_zero_iff.1 hm
    subst hb
    refine ⟨w, run_copy_none (P := Tryd.prog) w 24 24 ty 5 _ p n cap 0 c Tryd.underlying24 i5 (by simp), ?_, World.grownBy.refl _ _⟩
    rw [splice_nil]; exact hg
  · rcases hL with hb | ⟨b, off, rfl, hr⟩
    · subst hb; exact absurd hm.symm h0
    · have hl : (bytesV bs).length = m := by rw [bytesV_length, hm]
      have hrun := run_copy_row (P := Tryd.prog) w 24 24 ty 5 g 0 n cap ⟨b, off, none⟩ m c (bytesV blk).toArray t (bytesV bs) Tryd.underlying24 i5 hg (by rw [hl, hmin])
        (fun j v hv => by rw [Addr.add_mid]; exact hr j v hv) (by rw [hl, bytesV_size _ n hn]; omega) (fun v hv => bytesV_mem hv)
      rw [hl] at hrun
      refine ⟨_, hrun, ?_, grown_setRow _ _ _⟩
      show _ = _
      rw [setRow_heap _ _ _ _ _ _ hg]
      congr 2
      rw [← hl]
      simp [splice, bytesV]
theorem wpList_copy_bytes {w : World} {ops : Array Oper} {rest : List Oper} {o : Oper} {a : Act} {Q : Exit → Act → World → Prop} (hgd : o.guard = none) (d s : Operand)
    (ho : o.op = .call { callee := .builtin .copy, args := #[d, s], argTypes := #[24, 24] }) (g n cap : Nat) (t : TypeId) (blk bs : List (BitVec 8)) (p : Option Addr) (m c : Nat)
    (hd : a.eval d = .slice (some ⟨g, 0, none⟩) n cap) (hs : a.eval s = .slice p m c) (hg : BytesAt w g t blk) (hn : blk.length = n) (hL : Lies w p bs) (hm : bs.length = m) (hle : m ≤ n)
    (h : ∀ w', BytesAt w' g t (splice blk 0 bs) → w.grownBy w' (some g) → wpList Tryd.prog ops Q rest (a.put o.dst (goInt m)) w') : wpList Tryd.prog ops Q (o :: rest) a w := by
  refine wpList_plain hgd fun K hK => ?_
  obtain ⟨w', hrun, h1, h2⟩ := run_copy_bytes w o.type g n cap t blk bs p m c hg hn hL hm hle
  unfold Oper.wp
  simp [execOp, ho, resolve, invoke, builtin, hd, hs, hrun, Result.andThen]
  exact hK _ _ (h w' h1 h2)
theorem run_copy_op {ρ : Operand → Value} {o : Oper} {x y : Operand} {w w' : World} {v u r : Value} (ho : o.op = .call { callee := .builtin .copy, args := #[x, y], argTypes := #[24, 24] }) (hx : ρ x = v) (hy : ρ y = u)
    (hr : (Builtin.copy_ #[24, 24] o.type #[v, u]).run Tryd.prog w = .ok r w') : (execOp ρ o).run Tryd.prog w = .ok (.value r) w' := by
  simp [execOp, ho, resolve, invoke, builtin, hx, hy, hr, Result.andThen]
/-- A region that draws its order, with any thing that is kept. -/
theorem region_schedS {P : Program} {id : Nat} {ops : Array Oper} {Q : Exit → Act → World → Prop} {a : Act} {w : World} (S : World → Prop) (hS : S w.drew) (r : List (Nat × Bool)) (hm : P.follows .mixedOrders = true) (hs : Region.noSelect ops = true)
    (hl : r.length = ops.size) (hc : schedOk ops r (Array.replicate ops.size false) = true)
    (h : ∀ ops', ops' = ops → ∀ A, A = a → wpS P ops' (NoPanic Q) S r A w.drew) : (Code.region id ops true).wp P Q a w := by
  refine wp_region_noPanic (wp_region_held (S := S) hm ?_)
  rw [← hl]
  exact wpAnyH_sched hs (fun c a w h => h) r _ a w.drew (hl ▸ hc) hS (h ops rfl a rfl)
theorem setCell_bytes {w : World} {g : Nat} {l : List (BitVec 8)} {t : TypeId} {k : Nat} (h : w.heap[g]? = some (.cells (bytesV l).toArray t (0, 0))) (x : BitVec 8) :
    (w.setCell ⟨g, k, none⟩ (.int .u8 (n8 x))).heap[g]? = some (.cells (bytesV (l.set k x)).toArray t (0, 0)) := by
  rw [heap_setCell_same _ _ _ _ _ _ h, List.setIfInBounds_toArray]
  simp [bytesV, List.map_set]
theorem Reads.on {w w' : World} {g : Nat} {p : Option Addr} {bs : List (BitVec 8)} (h : Reads w g p bs) (hb : Below w.heap.size w w') : Reads w' g p bs := by
  rcases h with h | ⟨b, off, hp, hne, hr⟩
  · exact Or.inl h
  · exact Or.inr ⟨b, off, hp, hne, range_keep hr hb⟩
theorem Reads.past {w w' : World} {g : Nat} {p : Option Addr} {bs : List (BitVec 8)} (h : Reads w g p bs) (hb : w.grownBy w' (some g)) : Reads w' g p bs := by
  rcases h with h | ⟨b, off, hp, hne, hr⟩
  · exact Or.inl h
  · exact Or.inr ⟨b, off, hp, hne, Reads.grown hr hb hne⟩
theorem grown_of_below {w w' : World} (hb : Below w.heap.size w w') (r : Option Nat) : w.grownBy w' r := grown_below hb (Nat.le_refl _) r
/-- A step of a region by the rule of the operation itself. -/
theorem step_wp {P : Program} {ops : Array Oper} {Q : Exit → Act → World → Prop} {S : World → Prop} {r : List (Nat × Bool)} {i : Nat} {o : Oper} {a : Act} {w : World} (ho : ops[i]? = some o) (hw : Region.wanted o (yielded ops a.tmps) = true)
    (h : o.wp P a w (fun a' w' => S w' ∧ wpS P ops Q S r a' w') Q) : wpS P ops Q S ((i, false) :: r) a w := by
  show wpOp P ops Q i _ a w
  unfold wpOp
  rw [ho]
  show if Region.wanted o (yielded ops a.tmps) = true then _ else _
  rw [if_pos hw]
  exact .inl h
end Go.Proofs.YtgeacocdnenhdaaDoor

/-
  The contracts of the kit's own functions on bytes: CopyBytes, markBytes, LentBytes, SameBytes at equal lists, KeptBytes at what LentBytes made.
-/
namespace Go.Proofs.YtgeacocdnenhdaaDoor
open Go.RowKit Go.Proofs.ShaWords

/-- A slice of the call's own that holds these bytes. -/
def Own (B : Nat) (w : World) (l : List (BitVec 8)) (v : Value) : Prop := w.ownsRow B 5 1 v l.length (bytesV l)
theorem Own.nil (B : Nat) (w : World) : Own B w [] (.slice none 0 0) := World.ownsRow_nil w B 5 1
theorem Own.lies {B : Nat} {w : World} {l : List (BitVec 8)} {v : Value} (h : Own B w l v) : ∃ p cap, v = .slice p l.length cap ∧ l.length ≤ cap ∧ cap ≤ maxLen ∧ Lies w p l := by
  rcases h.2 with ⟨rfl, h0⟩ | ⟨g, cap, cur, rfl, hg, hh, hc, hm, hs, ht⟩
  · have : l = [] := List.length_eq_zero_iff.1 h0
    subst this
    exact ⟨none, 0, rfl, Nat.le_refl _, Nat.zero_le _, Or.inl rfl⟩
  · refine ⟨some ⟨g, 0, none⟩, cap, rfl, hc, hm, Or.inr ⟨g, 0, rfl, fun j v hv => ?_⟩⟩
    rw [Nat.zero_add, cell_of_row w g j cur 5 (0, 0) hh]
    rw [← ht, Nat.mul_one, List.getElem?_take] at hv
    split at hv
    · rw [← hv]; simp
    · cases hv
theorem Own.below {B : Nat} {w w' : World} {l : List (BitVec 8)} {v : Value} (h : Own B w l v) (hb : Below w.heap.size w w') : Own B w' l v :=
  World.ownsRow.kept h (grown_below hb (Nat.le_refl _) none) (by cases v.ownBlock <;> simp)
theorem info5' : ∃ i : TypeInfo, Tryd.prog.info? 5 = some i ∧ i.zero = some (.int .u8 0) ∧ i.size = 1 ∧ i.bytes = 1 := info_parts info5
/-- One byte more, behind a slice of the call's own. -/
theorem wpList_append_byte {ops : Array Oper} {rest : List Oper} {o : Oper} {a : Act} {w : World} {Q : Exit → Act → World → Prop} (hgd : o.guard = none) (s x : Operand)
    (ho : o.op = .call { callee := .builtin .append, args := #[s, x], argTypes := #[24, 24] }) (B : Nat) (v : Value) (l : List (BitVec 8)) (b : BitVec 8) (hs : a.eval s = v) (hown : Own B w l v) (hx : a.eval x = .slice (some ⟨w.heap.size, 0, none⟩) 1 1)
    (hl : l.length < 1099511627776) (hB : B ≤ w.heap.size)
    (h : ∀ v' w', Own B w' (l ++ [b]) v' → Below B w w' → wpList Tryd.prog ops Q rest (a.put o.dst v') w') : wpList Tryd.prog ops Q (o :: rest) a (w.alloc (.cells #[.int .u8 (n8 b)] 5)) := by
  obtain ⟨i, hi, hz, hsz, hby⟩ := info5'
  refine wpList_append_own (w := w.alloc (.cells #[.int .u8 (n8 b)] 5)) hgd s x 24 ho B 5 i (.int .u8 0) 1 1 Tryd.underlying24 hi hz hsz hby rfl (by decide) v l.length (bytesV l) hs (hown.alloc _) ⟨w.heap.size, 0, none⟩ 1 1 [.int .u8 (n8 b)] hx rfl ?_ ?_ (by unfold maxLen; omega) (by omega) (by rw [size_alloc]; omega) ?_
  · intro j u hu
    have hj : j = 0 := by have := (List.getElem?_eq_some_iff.1 hu).1; simp at this; exact this
    subst hj
    rw [Addr.add_mid, cell_of_row _ _ _ _ _ _ (heap_new_at rfl)]
    simpa using hu
  · intro u hu
    rw [List.mem_singleton.1 hu]; rfl
  · intro v' w' ho' hg _
    refine h v' w' ?_ ?_
    · unfold Own
      rw [List.length_append, bytesV_append]; exact ho'
    · refine ((Below.refl B w).alloc hB _).grown hg (by rw [size_alloc]; omega) (fun k hk => ?_)
      exact (hown.lt k hk).1

theorem range_front {w : World} {b off : Nat} {l r : List (BitVec 8)} (h : w.rangeAt b off (bytesV (l ++ r))) : w.rangeAt b off (bytesV l) := fun j v hv => by
  refine h j v ?_
  rw [bytesV_append, List.getElem?_append_left (List.getElem?_eq_some_iff.1 hv).1]; exact hv
theorem range_back {w : World} {b off : Nat} {l r : List (BitVec 8)} (h : w.rangeAt b off (bytesV (l ++ r))) : w.rangeAt b (off + l.length) (bytesV r) := fun j v hv => by
  rw [Nat.add_assoc]
  refine h (l.length + j) v ?_
  rw [bytesV_append, List.getElem?_append_right (by rw [bytesV_length]; omega), bytesV_length, Nat.add_sub_cancel_left]; exact hv

end Go.Proofs.YtgeacocdnenhdaaDoor

/-
  A block that holds words; pieces of a list written over.
-/
namespace Go.Proofs.YtgeacocdnenhdaaDoor
open Go.RowKit Go.Proofs.ShaWords

/-- A block that holds these words. -/
def WordsAt (w : World) (g : Nat) (t : TypeId) (l : List (BitVec 32)) : Prop := w.heap[g]? = some (.cells (wordsV l).toArray t (0, 0))
theorem WordsAt.size {w : World} {g : Nat} {t : TypeId} {l : List (BitVec 32)} (h : WordsAt w g t l) : g < w.heap.size := (Array.getElem?_eq_some_iff.1 h).1
theorem WordsAt.keep {w w' : World} {g : Nat} {t : TypeId} {l : List (BitVec 32)} (h : WordsAt w g t l) (hb : Below w.heap.size w w') : WordsAt w' g t l := (hb.block _ h.size).trans h
theorem WordsAt.past {w w' : World} {g r : Nat} {t : TypeId} {l : List (BitVec 32)} (h : WordsAt w g t l) (hg : w.grownBy w' (some r)) (hne : g ≠ r) : WordsAt w' g t l := (hg.block _ h.size (fun e => hne (Option.some.inj e))).trans h
theorem WordsAt.cell {w : World} {g : Nat} {t : TypeId} {l : List (BitVec 32)} (h : WordsAt w g t l) (k : Nat) (hk : k < l.length) : w.cell? ⟨g, k, none⟩ = some (.int .u32 (n32 (l.getD k 0#32))) := by
  rw [cell_wordsV h hk]; simp [List.getD, hk]
theorem WordsAt.frozen {w : World} {g : Nat} {t : TypeId} {l : List (BitVec 32)} (h : WordsAt w g t l) (k : Nat) : w.frozen? ⟨g, k, none⟩ = false := frozen_of_row _ _ _ _ _ h
theorem WordsAt.set {w : World} {g : Nat} {t : TypeId} {l : List (BitVec 32)} (h : WordsAt w g t l) (k : Nat) (x : BitVec 32) : WordsAt (w.setCell ⟨g, k, none⟩ (.int .u32 (n32 x))) g t (l.set k x) := by
  show _ = _
  rw [heap_setCell_same _ _ _ _ _ _ h, wordsV_set]
theorem WordsAt.range {w : World} {g : Nat} {t : TypeId} {l : List (BitVec 32)} (h : WordsAt w g t l) : w.rangeAt g 0 (wordsV l) := fun j v hv => by
  rw [Nat.zero_add, cell_of_row w g j _ t _ h]; simpa using hv
theorem WordsAt.drew {w : World} {g : Nat} {t : TypeId} {l : List (BitVec 32)} (h : WordsAt w g t l) : WordsAt w.drew g t l := h
theorem BytesAt.cell {w : World} {g : Nat} {t : TypeId} {l : List (BitVec 8)} (h : BytesAt w g t l) (k : Nat) (hk : k < l.length) : w.cell? ⟨g, k, none⟩ = some (.int .u8 (n8 (l.getD k 0#8))) := by
  rw [cell_bytesV h hk]; simp [List.getD, hk]
theorem BytesAt.put {w : World} {g : Nat} {t : TypeId} {l : List (BitVec 8)} (h : BytesAt w g t l) (k : Nat) (x : BitVec 8) : BytesAt (w.setCell ⟨g, k, none⟩ (.int .u8 (n8 x))) g t (l.set k x) := setCell_bytes h x
end Go.Proofs.YtgeacocdnenhdaaDoor

/-
  A slice of bytes of the call's own: its block; a byte written. Blocks of bytes, many at once.
-/
namespace Go.Proofs.YtgeacocdnenhdaaDoor
open Go.RowKit Go.Proofs.ShaWords
theorem Own.put {B g n cap : Nat} {w : World} {l : List (BitVec 8)} (h : Own B w l (.slice (some ⟨g, 0, none⟩) n cap)) (k : Nat) (x : BitVec 8) : Own B (w.setCell ⟨g, k, none⟩ (.int .u8 (n8 x))) (l.set k x) (.slice (some ⟨g, 0, none⟩) n cap) := by
  rcases h.2 with ⟨h0, _⟩ | ⟨g', cap', cur, he, hg, hh, hc, hm, hs, ht⟩
  · cases h0
  · cases he
    refine ⟨by rw [bytesV_length, Nat.mul_one], .inr ⟨g, cap, cur.setIfInBounds k (.int .u8 (n8 x)), by rw [List.length_set], hg, heap_setCell_same _ _ _ _ _ _ hh, by rw [List.length_set]; exact hc, hm, by rw [Array.size_setIfInBounds]; exact hs, ?_⟩⟩
    rw [Nat.mul_one] at ht
    rw [List.length_set, Array.toList_setIfInBounds, Nat.mul_one, List.take_set, ht]
    simp [bytesV, List.map_set]
/-- Blocks of bytes that the call has made. -/
structure Has (w0 : World) (L : List (Nat × TypeId × List (BitVec 8))) (w : World) : Prop where
  below : Below w0.heap.size w0 w
  all : ∀ (i g : Nat) (t : TypeId) (l : List (BitVec 8)), L[i]? = some (g, t, l) → BytesAt w g t l ∧ w0.heap.size ≤ g
theorem Has.on {w0 wr w' : World} {L : List (Nat × TypeId × List (BitVec 8))} (h : Has w0 L wr) (hb : Below wr.heap.size wr w') : Has w0 L w' :=
  ⟨h.below.trans (hb.mono h.below.size), fun i g t l e => ⟨(h.all i g t l e).1.keep hb, (h.all i g t l e).2⟩⟩
theorem Has.add {w0 wr : World} {L : List (Nat × TypeId × List (BitVec 8))} (h : Has w0 L wr) {g : Nat} {t : TypeId} {l : List (BitVec 8)} (hb : BytesAt wr g t l) (hg : w0.heap.size ≤ g) : Has w0 ((g, t, l) :: L) wr :=
  ⟨h.below, fun i g' t' l' e => by
    cases i with
    | zero => simp only [List.getElem?_cons_zero, Option.some.injEq, Prod.mk.injEq] at e; obtain ⟨rfl, rfl, rfl⟩ := e; exact ⟨hb, hg⟩
    | succ i => rw [List.getElem?_cons_succ] at e; exact h.all i g' t' l' e⟩
end Go.Proofs.YtgeacocdnenhdaaDoor

/-
  The kit's functions on byte lists, whatever their length.
-/
namespace Go.Proofs.YtgeacocdnenhdaaDoor
open Go.RowKit Go.Proofs.ShaWords
/-- One byte more, behind a slice of the call's own. -/
theorem wpList_append_byte_big {ops : Array Oper} {rest : List Oper} {o : Oper} {a : Act} {w : World} {Q : Exit → Act → World → Prop} (hgd : o.guard = none) (s x : Operand)
    (ho : o.op = .call { callee := .builtin .append, args := #[s, x], argTypes := #[24, 24] }) (B : Nat) (v : Value) (l : List (BitVec 8)) (b : BitVec 8) (hs : a.eval s = v) (hown : Own B w l v) (hx : a.eval x = .slice (some ⟨w.heap.size, 0, none⟩) 1 1)
    (hl : l.length < 140737488355328) (hB : B ≤ w.heap.size)
    (h : ∀ v' w', Own B w' (l ++ [b]) v' → Below B w w' → wpList Tryd.prog ops Q rest (a.put o.dst v') w') : wpList Tryd.prog ops Q (o :: rest) a (w.alloc (.cells #[.int .u8 (n8 b)] 5)) := by
  obtain ⟨i, hi, hz, hsz, hby⟩ := info5'
  refine wpList_append_own (w := w.alloc (.cells #[.int .u8 (n8 b)] 5)) hgd s x 24 ho B 5 i (.int .u8 0) 1 1 Tryd.underlying24 hi hz hsz hby rfl (by decide) v l.length (bytesV l) hs (hown.alloc _) ⟨w.heap.size, 0, none⟩ 1 1 [.int .u8 (n8 b)] hx rfl ?_ ?_ (by unfold maxLen; omega) (by omega) (by rw [size_alloc]; omega) ?_
  · intro j u hu
    have hj : j = 0 := by have := (List.getElem?_eq_some_iff.1 hu).1; simp at this; exact this
    subst hj
    rw [Addr.add_mid, cell_of_row _ _ _ _ _ _ (heap_new_at rfl)]
    simpa using hu
  · intro u hu
    rw [List.mem_singleton.1 hu]; rfl
  · intro v' w' ho' hg _
    refine h v' w' ?_ ?_
    · unfold Own
      rw [List.length_append, bytesV_append]; exact ho'
    · refine ((Below.refl B w).alloc hB _).grown hg (by rw [size_alloc]; omega) (fun k hk => ?_)
      exact (hown.lt k hk).1
set_option maxHeartbeats 400000 in
theorem copy_big (l : List (BitVec 8)) (p : Option Addr) (cap : Nat) (w : World) (hl : l.length < 140737488355328) (hL : Lies w p l) :
    Calls Tryd.prog 18 #[.slice p l.length cap] w fun e w' => ∃ v, e = .returned v ∧ Own w.heap.size w' l v ∧ Below w.heap.size w w' := by
  have HL := Lib.hid hL; clear hL
  go_enter Tryd.func18, Tryd.ntmps18
  go_wp2_with fail
  go_loopw [3, 4] (fun v i wr => ∃ k : Nat, k ≤ l.length ∧ i = .int .i64 k ∧ Own w.heap.size wr (l.take k) v ∧ Below w.heap.size w wr) (fun _ i _ => l.length - (intOf i).toNat)
  case atStart => exact ⟨0, Nat.zero_le _, rfl, Own.nil _ _, Below.refl _ _⟩
  case round =>
    obtain ⟨k, hk, rfl, ho, hb⟩ := hrel
    have sz := hb.size
    by_cases hlt : k < l.length
    · rcases HL.out with h0 | ⟨b, off, rfl, hr⟩
      · exfalso; rw [h0] at hlt; simp at hlt
      · have hv : (bytesV l)[k]? = some (.int .u8 (n8 l[k])) := by simp [bytesV, hlt]
        have hbl := World.block_lt_of_cell? w _ (hr k _ hv)
        have hc := (hb.cell (p := ⟨b, off + k, none⟩) hbl).trans (hr k _ hv)
        clear hv
        have HTK := Lib.hid (List.take_succ_eq_append_getElem hlt)
        generalize l[k] = x at hc HTK
        have hk1 : (l.take k).length < 140737488355328 := by rw [List.length_take]; omega
        have HO := Lib.hid ho; clear ho
        have HB := Lib.hid hb; clear hb hr hbl
        have HK1 := Lib.hid hk1; clear hk1
        go_wp2_with (at_builtin; refine wpList_append_byte_big rfl (.tmp 11) (.tmp 16) rfl w.heap.size _ (l.take k) x rfl HO.out rfl HK1.out (by omega) ?_; intro v' w' ho' hb'; rw [← HTK.out] at ho'; have HO' := Lib.hid ho'; have HB' := Lib.hid (HB.out.trans hb'); clear ho' hb')
        go_roundw
        case rel => exact ⟨k + 1, by omega, by go_num, HO'.out, HB'.out⟩
        case measure => simp [intOf]; omega
    · have HO := Lib.hid ho; clear ho
      have HB := Lib.hid hb; clear hb
      go_wp2_with fail
      go_ret
      refine ⟨_, rfl, ?_, HB.out⟩
      have h1 := HO.out
      rw [List.take_of_length_le (by omega)] at h1
      exact h1
theorem copy_bigL (l : List (BitVec 8)) (n : Nat) (p : Option Addr) (cap : Nat) (w : World) (hln : l.length = n) (hl : n < 140737488355328) (hL : Lies w p l) :
    Calls Tryd.prog 18 #[.slice p n cap] w fun e w' => ∃ v, e = .returned v ∧ Own w.heap.size w' l v ∧ Below w.heap.size w w' := by
  subst hln
  exact copy_big l p cap w hl hL
end Go.Proofs.YtgeacocdnenhdaaDoor

/-
  A call that changes a few blocks alone: what it leaves; bytes that lie in blocks of a set.
-/
namespace Go.Proofs.YtgeacocdnenhdaaDoor
open Go.RowKit Go.Proofs.ShaWords

/-- All blocks stay but those of F; new ones come. -/
structure Stays (F : Nat → Prop) (w w' : World) : Prop where
  os : w'.os = w.os
  tape : w'.tape = w.tape
  output : w'.output = w.output
  size : w.heap.size ≤ w'.heap.size
  block : ∀ k, k < w.heap.size → ¬ F k → w'.heap[k]? = w.heap[k]?
theorem Stays.refl (F : Nat → Prop) (w : World) : Stays F w w := ⟨rfl, rfl, rfl, Nat.le_refl _, fun _ _ _ => rfl⟩
theorem Stays.trans {F G : Nat → Prop} {w w' w'' : World} (h : Stays F w w') (h2 : Stays G w' w'') (hG : ∀ k, G k → k < w.heap.size → F k) : Stays F w w'' :=
  ⟨h2.os.trans h.os, h2.tape.trans h.tape, h2.output.trans h.output, Nat.le_trans h.size h2.size, fun k hk hn => (h2.block k (Nat.lt_of_lt_of_le hk h.size) (fun g => hn (hG k g hk))).trans (h.block k hk hn)⟩
theorem Stays.more {F G : Nat → Prop} {w w' : World} (h : Stays F w w') (hG : ∀ k, F k → G k) : Stays G w w' := ⟨h.os, h.tape, h.output, h.size, fun k hk hn => h.block k hk (fun f => hn (hG k f))⟩
theorem Below.stays {F : Nat → Prop} {w w' : World} (h : Below w.heap.size w w') : Stays F w w' := ⟨h.os, h.tape, h.output, h.size, fun k hk _ => h.block k hk⟩
theorem Stays.below {F : Nat → Prop} {B : Nat} {w w' : World} (h : Stays F w w') (hF : ∀ k, F k → B ≤ k) (hB : B ≤ w.heap.size) : Below B w w' := ⟨h.os, h.tape, h.output, h.size, fun k hk => h.block k (by omega) (fun f => by have := hF k f; omega)⟩
theorem grown_stays {F : Nat → Prop} {r : Option Nat} {w w' : World} (h : w.grownBy w' r) (hF : ∀ k, r = some k → F k) : Stays F w w' := ⟨h.os, h.tape, h.output, h.size, fun k hk hn => h.block k hk (fun e => hn (hF k e.symm))⟩
theorem ownsRow_stays {F : Nat → Prop} {w w' : World} {B size n : Nat} {e : TypeId} {v : Value} {xs : List Value} (h : w.ownsRow B e size v n xs) (hk : Stays F w w') (hne : ∀ k, v.ownBlock = some k → ¬ F k) : w'.ownsRow B e size v n xs := by
  refine ⟨h.1, ?_⟩
  rcases h.2 with h0 | ⟨g, cap, cur, he, hg, hh, r⟩
  · exact Or.inl h0
  · exact Or.inr ⟨g, cap, cur, he, hg, (hk.block g (Array.getElem?_eq_some_iff.1 hh).1 (hne g (by rw [he]; rfl))).trans hh, r⟩
/-- Bytes that lie in a block of D. -/
def LiesIn (D : Nat → Prop) (w : World) (p : Option Addr) (l : List (BitVec 8)) : Prop := l = [] ∨ ∃ b off, p = some ⟨b, off, none⟩ ∧ D b ∧ b < w.heap.size ∧ w.rangeAt b off (bytesV l)
theorem LiesIn.lies {D : Nat → Prop} {w : World} {p : Option Addr} {l : List (BitVec 8)} (h : LiesIn D w p l) : Lies w p l := by
  rcases h with h0 | ⟨b, off, rfl, _, _, hr⟩
  · exact Or.inl h0
  · exact Or.inr ⟨b, off, rfl, hr⟩
theorem LiesIn.more {D E : Nat → Prop} {w : World} {p : Option Addr} {l : List (BitVec 8)} (h : LiesIn D w p l) (hE : ∀ k, D k → k < w.heap.size → E k) : LiesIn E w p l := by
  rcases h with h0 | ⟨b, off, rfl, hd, hb, hr⟩
  · exact Or.inl h0
  · exact Or.inr ⟨b, off, rfl, hE b hd hb, hb, hr⟩
theorem range_of_block {w w' : World} {b off : Nat} {xs : List Value} (h : w.rangeAt b off xs) (hb : w'.heap[b]? = w.heap[b]?) : w'.rangeAt b off xs := fun j v hv => (World.cell?_of_block (a := ⟨b, off + j, none⟩) hb).trans (h j v hv)
theorem LiesIn.keep {D F : Nat → Prop} {w w' : World} {p : Option Addr} {l : List (BitVec 8)} (h : LiesIn D w p l) (hk : Stays F w w') (hD : ∀ k, F k → ¬ D k) : LiesIn D w' p l := by
  rcases h with h0 | ⟨b, off, rfl, hd, hb, hr⟩
  · exact Or.inl h0
  · exact Or.inr ⟨b, off, rfl, hd, Nat.lt_of_lt_of_le hb hk.size, range_of_block hr (hk.block b hb (fun f => hD b f hd))⟩
theorem Lies.stay {b : Nat} {w w' : World} {p : Option Addr} {l : List (BitVec 8)} (h : Lies w p l) (hk : Stays (fun k => k = b) w w') (hb : ∀ (off : Nat) (x : BitVec 8), w.cell? ⟨b, off, none⟩ ≠ some (.int .u8 (n8 x))) : Lies w' p l := by
  rcases h with h0 | ⟨c, off, rfl, hr⟩
  · exact Or.inl h0
  · cases l with
    | nil => exact Or.inl rfl
    | cons x l =>
      have h0 := hr 0 (.int .u8 (n8 x)) rfl
      have h1 : c < w.heap.size := World.block_lt_of_cell? w _ h0
      exact Or.inr ⟨c, off, rfl, range_of_block hr (hk.block c h1 (fun e => by subst e; exact hb _ _ h0))⟩
/-- A slice of bytes that lie in a block of D. -/
def SliceIn (D : Nat → Prop) (w : World) (v : Value) (l : List (BitVec 8)) : Prop := ∃ q c, v = .slice q l.length c ∧ l.length ≤ c ∧ c ≤ maxLen ∧ LiesIn D w q l
theorem SliceIn.keep {D F : Nat → Prop} {w w' : World} {v : Value} {l : List (BitVec 8)} (h : SliceIn D w v l) (hk : Stays F w w') (hD : ∀ k, F k → ¬ D k) : SliceIn D w' v l := by
  obtain ⟨q, c, rfl, h1, h2, h3⟩ := h
  exact ⟨q, c, rfl, h1, h2, h3.keep hk hD⟩
theorem SliceIn.more {D E : Nat → Prop} {w : World} {v : Value} {l : List (BitVec 8)} (h : SliceIn D w v l) (hE : ∀ k, D k → k < w.heap.size → E k) : SliceIn E w v l := by
  obtain ⟨q, c, rfl, h1, h2, h3⟩ := h
  exact ⟨q, c, rfl, h1, h2, h3.more hE⟩
end Go.Proofs.YtgeacocdnenhdaaDoor

/-
  A struct built out of its parts, one behind the other; a slice of one struct.
-/
namespace Go.Proofs.YtgeacocdnenhdaaDoor
open Go.RowKit Go.Proofs.ShaWords

theorem fold_list (off : Nat) : ∀ (vs : List Value) (k : Nat) (pre m rest : List Value), pre.length = off + k → m.length = vs.length →
    (vs.zipIdx k).foldl (fun (cs : Array Value) x => cs.setIfInBounds (off + x.2) x.1) (pre ++ m ++ rest).toArray = (pre ++ vs ++ rest).toArray
  | [], k, pre, m, rest, _, hm => by
    obtain rfl : m = [] := List.length_eq_zero_iff.1 hm
    simp
  | v :: vs, k, pre, [], rest, _, hm => by simp at hm
  | v :: vs, k, pre, a :: m, rest, hp, hm => by
    rw [List.zipIdx_cons, List.foldl_cons]
    have e : (pre ++ a :: m ++ rest).toArray.setIfInBounds (off + k) v = ((pre ++ [v]) ++ m ++ rest).toArray := by
      rw [List.setIfInBounds_toArray, ← hp, List.append_assoc, List.set_append_right _ _ (Nat.le_refl _), Nat.sub_self]
      simp
    rw [e, fold_list off vs (k + 1) (pre ++ [v]) m rest (by simp; omega) (by simpa using hm)]
    simp
/-- The parts stand one behind the other. -/
def Fits (place : Nat → Option (Nat × Nat)) : Nat → Nat → List Value → Prop
  | _, _, [] => True
  | i, off, v :: vs => place i = some (off, v.cells.size) ∧ Fits place (i + 1) (off + v.cells.size) vs
theorem fill_seq (place : Nat → Option (Nat × Nat)) : ∀ (vs : List Value) (i : Nat) (pre m rest : List Value), Fits place i pre.length vs → m.length = (vs.flatMap (·.cells.toList)).length →
    Instr.fill place (pre ++ m ++ rest).toArray ((vs.zipIdx i).map fun x => (x.2, x.1)) = some (pre ++ vs.flatMap (·.cells.toList) ++ rest).toArray
  | [], i, pre, m, rest, _, hm => by
    obtain rfl : m = [] := List.length_eq_zero_iff.1 hm
    simp [Instr.fill]
  | v :: vs, i, pre, m, rest, hf, hm => by
    rw [List.flatMap_cons, List.length_append] at hm
    obtain ⟨m1, m2, rfl, h1⟩ : ∃ m1 m2, m = m1 ++ m2 ∧ m1.length = v.cells.toList.length := ⟨m.take v.cells.toList.length, m.drop v.cells.toList.length, (List.take_append_drop _ _).symm, by rw [List.length_take]; omega⟩
    rw [List.length_append, h1] at hm
    rw [List.zipIdx_cons, List.map_cons, Instr.fill]
    simp only [hf.1]
    have hs : ¬ (v.cells.size ≠ v.cells.size || decide (pre.length + v.cells.size > (pre ++ (m1 ++ m2) ++ rest).toArray.size)) = true := by
      simp only [List.size_toArray, List.length_append, h1, Array.length_toList]
      simp
      omega
    rw [if_neg (by simpa using hs)]
    have e : v.cells.zipIdx.foldl (fun cs x => cs.setIfInBounds (pre.length + x.2) x.1) (pre ++ (m1 ++ m2) ++ rest).toArray = ((pre ++ v.cells.toList) ++ m2 ++ rest).toArray := by
      rw [← Array.foldl_toList, Array.toList_zipIdx]
      have h := fold_list pre.length v.cells.toList 0 pre m1 (m2 ++ rest) rfl h1
      have e1 : pre ++ (m1 ++ m2) ++ rest = pre ++ m1 ++ (m2 ++ rest) := by simp
      rw [e1, h]
      simp
    have ih := fill_seq place vs (i + 1) (pre ++ v.cells.toList) m2 rest (by rw [List.length_append, Array.length_toList]; exact hf.2) (by omega)
    rw [e, ih]
    simp
theorem built_seq {P : Program} (t : TypeId) (vs : List Value) (fields : Array Field) (places : List (Nat × Nat)) (n : Nat) (hu : P.underlying t = some (.struct fields)) (hp : fields.toList.mapM (fun f => (P.info? f.type).map fun i => (f.offset, i.size)) = some places)
    (hz : ((P.info? t).bind (·.zero)).map (·.cells.size) = some n) (hfit : Fits (places.toArray[·]?) 0 0 vs) (htot : (vs.flatMap (·.cells.toList)).length = n) :
    P.built t ((vs.zipIdx 0).map fun x => (x.2, x.1)) = some (vs.flatMap (·.cells.toList)).toArray := by
  unfold Program.built
  cases hit : P.info? t with
  | none => simp [hit] at hz
  | some it =>
    cases hzz : it.zero with
    | none => simp [hit, hzz] at hz
    | some z =>
      simp only [hit, hzz, Option.bind_some, Option.map_some, Option.some.injEq] at hz
      simp only [hu, hzz, hp]
      have h := fill_seq (places.toArray[·]?) vs 0 [] z.cells.toList [] hfit (by rw [Array.length_toList]; omega)
      simpa using h
end Go.Proofs.YtgeacocdnenhdaaDoor

/-
  What the rows share: the program's own knobs; bytes out of a slice that came in; arrays of bytes and numbers that came in.
-/
namespace Go.Proofs.YtgeacocdnenhdaaDoor
open Go.ChangeShapes Go.WideShapes Go.ChangeAt Go.RowKit Go.Proofs.ShaWords Go.Deep

theorem own : ownKnob Tryd.prog.godebug = none := by kernel_rfl
theorem laidOut : laidOutB Tryd.prog = true := by kernel_rfl
theorem n8_ofInt (z : Int) (h : (Lit.int .u8 z).wf = true) : n8 (BitVec.ofInt 8 z) = z := by
  have hb := bounds_u8 h
  unfold n8
  obtain ⟨k, rfl⟩ := Int.eq_ofNat_of_zero_le hb.1
  rw [ofInt_u8 k (by omega)]
end Go.Proofs.YtgeacocdnenhdaaDoor

/-
  bytes.Clone and bytes.Equal, of bytes that lie anywhere.
-/
namespace Go.Proofs.YtgeacocdnenhdaaDoor
open Go.RowKit Go.Proofs.ShaWords
theorem append_nilB (B : Nat) (ty : TypeId) (v : Value) (l : List (BitVec 8)) (w : World) (hown : Own B w l v) (c : Nat) :
    (Builtin.append_ #[24, 24] ty #[v, .slice none 0 c]).run Tryd.prog w = .ok v w := by
  obtain ⟨i, hi, -, -, -⟩ := info5'
  rcases hown.2 with ⟨rfl, -⟩ | ⟨g, cap, cur, rfl, _, _, hnc, _⟩
  · simp [Builtin.append_, run_underlying Tryd.underlying24, sizeOf, typeInfo, hi, Builtin.lenOf, Builtin.firstCells]
  · simp [Builtin.append_, run_underlying Tryd.underlying24, sizeOf, typeInfo, hi, Builtin.lenOf, Builtin.firstCells, hnc, storeCells]
/-- Bytes that lie anywhere, however many, appended to a slice of the call's own. -/
theorem wpList_append_listB {ops : Array Oper} {rest : List Oper} {o : Oper} {a : Act} {w : World} {Q : Exit → Act → World → Prop} (hgd : o.guard = none) (s x : Operand)
    (ho : o.op = .call { callee := .builtin .append, args := #[s, x], argTypes := #[24, 24] }) (B : Nat) (v : Value) (l m : List (BitVec 8)) (p : Option Addr) (c : Nat) (hs : a.eval s = v) (hown : Own B w l v) (hx : a.eval x = .slice p m.length c)
    (hm : Lies w p m) (hl : l.length + m.length < 140737488355328) (hB : B ≤ w.heap.size)
    (h : ∀ v' w', Own B w' (l ++ m) v' → Below B w w' → wpList Tryd.prog ops Q rest (a.put o.dst v') w') : wpList Tryd.prog ops Q (o :: rest) a w := by
  obtain ⟨i, hi, hz, hsz, hby⟩ := info5'
  cases p with
  | none =>
    have hm0 : m = [] := by
      rcases hm with h0 | ⟨b, off, h0, _⟩
      · exact h0
      · cases h0
    subst hm0
    refine wpList_plain hgd fun K hK => ?_
    have hrun := append_nilB B o.type v l w hown c
    unfold Oper.wp
    simp [execOp, ho, resolve, invoke, builtin, hs, hx, hrun, Result.andThen]
    exact hK _ _ (h v w (by rw [List.append_nil]; exact hown) (Below.refl _ _))
  | some ad =>
    refine wpList_append_own w hgd s x 24 ho B 5 i (.int .u8 0) 1 1 Tryd.underlying24 hi hz hsz hby rfl (by decide) v l.length (bytesV l) hs hown ad m.length c (bytesV m) hx (by rw [bytesV_length, Nat.mul_one]) ?_ ?_ (by unfold maxLen; omega) (by omega) hB ?_
    · intro j u hu
      rcases hm with h0 | ⟨b, off, h0, hr⟩
      · subst h0; cases hu
      · cases h0
        rw [Addr.add_mid]
        exact hr j u hu
    · intro u hu
      simp only [bytesV, List.mem_map] at hu
      obtain ⟨y, _, rfl⟩ := hu
      rfl
    · intro v' w' ho' hg _
      refine h v' w' ?_ ?_
      · unfold Own
        rw [List.length_append, bytesV_append]; exact ho'
      · exact (Below.refl B w).grown hg hB (fun k hk => (hown.lt k hk).1)
/-- A list of bytes as a string. -/
def strB (l : List (BitVec 8)) : ByteArray := strOfNums (l.map n8)
theorem strB_list (l : List (BitVec 8)) : (strB l).toList = l.map UInt8.ofBitVec := by
  unfold strB
  rw [Lib.strOfNums_toList]
  unfold Lib.bytesOf
  rw [List.map_map]
  refine List.map_congr_left fun x _ => ?_
  show UInt8.ofNat (n8 x).toNat = _
  unfold n8
  simp
end Go.Proofs.YtgeacocdnenhdaaDoor

/-
  The contract of mac.Same: for any two codes it tells whether they are equal; nothing that was there changes.
-/
namespace Go.Proofs.YtgeacocdnenhdaaDoor
open Go.RowKit Go.Proofs.ShaWords

theorem or8 (x y : BitVec 8) : bits .or .u8 (n8 x) (n8 y) = n8 (x ||| y) := by
  unfold n8; rw [u8_or_nat _ _ (by have := x.isLt; omega) (by have := y.isLt; omega), BitVec.toNat_or]
theorem xor8 (x y : BitVec 8) : bits .xor .u8 (n8 x) (n8 y) = n8 (x ^^^ y) := by
  unfold n8; rw [u8_xor_nat _ _ (by have := x.isLt; omega) (by have := y.isLt; omega), BitVec.toNat_xor]

/-- The bits in which the first k bytes differ. -/
def dif (a b : List (BitVec 8)) (k : Nat) : BitVec 8 := (List.range k).foldl (fun x i => x ||| (a.getD i 0#8 ^^^ b.getD i 0#8)) 0#8
theorem dif_succ (a b : List (BitVec 8)) (k : Nat) : dif a b (k + 1) = dif a b k ||| (a.getD k 0#8 ^^^ b.getD k 0#8) := by simp [dif, List.range_succ]
theorem or_zero8 (x y : BitVec 8) : x ||| y = 0#8 ↔ x = 0#8 ∧ y = 0#8 := by
  constructor
  · intro h
    have h1 : ∀ i, (x.getLsbD i || y.getLsbD i) = false := fun i => by rw [← BitVec.getLsbD_or, h]; simp
    refine ⟨?_, ?_⟩ <;> (apply BitVec.eq_of_getLsbD_eq; intro i hi; have := h1 i; simp at this ⊢; first | exact this.1 | exact this.2)
  · rintro ⟨rfl, rfl⟩; rfl
theorem xor_zero8 (x y : BitVec 8) : x ^^^ y = 0#8 ↔ x = y := by
  constructor
  · intro h
    have := congrArg (· ^^^ y) h
    simpa [BitVec.xor_assoc] using this
  · rintro rfl; simp
theorem dif_zero (a b : List (BitVec 8)) : ∀ k, dif a b k = 0#8 ↔ ∀ i, i < k → a.getD i 0#8 = b.getD i 0#8
  | 0 => by simp [dif]
  | k + 1 => by
    rw [dif_succ, or_zero8, dif_zero a b k, xor_zero8]
    constructor
    · rintro ⟨h1, h2⟩ i hi
      by_cases e : i = k
      · rw [e]; exact h2
      · exact h1 i (by omega)
    · intro h; exact ⟨fun i hi => h i (by omega), h k (by omega)⟩
/-- Are they the same? -/
def sameB (a b : List (BitVec 8)) : Bool := decide (a = b)
theorem dif_same (a b : List (BitVec 8)) (n : Nat) (ha : a.length = n) (hb : b.length = n) : (n8 (dif a b n) == 0) = sameB a b := by
  have e : (n8 (dif a b n) == 0) = decide (dif a b n = 0#8) := by
    rw [Bool.eq_iff_iff, beq_iff_eq, decide_eq_true_eq]
    constructor
    · intro h; exact n8_inj (h.trans rfl)
    · intro h; rw [h]; rfl
  rw [e, sameB, Bool.eq_iff_iff, decide_eq_true_eq, decide_eq_true_eq, dif_zero]
  constructor
  · intro h
    apply List.ext_getElem (by omega)
    intro i h1 h2
    have := h i (by omega)
    simpa [List.getD, h1, h2] using this
  · rintro rfl i _; rfl

attribute [local irreducible] dif
set_option maxRecDepth 100000 in
set_option maxHeartbeats 1000000 in
theorem macSame_any (a b : List (BitVec 8)) (w : World) (ha : a.length = 32) (hb : b.length = 32) :
    Calls Tryd.prog 108 #[.agg (bytesV a).toArray, .agg (bytesV b).toArray] w fun e w' => e = .returned (.bool (sameB a b)) ∧ Below w.heap.size w w' := by
  have HA := Lib.hid ha; clear ha
  have HB := Lib.hid hb; clear hb
  have HD0 : Hid (n8 (dif a b 0) = 0) := show _ = _ by unfold dif; rfl
  go_enter Tryd.func108, Tryd.ntmps108
  go_wp2_with fail
  refine wp_gen (fun w1 => w1.rangeAt w.heap.size 0 (bytesV a) ∧ w1.rangeAt (w.heap.size + 1) 0 (bytesV b) ∧ Below w.heap.size w w1) ⟨?_, ?_, ?_⟩ ?_
  · exact range_keep (range_bytesV (heap_alloc_new w (.cells (bytesV a).toArray 48))) ((Below.refl _ _).alloc (Nat.le_refl _) _)
  · have h := range_bytesV (heap_alloc_new (w.alloc (.cells (bytesV a).toArray 48)) (.cells (bytesV b).toArray 48))
    rw [size_alloc] at h; exact h
  · exact ((Below.refl _ _).alloc (Nat.le_refl _) _).alloc (by rw [size_alloc]; omega) _
  rintro w1 ⟨ra, rb, bel⟩
  have HRA := Lib.hid ra; have HRB := Lib.hid rb; have HBE := Lib.hid bel
  clear ra rb bel
  go_loopw [5, 6, 7] (fun d _ i wr => ∃ k : Nat, k ≤ 32 ∧ i = .int .i64 (k : Int) ∧ d = .int .u8 (n8 (dif a b k)) ∧ Below w1.heap.size w1 wr) (fun _ _ i _ => 32 - (intOf i).toNat)
  case atStart => exact ⟨0, by omega, rfl, by rw [HD0.out], Below.refl _ _⟩
  case round =>
    obtain ⟨k, hk, rfl, rfl, hb⟩ := hrel
    by_cases hlt : k < 32
    · have ca := range_keep HRA.out hb k (.int .u8 (n8 (a.getD k 0#8))) (by simp [bytesV, List.getD, HA.out, hlt])
      have cb := range_keep HRB.out hb k (.int .u8 (n8 (b.getD k 0#8))) (by simp [bytesV, List.getD, HB.out, hlt])
      rw [Nat.zero_add] at ca cb
      have HDS := Lib.hid (dif_succ a b k)
      generalize a.getD k 0#8 = x at ca HDS
      generalize b.getD k 0#8 = y at cb HDS
      have HBB := Lib.hid hb; clear hb
      have q0 : (k : Int) < 32 := by omega
      have hx1 := xor8 x y
      have hx2 := or8 (dif a b k) (x ^^^ y)
      go_wp2_with fail
      go_quiet (fail)
      go_wp2_with fail
      exact ⟨⟨k + 1, by omega, by go_num, by rw [HDS.out], HBB.out.trans ⟨rfl, rfl, rfl, Nat.le_refl _, fun _ _ => rfl⟩⟩, by simp [intOf]; omega⟩
    · have HK : Hid (k = 32) := show k = 32 by omega
      have HBB := Lib.hid (HBE.out.trans (hb.mono HBE.out.size)); clear hb
      go_wp2_with fail
      go_ret
      refine ⟨?_, HBB.out⟩
      rw [HK.out]
      show Ending.returned (.bool (n8 (dif a b 32) == 0)) = _
      rw [dif_same a b 32 HA.out HB.out]
end Go.Proofs.YtgeacocdnenhdaaDoor

/-
  The contracts of math/bits.RotateLeft32 and sha.turned: for every word, and turns from 1 to 31.
-/
namespace Go.Proofs.YtgeacocdnenhdaaDoor
open Go.RowKit Go.Proofs.ShaWords

theorem turn_by (n : Int) (h1 : 1 ≤ n) (h2 : n ≤ 31) : bits .and .u64 (IntKind.u64.wrap (-n)) 31 = 32 - n := by
  obtain ⟨k, rfl⟩ := Int.eq_ofNat_of_zero_le (show 0 ≤ n by omega)
  have hk : k < 32 := by omega
  have hk1 : 1 ≤ k := by omega
  have H : ∀ k : Fin 32, 1 ≤ k.val → bits .and .u64 (IntKind.u64.wrap (-(k.val : Int))) 31 = 32 - (k.val : Int) := by decide
  exact H ⟨k, hk⟩ hk1

attribute [local go_sem] and32 or32 xor32 add32 shl32 shr32

set_option maxHeartbeats 400000 in
theorem rot_any (x : BitVec 32) (n : Int) (w : World) (h1 : 1 ≤ n) (h2 : n ≤ 31) :
    Calls Tryd.prog 207 #[.int .u32 (n32 x), .int .i64 (-n)] w fun e w' => e = .returned (.int .u32 (n32 (rr x n.toNat))) ∧ w = w' := by
  have hb := turn_by n h1 h2
  go_enter Tryd.func207, Tryd.ntmps207
  go_wp2
  go_ret
  refine ⟨?_, rfl⟩
  show Ending.returned (.int .u32 (n32 (x <<< (32 - n).toNat ||| x >>> (32 - (32 - n)).toNat))) = _
  unfold rr
  rw [show (32 - n).toNat = 32 - n.toNat by omega, show (32 - (32 - n)).toNat = n.toNat by omega]

/-- The exclusive or of a word's turns. -/
def turns (x : BitVec 32) (ns : List Int) : BitVec 32 := ns.foldl (fun s n => s ^^^ rr x n.toNat) 0#32
theorem turns_snoc (x : BitVec 32) (ns : List Int) (k : Nat) (h : k < ns.length) : turns x (ns.take (k + 1)) = turns x (ns.take k) ^^^ rr x (ns[k]).toNat := by
  unfold turns; rw [List.take_succ_eq_append_getElem h, List.foldl_append]; rfl

set_option maxHeartbeats 400000 in
theorem turned_any (x : BitVec 32) (ns : List Int) (b cap : Nat) (w : World) (hl : ns.length ≤ 8) (hr : ∀ n ∈ ns, 1 ≤ n ∧ n ≤ 31)
    (hc : ∀ (i : Nat) (h : i < ns.length), w.cell? ⟨b, i, none⟩ = some (.int .i64 ns[i])) :
    Calls Tryd.prog 206 #[.int .u32 (n32 x), .slice (some ⟨b, 0, none⟩) ns.length cap] w fun e w' => e = .returned (.int .u32 (n32 (turns x ns))) ∧ w = w' := by
  have HC := Lib.hid hc; clear hc
  have HR := Lib.hid hr; clear hr
  go_enter Tryd.func206, Tryd.ntmps206
  go_wp2
  go_loop [5, 10] (fun s i => ∃ k : Nat, k ≤ ns.length ∧ i = .int .i64 k ∧ s = .int .u32 (n32 (turns x (ns.take k)))) (fun _ i => ns.length - (intOf i).toNat)
  case atStart => exact ⟨0, Nat.zero_le _, rfl, rfl⟩
  case round =>
    obtain ⟨k, hk, rfl, rfl⟩ := hrel
    by_cases hlt : k < ns.length
    · have hcell := HC.out k hlt
      have h1 := (HR.out ns[k] (List.getElem_mem hlt)).1
      have h2 := (HR.out ns[k] (List.getElem_mem hlt)).2
      have HS := Lib.hid (turns_snoc x ns k hlt)
      generalize ns[k] = m at *
      go_wp2_with (go_at_call 207; refine (rot_any _ _ _ h1 h2).mono ?_; rintro e w' ⟨rfl, rfl⟩)
      go_round
      case rel => exact ⟨k + 1, by omega, by go_num, by rw [HS.out]⟩
      case measure => simp [intOf]; omega
    · go_wp2_with fail
      go_ret
      refine ⟨?_, rfl⟩
      rw [show k = ns.length by omega, List.take_length]
      rfl

theorem turned_two (x : BitVec 32) (n1 n2 : Int) (b cap : Nat) (w : World) (h1 : 1 ≤ n1 ∧ n1 ≤ 31) (h2 : 1 ≤ n2 ∧ n2 ≤ 31)
    (c1 : w.cell? ⟨b, 0, none⟩ = some (.int .i64 n1)) (c2 : w.cell? ⟨b, 1, none⟩ = some (.int .i64 n2)) :
    Calls Tryd.prog 206 #[.int .u32 (n32 x), .slice (some ⟨b, 0, none⟩) 2 cap] w fun e w' => e = .returned (.int .u32 (n32 (rr x n1.toNat ^^^ rr x n2.toNat))) ∧ w = w' := by
  have h := turned_any x [n1, n2] b cap w (by simp) (by simp; exact ⟨h1, h2⟩) (fun i hi => by
    rcases i with _ | _ | i
    · exact c1
    · exact c2
    · exfalso; simp at hi; omega)
  have e : turns x [n1, n2] = rr x n1.toNat ^^^ rr x n2.toNat := by simp [turns]
  rw [e] at h
  exact h
theorem turned_three (x : BitVec 32) (n1 n2 n3 : Int) (b cap : Nat) (w : World) (h1 : 1 ≤ n1 ∧ n1 ≤ 31) (h2 : 1 ≤ n2 ∧ n2 ≤ 31) (h3 : 1 ≤ n3 ∧ n3 ≤ 31)
    (c1 : w.cell? ⟨b, 0, none⟩ = some (.int .i64 n1)) (c2 : w.cell? ⟨b, 1, none⟩ = some (.int .i64 n2)) (c3 : w.cell? ⟨b, 2, none⟩ = some (.int .i64 n3)) :
    Calls Tryd.prog 206 #[.int .u32 (n32 x), .slice (some ⟨b, 0, none⟩) 3 cap] w fun e w' => e = .returned (.int .u32 (n32 (rr x n1.toNat ^^^ rr x n2.toNat ^^^ rr x n3.toNat))) ∧ w = w' := by
  have h := turned_any x [n1, n2, n3] b cap w (by simp) (by simp; exact ⟨h1, h2, h3⟩) (fun i hi => by
    rcases i with _ | _ | _ | i
    · exact c1
    · exact c2
    · exact c3
    · exfalso; simp at hi; omega)
  have e : turns x [n1, n2, n3] = rr x n1.toNat ^^^ rr x n2.toNat ^^^ rr x n3.toNat := by simp [turns]
  rw [e] at h
  exact h
end Go.Proofs.YtgeacocdnenhdaaDoor

/-
  The contract of sha.schedule: for every block of 64 bytes it returns the block's 64 words; nothing that was there changes.
-/
namespace Go.Proofs.YtgeacocdnenhdaaDoor
open Go.RowKit Go.Proofs.ShaWords
attribute [local go_sem] and32 or32 xor32 add32 shl32 shr32 wrap32_n8 wrap8_n32 shl32_8 shl32_16 shl32_24 shr32_3 shr32_8 shr32_10 shr32_16 shr32_24

/-- A word out of four bytes. -/
def wordOf (blk : List (BitVec 8)) (t : Nat) : BitVec 32 :=
  (ext (blk.getD (4 * t) 0#8) <<< 24) ||| (ext (blk.getD (4 * t + 1) 0#8) <<< 16) ||| (ext (blk.getD (4 * t + 2) 0#8) <<< 8) ||| ext (blk.getD (4 * t + 3) 0#8)
theorem wordOf_eq (blk : List (BitVec 8)) (t : Nat) (h : 4 * t + 3 < blk.length) : wordOf blk t = (ext blk[4 * t] <<< 24 ||| ext blk[4 * t + 1] <<< 16 ||| ext blk[4 * t + 2] <<< 8 ||| ext blk[4 * t + 3]) := by
  unfold wordOf
  have g : ∀ (j : Nat) (hj : j < blk.length), blk.getD j 0#8 = blk[j] := fun j hj => by simp [List.getD, hj]
  rw [g _ (by omega), g _ (by omega), g _ (by omega), g _ (by omega)]
/-- The word that follows. -/
def nextW (l : List (BitVec 32)) : BitVec 32 :=
  let t := l.length
  l.getD (t - 16) 0#32 + (rr (l.getD (t - 15) 0#32) 7 ^^^ rr (l.getD (t - 15) 0#32) 18 ^^^ l.getD (t - 15) 0#32 >>> 3) + l.getD (t - 7) 0#32 + (rr (l.getD (t - 2) 0#32) 17 ^^^ rr (l.getD (t - 2) 0#32) 19 ^^^ l.getD (t - 2) 0#32 >>> 10)
/-- n words more. -/
def spreadBy : Nat → List (BitVec 32) → List (BitVec 32)
  | 0, l => l
  | n + 1, l => spreadBy n (l ++ [nextW l])
def first16 (blk : List (BitVec 8)) : List (BitVec 32) := (List.range 16).map (wordOf blk)
def scheduleOf (blk : List (BitVec 8)) : List (BitVec 32) := spreadBy 48 (first16 blk)
theorem spreadBy_length (n : Nat) (l : List (BitVec 32)) : (spreadBy n l).length = l.length + n := by
  induction n generalizing l with
  | zero => rfl
  | succ n ih => rw [spreadBy, ih]; simp; omega
theorem spreadBy_snoc (n : Nat) (l : List (BitVec 32)) : spreadBy (n + 1) l = spreadBy n l ++ [nextW (spreadBy n l)] := by
  induction n generalizing l with
  | zero => rfl
  | succ n ih => rw [spreadBy, ih, ← spreadBy]
theorem first16_length (blk : List (BitVec 8)) : (first16 blk).length = 16 := by simp [first16]

/-- So many words, and noughts up to 64. -/
def fill64 (l : List (BitVec 32)) : List (BitVec 32) := l ++ List.replicate (64 - l.length) 0#32
theorem fill64_length (l : List (BitVec 32)) (h : l.length ≤ 64) : (fill64 l).length = 64 := by simp [fill64]; omega
theorem fill64_set (l : List (BitVec 32)) (x : BitVec 32) (h : l.length < 64) : (fill64 l).set l.length x = fill64 (l ++ [x]) := by
  unfold fill64
  obtain ⟨m, hm⟩ : ∃ m, 64 - l.length = m + 1 := ⟨63 - l.length, by omega⟩
  have hm' : 64 - (l ++ [x]).length = m := by simp; omega
  rw [hm, hm', List.set_append_right _ _ (Nat.le_refl _)]
  simp [List.replicate_succ]
theorem fill64_getElem (l : List (BitVec 32)) (j : Nat) (h : j < l.length) (h' : j < (fill64 l).length) : (fill64 l)[j] = l.getD j 0#32 := by
  simp [fill64, List.getElem_append_left h, h]
theorem fill64_full (l : List (BitVec 32)) (h : l.length = 64) : fill64 l = l := by simp [fill64, h]

def Sched (w : World) (blk : List (BitVec 8)) (cur : List (BitVec 32)) (wr : World) : Prop :=
  wr.heap[w.heap.size]? = some (.cells (bytesV blk).toArray 153 (0, 0)) ∧ wr.heap[w.heap.size + 1]? = some (.cells (wordsV (List.replicate 64 0#32)).toArray 212 (0, 0)) ∧
  wr.heap[w.heap.size + 1 + 1]? = some (.cells (wordsV (fill64 cur)).toArray 212 (0, 0)) ∧ Below w.heap.size w wr

theorem Sched.size {w wr : World} {blk : List (BitVec 8)} {cur : List (BitVec 32)} (h : Sched w blk cur wr) : w.heap.size + 1 + 1 < wr.heap.size := by
  obtain ⟨_, _, h, _⟩ := h
  exact (Array.getElem?_eq_some_iff.1 h).1
theorem Sched.set {w wr : World} {blk : List (BitVec 8)} {cur : List (BitVec 32)} (h : Sched w blk cur wr) (hk : cur.length < 64) (x : BitVec 32) (k : Nat) (hkk : k = cur.length) :
    Sched w blk (cur ++ [x]) (wr.setCell ⟨w.heap.size + 1 + 1, k, none⟩ (.int .u32 (n32 x))) := by
  subst hkk
  obtain ⟨h1, h2, h3, h4⟩ := h
  refine ⟨?_, ?_, ?_, h4.setCell (by show w.heap.size ≤ w.heap.size + 1 + 1; omega) _⟩
  · rw [heap_setCell_other _ _ _ _ (by show w.heap.size ≠ w.heap.size + 1 + 1; omega)]; exact h1
  · rw [heap_setCell_other _ _ _ _ (by show w.heap.size + 1 ≠ w.heap.size + 1 + 1; omega)]; exact h2
  · rw [heap_setCell_same _ _ _ _ _ _ h3, wordsV_set, fill64_set _ _ hk]
theorem Sched.drew {w wr : World} {blk : List (BitVec 8)} {cur : List (BitVec 32)} (h : Sched w blk cur wr) : Sched w blk cur wr.drew :=
  ⟨h.1, h.2.1, h.2.2.1, h.2.2.2.drew⟩
theorem Sched.alloc {w wr : World} {blk : List (BitVec 8)} {cur : List (BitVec 32)} (h : Sched w blk cur wr) (o : Obj) : Sched w blk cur (wr.alloc o) := by
  have hs := h.size
  refine ⟨?_, ?_, ?_, h.2.2.2.alloc (by omega) o⟩
  · rw [Below.heap_alloc _ _ _ (by omega)]; exact h.1
  · rw [Below.heap_alloc _ _ _ (by omega)]; exact h.2.1
  · rw [Below.heap_alloc _ _ _ (by omega)]; exact h.2.2.1
theorem Sched.cell {w wr : World} {blk : List (BitVec 8)} {cur : List (BitVec 32)} (h : Sched w blk cur wr) (j : Nat) (hj : j < cur.length) (hl : cur.length ≤ 64) :
    wr.cell? ⟨w.heap.size + 1 + 1, j, none⟩ = some (.int .u32 (n32 (cur.getD j 0#32))) := by
  rw [cell_wordsV h.2.2.1 (by rw [fill64_length _ hl]; omega), fill64_getElem _ _ hj]
theorem Sched.frozen {w wr : World} {blk : List (BitVec 8)} {cur : List (BitVec 32)} (h : Sched w blk cur wr) (j : Nat) : wr.frozen? ⟨w.heap.size + 1 + 1, j, none⟩ = false :=
  frozen_of_row _ _ _ _ _ h.2.2.1
theorem Sched.some {w wr : World} {blk : List (BitVec 8)} {cur : List (BitVec 32)} (h : Sched w blk cur wr) (j : Nat) (hj : j < 64) (hl : cur.length ≤ 64) :
    ∃ v, wr.cell? ⟨w.heap.size + 1 + 1, j, none⟩ = some v := ⟨_, cell_wordsV h.2.2.1 (j := j) (by rw [fill64_length _ hl]; omega)⟩

theorem words_noughts : (wordsV (List.replicate 64 0#32)).toArray = (List.replicate 64 (Value.int .u32 0)).toArray := by
  rw [wordsV, List.map_replicate]; rfl
theorem sched_start (w : World) (blk : List (BitVec 8)) : Sched w blk [] (((w.alloc (Obj.cells (bytesV blk).toArray 153)).alloc (Obj.cells (List.replicate 64 (Value.int .u32 0)).toArray 212)).alloc (Obj.cells (List.replicate 64 (Value.int .u32 0)).toArray 212)) := by
  rw [← words_noughts]
  generalize hz : (wordsV (List.replicate 64 0#32)).toArray = z
  have e : fill64 [] = List.replicate 64 0#32 := by simp [fill64]
  refine ⟨?_, ?_, ?_, (((Below.refl _ _).alloc (Nat.le_refl _) _).alloc (by rw [size_alloc]; omega) _).alloc (by rw [size_alloc, size_alloc]; omega) _⟩
  · rw [Below.heap_alloc _ _ _ (by rw [size_alloc, size_alloc]; omega), Below.heap_alloc _ _ _ (by rw [size_alloc]; omega)]; exact heap_new_at rfl
  · rw [Below.heap_alloc _ _ _ (by rw [size_alloc, size_alloc]; omega), hz]; exact heap_new_at (by rw [size_alloc])
  · rw [e, hz]; exact heap_new_at (by rw [size_alloc, size_alloc])

set_option maxRecDepth 100000 in
set_option maxHeartbeats 1000000 in
theorem schedule_any (blk : List (BitVec 8)) (w : World) (hl : blk.length = 64) :
    Calls Tryd.prog 205 #[.agg (bytesV blk).toArray] w fun e w' => e = .returned (.agg (wordsV (scheduleOf blk)).toArray) ∧ Below w.heap.size w w' := by
  have HL := Lib.hid hl; clear hl
  go_enter Tryd.func205, Tryd.ntmps205
  go_wp2
  go_loopw [4, 8] (fun _ i wr => ∃ k : Nat, k ≤ 16 ∧ i = .int .i64 k ∧ Sched w blk ((List.range k).map (wordOf blk)) wr) (fun _ i _ => 16 - (intOf i).toNat)
  case atStart =>
    refine ⟨0, by omega, rfl, ?_⟩
    exact sched_start w blk
  case round =>
    obtain ⟨k, hk, rfl, hs⟩ := hrel
    by_cases hlt : k < 16
    · have c0 := cell_bytesV hs.1 (j := 4 * k) (by rw [HL.out]; omega)
      have c1 := cell_bytesV hs.1 (j := 4 * k + 1) (by rw [HL.out]; omega)
      have c2 := cell_bytesV hs.1 (j := 4 * k + 2) (by rw [HL.out]; omega)
      have c3 := cell_bytesV hs.1 (j := 4 * k + 3) (by rw [HL.out]; omega)
      obtain ⟨v, cv⟩ := hs.some k (by omega) (by simp; omega)
      have cf := hs.frozen k
      have HE := Lib.hid (wordOf_eq blk k (by rw [HL.out]; omega))
      generalize blk[4 * k]'_ = b0 at c0 HE
      generalize blk[4 * k + 1]'_ = b1 at c1 HE
      generalize blk[4 * k + 2]'_ = b2 at c2 HE
      generalize blk[4 * k + 3]'_ = b3 at c3 HE
      have HS := Lib.hid hs; clear hs
      go_wp2_with fail
      have m0 : IntKind.i64.wrap (4 * (k : Int)) = 4 * (k : Int) := IntWalk.i64_in _ (by omega)
      have m1 : IntKind.i64.wrap (4 * (k : Int) + 1) = 4 * (k : Int) + 1 := IntWalk.i64_in _ (by omega)
      have m2 : IntKind.i64.wrap (4 * (k : Int) + 2) = 4 * (k : Int) + 2 := IntWalk.i64_in _ (by omega)
      have m3 : IntKind.i64.wrap (4 * (k : Int) + 3) = 4 * (k : Int) + 3 := IntWalk.i64_in _ (by omega)
      have n0 : (4 * (k : Int)).toNat = 4 * k := by omega
      have n1 : (4 * (k : Int) + 1).toNat = 4 * k + 1 := by omega
      have n2 : (4 * (k : Int) + 2).toNat = 4 * k + 2 := by omega
      have n3 : (4 * (k : Int) + 3).toNat = 4 * k + 3 := by omega
      have l0 : 4 * (k : Int) < 64 := by omega
      have l1 : 4 * (k : Int) + 1 < 64 := by omega
      have l2 : 4 * (k : Int) + 2 < 64 := by omega
      have l3 : 4 * (k : Int) + 3 < 64 := by omega
      have p0 : 0 ≤ 4 * (k : Int) := by omega
      have p1 : 0 ≤ 4 * (k : Int) + 1 := by omega
      have p2 : 0 ≤ 4 * (k : Int) + 2 := by omega
      have p3 : 0 ≤ 4 * (k : Int) + 3 := by omega
      have q0 : (k : Int) < 64 := by omega
      refine region_tail 31 (by kernel_rfl) (by kernel_rfl) ?_
      simp only [List.take_succ_cons, List.take_zero, List.drop_succ_cons, List.drop_zero]
      repeat still_step
      refine wpStill_nil ?_
      clear m0 m1 m2 m3 n0 n1 n2 n3 l0 l1 l2 l3 p0 p1 p2 p3
      go_wp2_with fail
      go_roundw
      case rel =>
        refine ⟨k + 1, by omega, by go_num, ?_⟩
        rw [List.range_succ, List.map_append, List.map_singleton, HE.out]
        exact (HS.out.set (by simp; omega) _ k (by simp)).drew
      case measure => simp [intOf]; omega
    · have HK : Hid (k = 16) := show k = 16 by omega
      have HS := Lib.hid hs; clear hs
      go_wp2_with fail
      go_loopw [5, 6, 7] (fun i _ _ wr => ∃ t : Nat, 16 ≤ t ∧ t ≤ 64 ∧ i = .int .i64 t ∧ Sched w blk (spreadBy (t - 16) (first16 blk)) wr) (fun i _ _ _ => 64 - (intOf i).toNat)
      case atStart => exact ⟨16, by omega, by omega, rfl, by have h := HS.out; rw [HK.out] at h; exact h⟩
      case round =>
        obtain ⟨t, ht, ht2, rfl, hs⟩ := hrel
        have hlen : (spreadBy (t - 16) (first16 blk)).length = t := by rw [spreadBy_length, first16_length]; omega
        by_cases hlt : t < 64
        · generalize hcur : spreadBy (t - 16) (first16 blk) = cur at hs hlen
          have HCUR := Lib.hid hcur; clear hcur
          have c15 := hs.cell (t - 15) (by omega) (by omega)
          have HN : Hid (nextW cur = cur.getD (t - 16) 0#32 + (rr (cur.getD (t - 15) 0#32) 7 ^^^ rr (cur.getD (t - 15) 0#32) 18 ^^^ cur.getD (t - 15) 0#32 >>> 3) + cur.getD (t - 7) 0#32 + (rr (cur.getD (t - 2) 0#32) 17 ^^^ rr (cur.getD (t - 2) 0#32) 19 ^^^ cur.getD (t - 2) 0#32 >>> 10)) := by
            subst hlen; rfl
          generalize hx16 : cur.getD (t - 16) 0#32 = x16 at HN
          generalize cur.getD (t - 15) 0#32 = x15 at c15 HN
          generalize hx7 : cur.getD (t - 7) 0#32 = x7 at HN
          generalize hx2 : cur.getD (t - 2) 0#32 = x2 at HN
          have HX16 := Lib.hid hx16; clear hx16
          have HX7 := Lib.hid hx7; clear hx7
          have HX2 := Lib.hid hx2; clear hx2
          have HLEN := Lib.hid hlen; clear hlen
          have HS2 := Lib.hid hs; clear hs
          go_wp2_with fail
          have m15 : IntKind.i64.wrap ((t : Int) - 15) = (t : Int) - 15 := IntWalk.i64_in _ (by omega)
          have n15 : ((t : Int) - 15).toNat = t - 15 := by omega
          have l15 : (t : Int) - 15 < 64 := by omega
          have p15 : (15 : Int) ≤ (t : Int) := by omega
          have p15' : 0 ≤ (t : Int) - 15 := by omega
          go_region_held3 (fun w' => w'.cell? ⟨w.heap.size + 1 + 1, t - 15, none⟩ = some (.int .u32 (n32 x15))) (go_keep)
            (first | (go_at_call 206; refine (turned_two x15 7 18 _ _ _ (by omega) (by omega) ?_ ?_).mono ?_; (simp [*]); (simp [*]); rintro e w' ⟨rfl, rfl⟩))
          clear m15 n15 l15 p15 p15'
          go_wp2_with fail
          have hs2 := (HS2.out.alloc (Obj.cells #[Value.int IntKind.i64 7, Value.int IntKind.i64 18] 3)).drew
          clear HS2 c15
          generalize (wr.alloc (Obj.cells #[Value.int IntKind.i64 7, Value.int IntKind.i64 18] 3)).drew = wr2 at hs2 ⊢
          have c2 := hs2.cell (t - 2) (by rw [HLEN.out]; omega) (by rw [HLEN.out]; omega)
          rw [HX2.out] at c2
          have HS2 := Lib.hid hs2; clear hs2
          have m2 : IntKind.i64.wrap ((t : Int) - 2) = (t : Int) - 2 := IntWalk.i64_in _ (by omega)
          have n2 : ((t : Int) - 2).toNat = t - 2 := by omega
          have l2 : (t : Int) - 2 < 64 := by omega
          have p2 : (2 : Int) ≤ (t : Int) := by omega
          have p2' : 0 ≤ (t : Int) - 2 := by omega
          go_region_held3 (fun w' => w'.cell? ⟨w.heap.size + 1 + 1, t - 2, none⟩ = some (.int .u32 (n32 x2))) (go_keep)
            (first | (go_at_call 206; refine (turned_two x2 17 19 _ _ _ (by omega) (by omega) ?_ ?_).mono ?_; (simp [*]); (simp [*]); rintro e w' ⟨rfl, rfl⟩))
          clear m2 n2 l2 p2 p2'
          go_wp2_with fail
          have hs2 := (HS2.out.alloc (Obj.cells #[Value.int IntKind.i64 17, Value.int IntKind.i64 19] 3)).drew
          clear HS2 c2
          generalize (wr2.alloc (Obj.cells #[Value.int IntKind.i64 17, Value.int IntKind.i64 19] 3)).drew = wr3 at hs2 ⊢
          have c16 := hs2.cell (t - 16) (by rw [HLEN.out]; omega) (by rw [HLEN.out]; omega)
          have c7 := hs2.cell (t - 7) (by rw [HLEN.out]; omega) (by rw [HLEN.out]; omega)
          rw [HX16.out] at c16
          rw [HX7.out] at c7
          obtain ⟨v, cv⟩ := hs2.some t hlt (by rw [HLEN.out]; omega)
          have cf := hs2.frozen t
          have HS2 := Lib.hid hs2; clear hs2
          have m16 : IntKind.i64.wrap ((t : Int) - 16) = (t : Int) - 16 := IntWalk.i64_in _ (by omega)
          have n16 : ((t : Int) - 16).toNat = t - 16 := by omega
          have l16 : (t : Int) - 16 < 64 := by omega
          have p16 : (16 : Int) ≤ (t : Int) := by omega
          have p16' : 0 ≤ (t : Int) - 16 := by omega
          have m7 : IntKind.i64.wrap ((t : Int) - 7) = (t : Int) - 7 := IntWalk.i64_in _ (by omega)
          have n7 : ((t : Int) - 7).toNat = t - 7 := by omega
          have l7 : (t : Int) - 7 < 64 := by omega
          have p7 : (7 : Int) ≤ (t : Int) := by omega
          have p7' : 0 ≤ (t : Int) - 7 := by omega
          have q0 : (t : Int) < 64 := by omega
          refine region_tail 15 (by kernel_rfl) (by kernel_rfl) ?_
          simp only [List.take_succ_cons, List.take_zero, List.drop_succ_cons, List.drop_zero]
          repeat still_step
          refine wpStill_nil ?_
          clear m16 n16 l16 p16 p16' m7 n7 l7 p7 p7'
          go_wp2_with fail
          go_roundw
          case rel =>
            refine ⟨t + 1, by omega, by omega, by go_num, ?_⟩
            rw [show t + 1 - 16 = t - 16 + 1 by omega, spreadBy_snoc, HCUR.out, HN.out]
            exact (HS2.out.set (by rw [HLEN.out]; omega) _ t HLEN.out.symm).drew
          case measure => simp [intOf]; omega
        · have ht64 : t = 64 := by omega
          subst ht64
          have HFULL : Hid (wr.heap[w.heap.size + 1 + 1]? = some (.cells (wordsV (scheduleOf blk)).toArray 212 (0, 0))) := by
            have h := hs.2.2.1
            rw [fill64_full _ hlen] at h
            exact h
          have HZ := Lib.hid hs.2.1
          have HW := Lib.hid hs.2.2.2
          have hsz : (wordsV (scheduleOf blk)).toArray.size = 64 := by
            simp only [wordsV, List.size_toArray, List.length_map]; exact hlen
          have HI := Lib.hid ((show (Tryd.prog.info? 212).map (·.size) = some 64 by kernel_rfl).trans (congrArg some hsz.symm))
          have HOLD : Hid ((wordsV (List.replicate 64 0#32)).toArray.size = (wordsV (scheduleOf blk)).toArray.size) := by
            show _ = _; rw [hsz]; simp [wordsV]
          have HONE := Lib.hid (wordsV_one (scheduleOf blk))
          clear hs hlen hsz
          generalize hfe : (wordsV (scheduleOf blk)).toArray = full at *
          have HFE := Lib.hid hfe; clear hfe
          go_wp2_with (first
            | (refine wpList_load_row rfl 212 (.tmp 3) rfl (w.heap.size + 1 + 1) rfl 212 full (0, 0) _ HFULL.out Tryd.underlying212 rfl HI.out ?_)
            | (refine wpList_store_row rfl 212 (.tmp 2) (.tmp 86) rfl (w.heap.size + 1) full rfl rfl 212 _ HZ.out HI.out HOLD.out HONE.out ?_))
          have hrow := setRow_heap wr (w.heap.size + 1) _ full 212 _ HZ.out
          have hbel := below_setRow HW.out (show w.heap.size ≤ w.heap.size + 1 by omega) full
          generalize wr.setRow (w.heap.size + 1) full = wz at hrow hbel ⊢
          have hres : ∀ tmps : Array Value, tmps.getD 2 undef = .pointer (some ⟨w.heap.size + 1, 0, none⟩) → Sem.run Tryd.prog (results Tryd.f205 tmps) wz = .ok (.agg full) wz := fun tmps h =>
            results_cell_row (P := Tryd.prog) (p := 2) (ty := 212) Tryd.results205 tmps wz (w.heap.size + 1) 212 full (0, 0) (TypeDesc.array 64 176) h hrow Tryd.underlying212 rfl HI.out
          exact bodyPost_ret (v := .agg full) (hres _ rfl) rfl ⟨by rw [HFE.out], hbel⟩
end Go.Proofs.YtgeacocdnenhdaaDoor

/-
  The contract of sha.padding: for every length below 2^40 it returns a new slice of the padding's bytes; nothing that was there changes.
-/
namespace Go.Proofs.YtgeacocdnenhdaaDoor
open Go.RowKit Go.Proofs.ShaWords
attribute [local go_sem] and32 or32 xor32 add32 shl32 shr32 wrap32_n8 wrap8_n32 shl32_8 shl32_16 shl32_24 shr32_3 shr32_8 shr32_10 shr32_16 shr32_24

/-- How many noughts the padding of n bytes has. -/
def zc (n : Nat) : Nat := (64 - (n + 9) % 64) % 64
theorem zc_le (n : Nat) : zc n ≤ 63 := by unfold zc; omega

/-- The byte of the length at place k. -/
def lenByte (n k : Nat) : BitVec 8 := BitVec.ofNat 8 (8 * n / 2 ^ (56 - 8 * k))
def padTo (n z k : Nat) : List (BitVec 8) := 128#8 :: List.replicate z 0#8 ++ (List.range k).map (lenByte n)
/-- What makes a padded row of n bytes. -/
def padOf (n : Nat) : List (BitVec 8) := padTo n (zc n) 8
theorem padTo_length (n z k : Nat) : (padTo n z k).length = 1 + z + k := by simp [padTo]; omega
theorem padTo_succ (n z k : Nat) : padTo n z (k + 1) = padTo n z k ++ [lenByte n k] := by simp [padTo, List.range_succ]
theorem lenByte_eq (n k : Nat) : 8 * (n : Int) / 2 ^ (56 - 8 * k) % 256 = n8 (lenByte n k) := by
  unfold lenByte n8
  rw [BitVec.toNat_ofNat]
  have e2 : (8 * (n : Int)) / 2 ^ (56 - 8 * k) = ((8 * n / 2 ^ (56 - 8 * k) : Nat) : Int) := by
    rw [Int.natCast_ediv, Int.natCast_pow, Int.natCast_mul]; rfl
  rw [e2]; omega
theorem pad_set (n z k : Nat) (hk : k < 8) : (padTo n z k ++ List.replicate (8 - k) 0#8).set (1 + z + k) (lenByte n k) = padTo n z (k + 1) ++ List.replicate (8 - (k + 1)) 0#8 := by
  have hl := padTo_length n z k
  rw [padTo_succ]
  obtain ⟨m, hm⟩ : ∃ m, 8 - k = m + 1 := ⟨7 - k, by omega⟩
  rw [hm, show 8 - (k + 1) = m by omega, List.set_append_right _ _ (by omega), hl, Nat.sub_self, List.replicate_succ, List.set_cons_zero, List.append_assoc]
  rfl
theorem pad_start (n z : Nat) : (List.replicate (1 + z + 8) 0#8).set 0 128#8 = padTo n z 0 ++ List.replicate (8 - 0) 0#8 := by
  rw [show 1 + z + 8 = (z + 8) + 1 by omega, List.replicate_succ, List.set_cons_zero]
  have e : padTo n z 0 = 128#8 :: List.replicate z 0#8 := by simp [padTo]
  rw [e, List.cons_append, List.replicate_append_replicate]
def PadW (w : World) (l : List (BitVec 8)) (wr : World) : Prop := wr.heap[w.heap.size]? = some (.cells (bytesV l).toArray 5 (0, 0)) ∧ Below w.heap.size w wr
theorem PadW.set {w wr : World} {l : List (BitVec 8)} (h : PadW w l wr) (k : Nat) (x : BitVec 8) : PadW w (l.set k x) (wr.setCell ⟨w.heap.size, k, none⟩ (.int .u8 (n8 x))) :=
  ⟨by rw [heap_setCell_same _ _ _ _ _ _ h.1, bytesV_set], h.2.setCell (Nat.le_refl _) _⟩
theorem PadW.alloc {w wr : World} {l : List (BitVec 8)} (h : PadW w l wr) (o : Obj) : PadW w l (wr.alloc o) := by
  have hs : w.heap.size < wr.heap.size := (Array.getElem?_eq_some_iff.1 h.1).1
  exact ⟨by rw [Below.heap_alloc _ _ _ hs]; exact h.1, h.2.alloc (by omega) o⟩
attribute [local irreducible] lenByte padTo

set_option maxRecDepth 100000 in
set_option maxHeartbeats 400000 in
theorem padding_any (n : Nat) (w : World) (hn : n < 1099511627776) :
    Calls Tryd.prog 197 #[.int .u64 n] w fun e w' => ∃ g : Nat, e = .returned (.slice (some ⟨g, 0, none⟩) (padOf n).length (padOf n).length) ∧ w'.heap[g]? = some (.cells (bytesV (padOf n)).toArray 5 (0, 0)) ∧ Below w.heap.size w w' ∧ w.heap.size ≤ g := by
  obtain ⟨i0, hi, hz0, hz1, hz2⟩ := info_parts info5
  have HI := Lib.hid hi; clear hi
  have HZ0 := Lib.hid hz0; clear hz0
  have HZ1 := Lib.hid hz1; clear hz1
  have HZ2 := Lib.hid hz2; clear hz2
  have HL : Hid ((1 : Int) + -(((n : Int) + 1 + 8) % 64) % 64 = ((1 + zc n : Nat) : Int)) := show _ = _ by unfold zc; omega
  have HC : Hid ((1 : Int) + -(((n : Int) + 1 + 8) % 64) % 64 + 8 = ((1 + zc n + 8 : Nat) : Int)) := show _ = _ by unfold zc; omega
  have hzc := zc_le n
  generalize hz : zc n = z at HL HC hzc
  have HZ : Hid (z = zc n) := hz.symm
  clear hz
  go_enter Tryd.func197, Tryd.ntmps197
  go_wp2_with (at_make; refine wpList_make_any rfl (.tmp 15) (.tmp 18) 24 rfl 5 i0 (.int .u8 0) Tryd.underlying24 HI.out HZ0.out HZ1.out HZ2.out .u64 .u64 _ _ (1 + z) (1 + z + 8) rfl rfl HL.out HC.out (by omega) (by omega) _ (made_noughts _) ?_; intro w1 h1 b1; have c1 := cell_bytesV h1 (j := 0) (by simp); have f1 := frozen_of_row _ _ 0 _ _ h1; have H1 := Lib.hid h1; have B1 := Lib.hid b1; clear h1 b1)
  go_loopw [5, 6] (fun v i wr => ∃ k : Nat, k ≤ 8 ∧ i = .int .i64 (56 - 8 * (k : Int)) ∧ v = .slice (some ⟨w.heap.size, 0, none⟩) (1 + z + k) (1 + z + 8) ∧
      PadW w (padTo n z k ++ List.replicate (8 - k) 0#8) wr) (fun _ i _ => (intOf i + 8).toNat)
  case atStart =>
    refine ⟨0, by omega, rfl, rfl, ?_⟩
    rw [← pad_start]
    exact PadW.set ⟨H1.out, B1.out⟩ 0 128#8
  case round =>
    clear H1 B1 c1 f1
    obtain ⟨k, hk, rfl, rfl, hp⟩ := hrel
    have hlen : (padTo n z k ++ List.replicate (8 - k) 0#8).length = 1 + z + 8 := by rw [List.length_append, padTo_length]; simp; omega
    have hsz : w.heap.size < wr.heap.size := (Array.getElem?_eq_some_iff.1 hp.1).1
    by_cases hlt : k < 8
    · have hlb := lenByte_eq n k
      have ck := cell_bytesV hp.1 (j := 1 + z + k) (by omega)
      generalize (padTo n z k ++ List.replicate (8 - k) 0#8)[1 + z + k]'_ = old at ck
      have fk := frozen_of_row _ _ (1 + z + k) _ _ hp.1
      have HP := Lib.hid hp; clear hp hlen
      go_wp2_with fail
      go_roundw
      case rel =>
        refine ⟨k + 1, by omega, by go_num, rfl, ?_⟩
        rw [← pad_set n z k hlt]
        exact (HP.out.set _ _).alloc _
      case measure => simp [intOf]; omega
    · have HK : Hid (k = 8) := show k = 8 by omega
      have HP := Lib.hid hp; clear hp hlen
      go_wp2_with fail
      go_ret
      have h := HP.out
      rw [HK.out] at h ⊢
      rw [HZ.out] at h ⊢
      refine ⟨w.heap.size, ?_, ?_, h.2, Nat.le_refl _⟩
      · rw [padOf, padTo_length]; rfl
      · simpa [padOf] using h.1
end Go.Proofs.YtgeacocdnenhdaaDoor

/-
  A region that draws its order, carried out along one list of its operations, where a store z changes what operations ahead of it read: what holds at all times (S), and what holds until z (E).
-/
namespace Go.Proofs.YtgeacocdnenhdaaDoor
open Go.RowKit Go.Proofs.ShaWords

/-- Whatever order is picked from here on: behind every operation S holds, and E as long as z has not come up. -/
def wpAnyE (P : Program) (ops : Array Oper) (Q : Exit → Act → World → Prop) (S E : World → Prop) (z : Nat) : Nat → Array Bool → Act → World → Prop
  | 0, L, a, w => Region.ready .any ops L = [] ∧ Q .normal a w
  | f + 1, L, a, w => (Region.ready .any ops L = [] → Q .normal a w) ∧
    ∀ i ∈ Region.ready .any ops L, wpOp P ops Q i (fun a' w' => (S w' ∧ ((L.setIfInBounds i true).getD z true = false → E w')) ∧ wpAnyE P ops Q S E z f (L.setIfInBounds i true) a' w') a w

section
variable {P : Program} {ops : Array Oper} {Q : Exit → Act → World → Prop} {S E : World → Prop} {z : Nat}
theorem wpAny_of_E : ∀ (fuel : Nat) (L : Array Bool) (a : Act) (w : World), wpAnyE P ops Q S E z fuel L a w → wpAny P .any ops Q fuel L a w
  | 0, _, _, _, h => h
  | fuel + 1, _, _, _, h => ⟨h.1, fun i hi => wpOp_mono (fun a' w' h' => wpAny_of_E fuel _ a' w' h'.2) (h.2 i hi)⟩

/-- An operation that may come up now may be taken first: at all times (b false), or because z waits for it (b true). -/
theorem wpAnyE_first {i : Nat} {oi : Oper} {v : Value} (b : Bool) (hi : ops[i]? = some oi) (hsel : ∀ (j : Nat) (o : Oper) cs b, ops[j]? = some o → o.op ≠ .select cs b)
    (hQ : ∀ c a w, Q (.panic c) (a.put oi.dst v) w → Q (.panic c) a w) (hz : b = true → Region.waitsFor .any ops z i = true) (hzi : z ≠ i) :
    ∀ (fuel : Nat) (L : Array Bool) (a : Act) (w : World),
      (∀ j oj, ops[j]? = some oj → j ≠ i → L.getD j true = false → (∀ e ∈ oj.after, Region.binds .any e = true → e.on ≠ i) → oi.apart ops oj = true) →
      i ∈ Region.ready .any ops L → (b = true → L.getD z true = false) → YieldsIf P ops (fun w => S w ∧ (b = true → E w)) oi v a → S w → (L.getD z true = false → E w) →
      wpAnyE P ops Q S E z fuel (L.setIfInBounds i true) (a.put oi.dst v) w → wpAnyE P ops Q S E z (fuel + 1) L a w := by
  intro fuel
  induction fuel with
  | zero =>
    intro L a w _ hr hzl hy hS hE H
    refine ⟨fun h => (by rw [h] at hr; cases hr), fun j hj => ?_⟩
    by_cases hji : j = i
    · subst hji
      refine hy.wpOp hi ⟨hS, fun hb => hE (hzl hb)⟩ ⟨⟨hS, fun h => hE ?_⟩, H⟩
      by_cases hjz : j = z
      · subst hjz
        have hlt : j < L.size := by
          rcases Nat.lt_or_ge j L.size with h' | h'
          · exact h'
          · simp at h
        simp [hlt] at h
      · rw [getD_set_ne true hjz] at h; exact h
    · have := ready_mono hj hji
      rw [H.1] at this
      cases this
  | succ fuel ih =>
    intro L a w hfree hr hzl hy hS hE H
    refine ⟨fun h => (by rw [h] at hr; cases hr), fun j hj => ?_⟩
    by_cases hji : j = i
    · subst hji
      refine hy.wpOp hi ⟨hS, fun hb => hE (hzl hb)⟩ ⟨⟨hS, fun h => hE ?_⟩, H⟩
      by_cases hjz : j = z
      · subst hjz
        have hlt : j < L.size := by
          rcases Nat.lt_or_ge j L.size with h' | h'
          · exact h'
          · simp at h
        simp [hlt] at h
      · rw [getD_set_ne true hjz] at h; exact h
    · have h1 := H.2 j (ready_mono hj hji)
      obtain ⟨hjun, oj, hoj, hall⟩ := mem_ready.1 hj
      have hun : L.getD i false = false := getD_both (mem_ready.1 hr).1
      have hnot : ∀ e ∈ oj.after, Region.binds .any e = true → e.on ≠ i := fun e he hb heq => by
        have h1 := hall e he hb
        rw [heq, hun] at h1; cases h1
      have hjz : b = true → j ≠ z := fun hb e => by
        subst e
        obtain ⟨oz, hoz, e, he, hbd, hon⟩ := Region.waitsFor_spec (hz hb)
        rw [hoj] at hoz; cases hoz
        exact hnot e he hbd hon
      have hset : ((L.setIfInBounds i true).setIfInBounds j true) = ((L.setIfInBounds j true).setIfInBounds i true) := Array.setIfInBounds_comm _ _ (Ne.symm hji)
      have h2 := wpOp_putIf hoj (hfree j oj hoj hji hjun hnot) (fun cs b => hsel i oi cs b hi) (fun cs b => hsel j oj cs b hoj) hQ hy h1
      have hfree' : ∀ k ok, ops[k]? = some ok → k ≠ i → (L.setIfInBounds j true).getD k true = false →
          (∀ e ∈ ok.after, Region.binds .any e = true → e.on ≠ i) → oi.apart ops ok = true := fun k ok hk hki hun hno => by
        refine hfree k ok hk hki ?_ hno
        by_cases hjk : j = k
        · subst hjk; exact hjun
        · rw [getD_set_ne true hjk] at hun; exact hun
      have hE' : ∀ w' : World, (((L.setIfInBounds i true).setIfInBounds j true).getD z true = false → E w') → (L.setIfInBounds j true).getD z true = false → (b = true ∨ z ≠ i) → E w' := fun w' h h0 hbz => by
        refine h ?_
        rw [hset]
        have hiz : i ≠ z := by
          rcases hbz with hb | hb
          · intro e; subst e
            have hj2 := hzl hb
            obtain ⟨oz, hoz, e, he, hbd, hon⟩ := Region.waitsFor_spec (hz hb)
            have := (mem_ready.1 hr).2
            obtain ⟨o', ho', ha⟩ := this
            rw [hoz] at ho'; cases ho'
            have h3 := ha e he hbd
            rw [hon, hun] at h3; cases h3
          · exact fun e => hb e.symm
        rw [getD_set_ne true hiz]; exact h0
      refine wpOp_mono (fun a' w' h3 => ⟨⟨h3.2.1.1, fun h => hE' w' h3.2.1.2 h (.inr hzi)⟩, ih (L.setIfInBounds j true) a' w' hfree' (ready_mono hr (Ne.symm hji)) (fun hb => by rw [getD_set_ne true (hjz hb)]; exact hzl hb) h3.1 h3.2.1.1 (fun h => hE' w' h3.2.1.2 h (.inr hzi)) ?_⟩) h2
      rw [← hset]
      exact h3.2.2
theorem wpAnyE_all {rs : List Nat} {fuel : Nat} {L : Array Bool} {a : Act} {w : World} (hr : Region.ready .any ops L = rs) (hne : rs ≠ [])
    (h : ∀ i ∈ rs, wpOp P ops Q i (fun a' w' => (S w' ∧ ((L.setIfInBounds i true).getD z true = false → E w')) ∧ wpAnyE P ops Q S E z fuel (L.setIfInBounds i true) a' w') a w) : wpAnyE P ops Q S E z (fuel + 1) L a w :=
  ⟨fun h0 => absurd (hr ▸ h0) hne, hr ▸ h⟩
theorem wpAnyE_done {L : Array Bool} {a : Act} {w : World} (hr : Region.ready .any ops L = []) (h : Q .normal a w) : ∀ fuel, wpAnyE P ops Q S E z fuel L a w
  | 0 => ⟨hr, h⟩
  | _ + 1 => ⟨fun _ => h, by rw [hr]; simp⟩
end

/-- How an operation of the list is met: it yields at all times; it yields until z; it stands alone ahead of z; it stands alone, z or behind it. -/
inductive Met where
  | free
  | early
  | before
  | behind
def phaseOk (ops : Array Oper) (z : Nat) : List (Nat × Met) → Array Bool → Bool
  | [], L => (Region.ready .any ops L).isEmpty
  | (i, .free) :: r, L => Region.free .any ops L i && (Region.ready .any ops L).contains i && decide (z ≠ i) && phaseOk ops z r (L.setIfInBounds i true)
  | (i, .early) :: r, L => Region.free .any ops L i && (Region.ready .any ops L).contains i && decide (z ≠ i) && Region.waitsFor .any ops z i && !L.getD z true && phaseOk ops z r (L.setIfInBounds i true)
  | (i, .before) :: r, L => decide (Region.ready .any ops L = [i]) && phaseOk ops z r (L.setIfInBounds i true)
  | (i, .behind) :: r, L => decide (Region.ready .any ops L = [i]) && (L.setIfInBounds i true).getD z true && phaseOk ops z r (L.setIfInBounds i true)
def wpE (P : Program) (ops : Array Oper) (Q : Exit → Act → World → Prop) (S E : World → Prop) : List (Nat × Met) → Act → World → Prop
  | [], a, w => Q .normal a w
  | (i, .free) :: r, a, w => ∃ o v, ops[i]? = some o ∧ YieldsIf P ops S o v a ∧ wpE P ops Q S E r (a.put o.dst v) w
  | (i, .early) :: r, a, w => ∃ o v, ops[i]? = some o ∧ YieldsIf P ops (fun w => S w ∧ E w) o v a ∧ wpE P ops Q S E r (a.put o.dst v) w
  | (i, .before) :: r, a, w => wpOp P ops Q i (fun a' w' => (S w' ∧ E w') ∧ wpE P ops Q S E r a' w') a w
  | (i, .behind) :: r, a, w => wpOp P ops Q i (fun a' w' => S w' ∧ wpE P ops Q S E r a' w') a w
section
variable {P : Program} {ops : Array Oper} {Q : Exit → Act → World → Prop} {S E : World → Prop} {z : Nat}
theorem getD_of_set {L : Array Bool} {i z : Nat} (h : (L.setIfInBounds i true).getD z true = false) : L.getD z true = false := by
  by_cases hiz : i = z
  · subst hiz
    have hlt : i < L.size := by
      rcases Nat.lt_or_ge i L.size with h' | h'
      · exact h'
      · simp at h
    simp [hlt] at h
  · rw [getD_set_ne true hiz] at h; exact h
theorem wpAnyE_phase (hs : Region.noSelect ops = true) (hQ : ∀ c a w, ¬ Q (.panic c) a w) :
    ∀ (r : List (Nat × Met)) (L : Array Bool) (a : Act) (w : World), phaseOk ops z r L = true → S w → (L.getD z true = false → E w) → wpE P ops Q S E r a w → wpAnyE P ops Q S E z r.length L a w
  | [], L, a, w, hc, _, _, h => by
    simp only [phaseOk, List.isEmpty_iff] at hc
    exact wpAnyE_done hc h 0
  | (i, .free) :: r, L, a, w, hc, hS, hE, h => by
    simp only [phaseOk, Bool.and_eq_true, decide_eq_true_eq] at hc
    obtain ⟨o, v, ho, hy, h⟩ := h
    exact wpAnyE_first false ho (Region.noSelect_spec hs) (fun c a w h => absurd h (hQ c _ w)) (by simp) hc.1.2 r.length L a w (Region.free_spec ho hc.1.1.1) (by simpa using hc.1.1.2) (by simp)
      (hy.imp (fun ⟨h1, h2⟩ => ⟨h1, fun w hw => h2 w hw.1⟩) id) hS hE (wpAnyE_phase hs hQ r _ _ w hc.2 hS (fun h0 => hE (getD_of_set h0)) h)
  | (i, .early) :: r, L, a, w, hc, hS, hE, h => by
    simp only [phaseOk, Bool.and_eq_true, decide_eq_true_eq, Bool.not_eq_true'] at hc
    obtain ⟨o, v, ho, hy, h⟩ := h
    exact wpAnyE_first true ho (Region.noSelect_spec hs) (fun c a w h => absurd h (hQ c _ w)) (fun _ => hc.1.1.2) hc.1.1.1.2 r.length L a w (Region.free_spec ho hc.1.1.1.1.1) (by simpa using hc.1.1.1.1.2) (fun _ => hc.1.2)
      (hy.imp (fun ⟨h1, h2⟩ => ⟨h1, fun w hw => h2 w ⟨hw.1, hw.2 rfl⟩⟩) id) hS hE (wpAnyE_phase hs hQ r _ _ w hc.2 hS (fun h0 => hE (getD_of_set h0)) h)
  | (i, .before) :: r, L, a, w, hc, hS, hE, h => by
    simp only [phaseOk, Bool.and_eq_true, decide_eq_true_eq] at hc
    refine wpAnyE_all hc.1 (by simp) (fun j hj => ?_)
    rw [List.mem_singleton.1 hj]
    exact wpOp_mono (fun a' w' h' => ⟨⟨h'.1.1, fun _ => h'.1.2⟩, wpAnyE_phase hs hQ r _ a' w' hc.2 h'.1.1 (fun _ => h'.1.2) h'.2⟩) h
  | (i, .behind) :: r, L, a, w, hc, hS, hE, h => by
    simp only [phaseOk, Bool.and_eq_true, decide_eq_true_eq] at hc
    refine wpAnyE_all hc.1.1 (by simp) (fun j hj => ?_)
    rw [List.mem_singleton.1 hj]
    exact wpOp_mono (fun a' w' h' => ⟨⟨h'.1, fun h0 => by rw [hc.1.2] at h0; cases h0⟩, wpAnyE_phase hs hQ r _ a' w' hc.2 h'.1 (fun h0 => by rw [hc.1.2] at h0; cases h0) h'.2⟩) h
theorem region_phase {id : Nat} {a : Act} {w : World} (S E : World → Prop) (z : Nat) (hS : S w.drew) (hE : E w.drew) (r : List (Nat × Met)) (hm : P.follows .mixedOrders = true) (hs : Region.noSelect ops = true)
    (hl : r.length = ops.size) (hc : phaseOk ops z r (Array.replicate ops.size false) = true)
    (h : ∀ ops', ops' = ops → ∀ A, A = a → wpE P ops' (NoPanic Q) S E r A w.drew) : (Code.region id ops true).wp P Q a w := by
  refine wp_region_noPanic (wp_region_any hm (wpAny_of_E (S := S) (E := E) (z := z) _ _ _ _ ?_))
  rw [← hl]
  exact wpAnyE_phase hs (fun c a w h => h) r _ a w.drew (hl ▸ hc) hS (fun _ => hE) (h ops rfl a rfl)
end

section
variable {P : Program} {ops : Array Oper} {Q : Exit → Act → World → Prop} {S E : World → Prop} {r : List (Nat × Met)} {i : Nat} {o : Oper} {d : Option Tmp} {v : Value} {a : Act} {w w' : World}
theorem met_free (ho : ops[i]? = some o) (hd : o.dst = d) (hw : Region.wanted o (yielded ops a.tmps) = true) (hr : ∀ w, S w → (execOp a.eval o).run P w = .ok (.value v) w) (h : wpE P ops Q S E r (a.put d v) w) : wpE P ops Q S E ((i, .free) :: r) a w :=
  ⟨o, v, ho, .inl ⟨hw, hr⟩, by rw [hd]; exact h⟩
end
end Go.Proofs.YtgeacocdnenhdaaDoor

/-
  Steps of region_phase for every kind of operation: calls, values, operations that are not wanted.
-/
namespace Go.Proofs.YtgeacocdnenhdaaDoor
open Go.RowKit Go.Proofs.ShaWords
section
variable {P : Program} {ops : Array Oper} {Q : Exit → Act → World → Prop} {S E : World → Prop} {r : List (Nat × Met)} {i : Nat} {o : Oper} {d : Option Tmp} {v : Value} {a : Act} {w w' : World}
theorem m_behind (ho : ops[i]? = some o) (hw : Region.wanted o (yielded ops a.tmps) = true)
    (h : o.wp P a w (fun a' w' => S w' ∧ wpE P ops Q S E r a' w') Q) : wpE P ops Q S E ((i, .behind) :: r) a w := by
  show wpOp P ops Q i _ a w
  unfold wpOp
  rw [ho]
  show if Region.wanted o (yielded ops a.tmps) = true then _ else _
  rw [if_pos hw]
  exact .inl h
theorem m_enter {f : FuncId} {args : Array Value} {R : Ending → World → Prop} (ho : ops[i]? = some o) (hd : o.dst = d) (hw : Region.wanted o (yielded ops a.tmps) = true) (hr : (execOp a.eval o).run P w = .ok (.enter f args) w) (hc : Calls P f args w R)
    (h : ∀ e w', R e w' → ∃ v, e = .returned v ∧ S w' ∧ wpE P ops Q S E r (a.put d v) w') : wpE P ops Q S E ((i, .behind) :: r) a w := by
  refine m_behind ho hw ?_
  unfold Oper.wp
  rw [hr, Oper.upon_enter]
  refine hc.mono ?_
  rintro e w' hR
  obtain ⟨v, rfl, hS, h⟩ := h e w' hR
  rw [hd]
  exact ⟨hS, h⟩
theorem m_unwanted (ho : ops[i]? = some o) (hd : o.dst = d) (hw : Region.wanted o (yielded ops a.tmps) = false) (h : wpE P ops Q S E r (a.put d undef) w) : wpE P ops Q S E ((i, .free) :: r) a w :=
  ⟨o, undef, ho, .inr ⟨hw, rfl⟩, by rw [hd]; exact h⟩
theorem m_skipped (ho : ops[i]? = some o) (hd : o.dst = d) (hw : Region.wanted o (yielded ops a.tmps) = false) (h : S w ∧ wpE P ops Q S E r (a.put d undef) w) : wpE P ops Q S E ((i, .behind) :: r) a w := by
  show wpOp P ops Q i _ a w
  unfold wpOp
  rw [ho]
  show if Region.wanted o (yielded ops a.tmps) = true then _ else _
  rw [if_neg (by rw [hw]; decide), hd]
  exact h
theorem tmp_at {t : Nat} {b : Bool} (he : a.eval (.tmp t) = .bool b) : a.tmps[t]? = some (.bool b) := by
  have h3 : a.tmps.getD t undef = .bool b := he
  rw [Array.getD_eq_getD_getElem?] at h3
  cases h4 : a.tmps[t]? with
  | none => rw [h4] at h3; exact absurd h3 (by simp [undef])
  | some u => rw [h4] at h3; simp at h3; rw [h3]
theorem w_false {j : Nat} {dj : Tmp} {oj : Oper} (hg : o.guard = some (j, false)) (hj : ops[j]? = some oj) (hd : oj.dst = some dj) (he : a.eval (.tmp dj) = .bool false) : Region.wanted o (yielded ops a.tmps) = true := by
  have h2 := tmp_at he
  unfold Region.wanted
  rw [hg]
  simp only [yielded, hj, Option.bind_some, hd, h2]
  rfl
theorem w_not {j : Nat} {dj : Tmp} {oj : Oper} (hg : o.guard = some (j, true)) (hj : ops[j]? = some oj) (hd : oj.dst = some dj) (he : a.eval (.tmp dj) = .bool false) : Region.wanted o (yielded ops a.tmps) = false := by
  have h2 := tmp_at he
  unfold Region.wanted
  rw [hg]
  simp only [yielded, hj, Option.bind_some, hd, h2]
  rfl
end
section
variable {P : Program} {ρ : Operand → Value} {o : Oper} {x y c : Operand} {v : Value}
theorem r_not {b : Bool} {ty : TypeId} (ho : o.op = .unOp .not ty x) (hx : ρ x = .bool b) (w : World) : (execOp ρ o).run P w = .ok (.value (.bool (!b))) w := by
  obtain ⟨dst, op, ty', pos, after, guard⟩ := o
  simp only at ho
  subst ho
  go_simp
theorem r_pickF (ho : o.op = .pick c x y) (hc : ρ c = .bool false) (h : ρ y = v) (w : World) : (execOp ρ o).run P w = .ok (.value v) w := by
  unfold execOp; simp only [ho, hc, h, Sem.run_bind]; rfl
end
end Go.Proofs.YtgeacocdnenhdaaDoor

/- append of any slice of bytes behind a slice of the call's own, as a step of the walk. -/
namespace Go.Proofs.YtgeacocdnenhdaaDoor
open Go.RowKit Go.Proofs.ShaWords
end Go.Proofs.YtgeacocdnenhdaaDoor

/- append(s, make([]byte, n)...) behind a slice of bytes of the call's own. -/
namespace Go.Proofs.YtgeacocdnenhdaaDoor
open Go.RowKit Go.Proofs.ShaWords
theorem zeroCells_u8 (n : Nat) : (Builtin.zeroCells #[Value.int .u8 0] n).toList = bytesV (noughts n) := by
  apply List.ext_getElem (by simp [Builtin.zeroCells, bytesV, noughts])
  intro i h1 h2
  simp [Builtin.zeroCells, bytesV, noughts, Nat.mod_one]
  rfl
theorem run_append_zeros (B : Nat) (ty : TypeId) (v : Value) (l : List (BitVec 8)) (n : Nat) (w : World) (hown : Own B w l v) (hl : l.length + n ≤ 140737488355327) (hB : B ≤ w.heap.size) :
    ∃ v' w', (Builtin.append_ #[24, 3] ty #[v, .int .i64 (n : Int)]).run Tryd.prog w = .ok v' w' ∧ Own B w' (l ++ noughts n) v' ∧ Below B w w' := by
  obtain ⟨i, hi, hz, hsz, hby⟩ := info5'
  have hw0 : IntKind.i64.wrap 0 = 0 := by decide
  by_cases hn : n = 0
  · subst hn
    refine ⟨v, w, ?_, by simpa [noughts] using hown, Below.refl _ _⟩
    rcases hown.2 with ⟨rfl, h0⟩ | ⟨g, cap, cur, rfl, hbg, hg, hnc, hcm, hcs, htake⟩
    · simp [Builtin.append_, run_underlying Tryd.underlying24, run_underlying Tryd.underlying3, sizeOf, typeInfo, hi, hw0, asInt, asIntOf]
    · simp [Builtin.append_, run_underlying Tryd.underlying24, run_underlying Tryd.underlying3, sizeOf, typeInfo, hi, hw0, asInt, asIntOf, hnc, storeCells]
  have hw : IntKind.i64.wrap (n : Int) = n := by rw [IntKind.wrap_i64]; omega
  have hneg : ¬ ((n : Int) < 0) := by omega
  have h48i : ¬ (281474976710656 < (n : Int) * (i.bytes : Int)) := by rw [hby]; omega
  have hlen : (bytesV (l ++ noughts n)).length = l.length + n := by rw [bytesV_length, List.length_append, noughts_length]
  have hns : ¬ (n * i.size = 0) := by rw [hsz]; omega
  have hgrown : ∀ (old : Nat) (A : Array Value), A.toList = bytesV (l ++ noughts n) → l.length + n > old → Own B (w.drew.alloc (.cells (A ++ Builtin.zeroCells #[Value.int .u8 0] (grownCap w (l.length + n) old 5 - (l.length + n))) 5)) (l ++ noughts n) (.slice (some ⟨w.heap.size, 0, none⟩) (l.length + n) (grownCap w (l.length + n) old 5)) := fun old A hA ho => by
    have hge := grownCap_ge w (l.length + n) old 5
    have hle : grownCap w (l.length + n) old 5 ≤ maxLen := grownCap_le_maxLen w _ old 5 (by unfold maxLen; omega)
    have hAs : A.size = l.length + n := by rw [← Array.length_toList, hA, hlen]
    unfold Own
    rw [List.length_append, noughts_length]
    refine ⟨by rw [hlen, Nat.mul_one], .inr ⟨w.heap.size, _, _, rfl, hB, heap_alloc_new w.drew _, hge, hle, ?_, ?_⟩⟩
    · rw [Array.size_append, size_zeroCells, hAs]; simp; omega
    · rw [Array.toList_append, hA, Nat.mul_one, ← hlen]; exact List.take_left
  rcases hown.2 with ⟨rfl, h0⟩ | ⟨g, cap, cur, rfl, hbg, hg, hnc, hcm, hcs, htake⟩
  · have hl0 : l = [] := List.length_eq_zero_iff.1 h0
    subst hl0
    have hr := Lib.run_append_nil_zeros (P := Tryd.prog) w 24 3 ty 5 i (.int .u8 0) .i64 .i64 Tryd.underlying24 Tryd.underlying3 hi hz n (by omega) (by omega) (by omega) (by rw [hby]; omega)
    have hg := hgrown 0 (Builtin.zeroCells #[Value.int .u8 0] n) (zeroCells_u8 n) (by simp; omega)
    simp only [List.length_nil, Nat.zero_add] at hg
    exact ⟨_, _, hr, hg, ((Below.refl B w).drew).alloc hB _⟩
  · by_cases hroom : l.length + n ≤ cap
    · have hst := run_storeCells_at Tryd.prog g l.length 5 (bytesV (noughts n)) 0 cur w hg (by rw [bytesV_length, noughts_length, hcs]; omega) (fun u hu => bytesV_mem hu)
      simp only [Nat.add_zero] at hst
      refine ⟨.slice (some ⟨g, 0, none⟩) (l.length + n) cap, w.setRow g (cur.toList.take l.length ++ bytesV (noughts n) ++ cur.toList.drop (l.length + (bytesV (noughts n)).length)).toArray, ?_, ?_, ?_⟩
      rotate_left
      · unfold Own
        rw [List.length_append, noughts_length]
        refine ⟨by rw [hlen, Nat.mul_one], .inr ⟨g, cap, _, rfl, hbg, setRow_heap w g cur ((cur.toList.take l.length ++ bytesV (noughts n) ++ cur.toList.drop (l.length + (bytesV (noughts n)).length)).toArray) 5 _ hg, hroom, hcm, ?_, ?_⟩⟩
        · simp only [List.size_toArray, List.length_append, List.length_take, List.length_drop, Array.length_toList, bytesV_length, noughts_length]
          omega
        · rw [Nat.mul_one] at htake ⊢
          rw [htake, bytesV_append, ← hlen, bytesV_append]
          exact List.take_left
      · exact below_setRow (Below.refl _ _) hbg _
      · simp [Builtin.append_, run_underlying Tryd.underlying24, run_underlying Tryd.underlying3, sizeOf, typeInfo, zeroValue, hi, hz, asInt, asIntOf, hw, hneg, hn, hsz, h48i, hroom, Addr.add_lit]
        rw [show (Value.int .u8 0).cells = #[Value.int .u8 0] from rfl, zeroCells_u8, hst, List.append_assoc]
        rfl
    · have holds : ∀ j u, (bytesV l)[j]? = some u → w.cell? ((⟨g, 0, none⟩ : Addr).add j) = some u := World.ownsRow.cells hown (g := g) rfl
      have hfo := run_firstCells_some (P := Tryd.prog) w.drew 1 l.length ⟨g, 0, none⟩ l.length cap (bytesV l) (by rw [bytesV_length, Nat.mul_one]) (by simpa using holds)
      have hg2 := hgrown cap ((bytesV l).toArray ++ Builtin.zeroCells #[Value.int .u8 0] n) (by rw [Array.toList_append, zeroCells_u8, bytesV_append]) (by omega)
      refine ⟨_, _, ?_, hg2, ((Below.refl B w).drew).alloc hB _⟩
      have h63' : ¬ (9223372036854775807 < ((l.length : Int) + (n : Int))) := by omega
      have h48' : ¬ (281474976710656 < Builtin.nextslicecap (l.length + n) cap * i.bytes) := by
        have := growslice_fits (need := l.length + n) (old := cap) (bytes := 1) (by omega) (by omega)
        rw [hby]; omega
      simp [Builtin.append_, run_underlying Tryd.underlying24, run_underlying Tryd.underlying3, sizeOf, typeInfo, zeroValue, hi, hz, asInt, asIntOf, hw, hneg, hn, hsz, h48i, hroom, h63', h48', Question.forced, hfo, newRow, grownCap]
      rfl
/-- Noughts that are appended to a slice of the call's own. -/
theorem wpList_append_zeros {ops : Array Oper} {rest : List Oper} {o : Oper} {a : Act} {w : World} {Q : Exit → Act → World → Prop} (hgd : o.guard = none) (s x : Operand)
    (ho : o.op = .call { callee := .builtin .append, args := #[s, x], argTypes := #[24, 3] }) (B : Nat) (v : Value) (l : List (BitVec 8)) (n : Nat) (hs : a.eval s = v) (hown : Own B w l v) (hx : a.eval x = .int .i64 (n : Int))
    (hl : l.length + n ≤ 140737488355327) (hB : B ≤ w.heap.size)
    (h : ∀ v' w', Own B w' (l ++ noughts n) v' → Below B w w' → wpList Tryd.prog ops Q rest (a.put o.dst v') w') : wpList Tryd.prog ops Q (o :: rest) a w := by
  obtain ⟨v', w', hr, h1, h2⟩ := run_append_zeros B o.type v l n w hown hl hB
  exact Lib.wpList_append_run w hgd s x _ _ ho v (.int .i64 n) hs hx v' w' hr (h v' w' h1 h2)
end Go.Proofs.YtgeacocdnenhdaaDoor

/-
  strings.Clone: the same bytes; of what was there nothing changes. (By the shelf's contract on internal/stringslite.Clone.)
-/
namespace Go.Proofs.YtgeacocdnenhdaaDoor
open Go.RowKit Go.Shelf
def cloneRen : Ren := ⟨fun _ => 160, fun t => if t = 37 then 24 else if t = 47 then 198 else t, fun g => g⟩
theorem clone_lays : LaysPu.n25 Tryd.prog cloneRen := by
  constructor
  all_goals first | kernel_rfl | (intro w; kernel_rfl)
set_option maxRecDepth 100000 in
theorem clone_str (s : ByteArray) (w : World) (hlim : s.size ≤ 281474976710656) :
    Calls Tryd.prog 96 #[.string s] w fun e w' => e = .returned (.string s) ∧ Below w.heap.size w w' := by
  have HC : Calls Tryd.prog 160 #[.string s] w fun e w' => e = .returned (.string s) ∧ Below w.heap.size w w' := AnyPu.stringslite_Clone clone_lays s w hlim
  go_enter Tryd.func96, Tryd.ntmps96
  go_wp2_with fail
  refine HC.mono ?_
  rintro e w' ⟨rfl, hb⟩
  go_wp2_with fail
  go_ret
  exact ⟨rfl, hb⟩
end Go.Proofs.YtgeacocdnenhdaaDoor

/-
  Steps of region_phase ahead of the store that ends what is read early.
-/
namespace Go.Proofs.YtgeacocdnenhdaaDoor
open Go.RowKit Go.Proofs.ShaWords
section
variable {P : Program} {ops : Array Oper} {Q : Exit → Act → World → Prop} {S E : World → Prop} {r : List (Nat × Met)} {i : Nat} {o : Oper} {d : Option Tmp} {v : Value} {a : Act} {w w' : World}
end
section
variable {ρ : Operand → Value} {o : Oper} {x y : Operand} {w : World}
theorem run_fieldT {T : TypeId} {f off b : Nat} (ho : o.op = .fieldAddr T x f) (hf : ∀ w, (Instr.fieldAt T (.pointer (some ⟨b, 0, none⟩)) f).run Tryd.prog w = .ok (.pointer (some ⟨b, off, none⟩)) w) (h : ρ x = .pointer (some ⟨b, 0, none⟩)) (w : World) :
    (execOp ρ o).run Tryd.prog w = .ok (.value (.pointer (some ⟨b, off, none⟩))) w := by
  unfold execOp; simp only [ho, h, Sem.run_bind, hf, Result.andThen_ok, Sem.run_pure]
end
end Go.Proofs.YtgeacocdnenhdaaDoor

/-
  Bytes appended to a slice of one's own, and bytes copied into its midst: which block changes.
-/
namespace Go.Proofs.YtgeacocdnenhdaaDoor
open Go.RowKit Go.Proofs.ShaWords
end Go.Proofs.YtgeacocdnenhdaaDoor

/-
  A region that draws its order, whatever the order: a fact of each operation that no other one turns.
-/
namespace Go.Proofs.YtgeacocdnenhdaaDoor
open Go.RowKit Go.Proofs.ShaWords

/-- Each operation waits for earlier ones alone. -/
def backward (ops : Array Oper) : Bool := (List.range ops.size).all fun i => match ops[i]? with | none => true | some o => o.after.all fun e => !(Region.binds .any e) || decide (e.on < i)
theorem backward_spec {ops : Array Oper} (h : backward ops = true) {i : Nat} {o : Oper} (ho : ops[i]? = some o) {e : Edge} (he : e ∈ o.after) (hb : Region.binds .any e = true) : e.on < i := by
  have hi : i < ops.size := (Array.getElem?_eq_some_iff.1 ho).1
  have h1 := List.all_eq_true.1 h i (List.mem_range.2 hi)
  rw [ho] at h1
  have h2 := Array.all_eq_true_iff_forall_mem.1 h1 e he
  simpa [hb] using h2
theorem ready_empty {ops : Array Oper} {L : Array Bool} (hb : backward ops = true) (hL : L.size = ops.size) (h : Region.ready .any ops L = []) (i : Nat) : i < ops.size → L.getD i false = true := by
  induction i using Nat.strongRecOn with
  | _ i ih =>
    intro hi
    by_cases hl : L.getD i false = true
    · exact hl
    · exfalso
      have hm : i ∈ Region.ready .any ops L := mem_ready.2 ⟨by
        have h1 : i < L.size := by omega
        simp [h1] at hl ⊢; exact hl, ops[i], by simp [hi], fun e he hbd => ih e.on (backward_spec hb (show ops[i]? = some ops[i] by simp [hi]) he hbd) (by have := backward_spec hb (show ops[i]? = some ops[i] by simp [hi]) he hbd; omega)⟩
      rw [h] at hm; cases hm
/-- How many are still to come. -/
def leftOf (L : Array Bool) : Nat := L.toList.count false
theorem leftOf_set {L : Array Bool} {i : Nat} (h : L.getD i true = false) : leftOf (L.setIfInBounds i true) + 1 = leftOf L := by
  have hi : i < L.size := by
    rcases Nat.lt_or_ge i L.size with h' | h'
    · exact h'
    · simp [Array.getElem?_eq_none h'] at h
  have hv : L.toList[i]'(by simpa using hi) = false := by simpa [hi] using h
  unfold leftOf
  rw [Array.toList_setIfInBounds, List.count_set (by simpa using hi), hv]
  have hpos : 0 < List.count false L.toList := List.count_pos_iff.2 (by rw [← hv]; exact List.getElem_mem _)
  simp only [beq_self_eq_true, if_true, show (true == false) = false from rfl]
  have : (if false = true then 1 else 0) = 0 := rfl
  omega
theorem leftOf_none {L : Array Bool} (h : leftOf L = 0) (i : Nat) (hi : i < L.size) : L.getD i false = true := by
  have h1 : false ∉ L.toList := List.count_eq_zero.1 h
  have h2 : L[i] ∈ L.toList := by simp
  cases hv : L[i] with
  | true => simp [hi, hv]
  | false => rw [hv] at h2; exact absurd h2 h1
section
variable {P : Program} {ops : Array Oper} {Q : Exit → Act → World → Prop}
theorem wpAny_inv (I : Array Bool → Act → World → Prop) (hb : backward ops = true)
    (hstep : ∀ (i : Nat) (o : Oper) (L : Array Bool) (a : Act) (w : World), ops[i]? = some o → L.getD i true = false → (∀ e ∈ o.after, Region.binds .any e = true → L.getD e.on false = true) → I L a w → wpOp P ops Q i (I (L.setIfInBounds i true)) a w)
    (hdone : ∀ L a w, (∀ i, i < ops.size → L.getD i false = true) → I L a w → Q .normal a w) :
    ∀ (fuel : Nat) (L : Array Bool) (a : Act) (w : World), L.size = ops.size → leftOf L ≤ fuel → I L a w → wpAny P .any ops Q fuel L a w
  | 0, L, a, w, hL, hf, h => by
    have hall : ∀ i, i < ops.size → L.getD i false = true := fun i hi => leftOf_none (by omega) i (by omega)
    refine ⟨List.eq_nil_iff_forall_not_mem.2 fun i hi => ?_, hdone L a w hall h⟩
    obtain ⟨h1, o, ho, -⟩ := mem_ready.1 hi
    have h2 := hall i (Array.getElem?_eq_some_iff.1 ho).1
    rw [getD_both h1] at h2; cases h2
  | fuel + 1, L, a, w, hL, hf, h => by
    refine ⟨fun h0 => hdone L a w (ready_empty hb hL h0) h, fun i hi => ?_⟩
    obtain ⟨h1, o, ho, h2⟩ := mem_ready.1 hi
    refine wpOp_mono (fun a' w' h' => wpAny_inv I hb hstep hdone fuel _ a' w' (by rw [Array.size_setIfInBounds]; exact hL) ?_ h') (hstep i o L a w ho h1 h2 h)
    have := leftOf_set h1
    omega
/-- The value that stands where an operation wrote. -/
def valOf (a : Act) (o : Oper) : Value := match o.dst with | some d => a.tmps.getD d undef | none => undef
/-- What holds on the way: the frame but for what was written, and each fact of what has come up. -/
structure InvAt (ops : Array Oper) (a0 : Act) (S : World → Prop) (V : Nat → Value → World → Prop) (L : Array Bool) (a : Act) (w : World) : Prop where
  world : S w
  defers : a.defers = a0.defers
  size : a.tmps.size = a0.tmps.size
  slot : ∀ t, (∀ (i : Nat) (o : Oper), ops[i]? = some o → o.dst ≠ some t) → a.tmps.getD t undef = a0.tmps.getD t undef
  fact : ∀ (i : Nat) (o : Oper), ops[i]? = some o → L.getD i false = true → V i (valOf a o) w
end
end Go.Proofs.YtgeacocdnenhdaaDoor

/-
  A region in any order, where an operation's fact may speak of the slots of those that it waits for.
-/
namespace Go.Proofs.YtgeacocdnenhdaaDoor
open Go.RowKit Go.Proofs.ShaWords
/-- The slots. -/
def rdA (a : Act) (t : Nat) : Value := a.tmps.getD t undef
/-- What holds on the way. -/
structure InvB (ops : Array Oper) (a0 : Act) (S : World → Prop) (V : Nat → (Nat → Value) → World → Prop) (L : Array Bool) (a : Act) (w : World) : Prop where
  world : S w
  defers : a.defers = a0.defers
  size : a.tmps.size = a0.tmps.size
  slot : ∀ t, (∀ (i : Nat) (o : Oper), ops[i]? = some o → o.dst ≠ some t) → a.tmps.getD t undef = a0.tmps.getD t undef
  fact : ∀ (i : Nat) (o : Oper), ops[i]? = some o → L.getD i false = true → V i (rdA a) w
  closed : ∀ (i : Nat) (o : Oper), ops[i]? = some o → L.getD i false = true → ∀ e ∈ o.after, Region.binds .any e = true → L.getD e.on false = true
theorem slot_free {ops : Array Oper} {t : Nat} (h : ops.all (fun o => decide (o.dst ≠ some t)) = true) (i : Nat) (o : Oper) (ho : ops[i]? = some o) : o.dst ≠ some t := by
  have h1 := Array.all_eq_true_iff_forall_mem.1 h o (Array.mem_of_getElem? ho)
  simpa using h1
theorem act_ext {a : Act} {N : Nat} {X : Array Value} {D : List Deferred} (h1 : a.tmps.size = N) (h2 : X.size = N) (h3 : a.defers = D) (h : ∀ t, t < N → a.tmps.getD t undef = X.getD t undef) : a = { tmps := X, defers := D } := by
  obtain ⟨tm, df⟩ := a
  simp only at h1 h3 h
  subst h3
  have : tm = X := by
    apply Array.ext (by omega)
    intro i hi hj
    have := h i (by omega)
    simpa [hi, hj] using this
  rw [this]
theorem put_get (a : Act) (d t : Nat) (v : Value) : (a.put (some d) v).tmps.getD t undef = if d = t ∧ t < a.tmps.size then v else a.tmps.getD t undef := by
  by_cases h : d = t
  · subst h
    by_cases h2 : d < a.tmps.size
    · simp [Act.put, h2]
    · simp [Act.put, h2]
  · simp [Act.put, h, Array.getElem?_setIfInBounds_ne h]
theorem act_of_slots {A : Act} : ∀ (ts : List Nat) (a0 : Act), A.tmps.size = a0.tmps.size → A.defers = a0.defers → (∀ t, t ∉ ts → A.tmps.getD t undef = a0.tmps.getD t undef) → A = ts.foldl (fun a t => a.put (some t) (rdA A t)) a0
  | [], a0, h1, h2, h3 => act_ext (X := a0.tmps) (D := a0.defers) rfl h1.symm h2 (fun t _ => h3 t (by simp))
  | d :: ts, a0, h1, h2, h3 => by
    refine act_of_slots ts (a0.put (some d) (rdA A d)) (by simp [Act.put, h1]) (by simp [Act.put, h2]) (fun t ht => ?_)
    rw [put_get]
    by_cases h : d = t
    · subst h
      by_cases h4 : d < a0.tmps.size
      · rw [if_pos ⟨rfl, h4⟩]; rfl
      · rw [if_neg (fun h => h4 h.2)]
        simp [Array.getElem?_eq_none (show A.tmps.size ≤ d by omega), Array.getElem?_eq_none (show a0.tmps.size ≤ d by omega)]
    · rw [if_neg (fun h' => h h'.1)]
      exact h3 t (by simp [Ne.symm h, ht])
/-- Slots that no operation writes. -/
theorem slots_free {ops : Array Oper} {ts : List Nat} (h : ops.all (fun o => match o.dst with | some d => ts.contains d | none => true) = true) (t : Nat) (ht : t ∉ ts) (i : Nat) (o : Oper) (ho : ops[i]? = some o) : o.dst ≠ some t := fun hd => by
  have h1 := Array.all_eq_true_iff_forall_mem.1 h o (Array.mem_of_getElem? ho)
  rw [hd] at h1
  exact ht (by simpa using h1)
end Go.Proofs.YtgeacocdnenhdaaDoor

/-
  A region that draws its order, carried out along a tree: where two of its operations that are not plain may come up, both ways are gone.
-/
namespace Go.Proofs.YtgeacocdnenhdaaDoor
open Go.RowKit Go.Proofs.ShaWords

inductive Tr
  | nil
  | pure (i : Nat) (t : Tr)
  | one (i : Nat) (t : Tr)
  | two (i j : Nat) (s t : Tr)
def Tr.ok (ops : Array Oper) : Tr → Nat → Array Bool → Bool
  | .nil, 0, L => (Region.ready .any ops L).isEmpty
  | .pure i t, n + 1, L => Region.free .any ops L i && (Region.ready .any ops L).contains i && t.ok ops n (L.setIfInBounds i true)
  | .one i t, n + 1, L => decide (Region.ready .any ops L = [i]) && t.ok ops n (L.setIfInBounds i true)
  | .two i j s t, n + 1, L => decide (Region.ready .any ops L = [i, j]) && s.ok ops n (L.setIfInBounds i true) && t.ok ops n (L.setIfInBounds j true)
  | _, _, _ => false
def Tr.wp (P : Program) (ops : Array Oper) (Q : Exit → Act → World → Prop) (S : World → Prop) : Tr → Act → World → Prop
  | .nil, a, w => Q .normal a w
  | .pure i t, a, w => ∃ o v, ops[i]? = some o ∧ YieldsIf P ops S o v a ∧ t.wp P ops Q S (a.put o.dst v) w
  | .one i t, a, w => wpOp P ops Q i (fun a' w' => S w' ∧ t.wp P ops Q S a' w') a w
  | .two i j s t, a, w => wpOp P ops Q i (fun a' w' => S w' ∧ s.wp P ops Q S a' w') a w ∧ wpOp P ops Q j (fun a' w' => S w' ∧ t.wp P ops Q S a' w') a w
section
variable {P : Program} {ops : Array Oper} {Q : Exit → Act → World → Prop} {S : World → Prop} {i : Nat} {o : Oper} {d : Option Tmp} {v : Value} {a : Act} {w w' : World} {K : Act → World → Prop} {t : Tr}
theorem at_op (ho : ops[i]? = some o) (hd : o.dst = d) (hw : Region.wanted o (yielded ops a.tmps) = true) (hr : (execOp a.eval o).run P w = .ok (.value v) w') (h : K (a.put d v) w') : wpOp P ops Q i K a w := by
  unfold wpOp
  rw [ho]
  show if Region.wanted o (yielded ops a.tmps) = true then _ else _
  rw [if_pos hw]
  refine .inl ?_
  unfold Oper.wp
  rw [hr, Oper.upon_value, hd]
  exact h
theorem at_wp (ho : ops[i]? = some o) (hw : Region.wanted o (yielded ops a.tmps) = true) (h : o.wp P a w K Q) : wpOp P ops Q i K a w := by
  unfold wpOp
  rw [ho]
  show if Region.wanted o (yielded ops a.tmps) = true then _ else _
  rw [if_pos hw]
  exact .inl h
end
end Go.Proofs.YtgeacocdnenhdaaDoor

/-
  Two arrays of bytes compared; a step of a region by what it yields.
-/
namespace Go.Proofs.YtgeacocdnenhdaaDoor
open Go.RowKit Go.Proofs.ShaWords
theorem wpList_run {P : Program} {ops : Array Oper} {rest : List Oper} {o : Oper} {a : Act} {w : World} {Q : Exit → Act → World → Prop} {v : Value} (hw : Region.wanted o (yielded ops a.tmps) = true) (hr : (execOp a.eval o).run P w = .ok (.value v) w)
    (h : wpList P ops Q rest (a.put o.dst v) w) : wpList P ops Q (o :: rest) a w := by
  unfold wpList
  rw [if_pos hw]
  refine .inl ?_
  unfold Oper.wp
  rw [hr, Oper.upon_value]
  exact h
theorem bytesV_cell (l : List (BitVec 8)) : bytesV l = (l.map UInt8.ofBitVec).map Go.Extern.Stop.cell := by
  simp [bytesV, Go.Extern.Stop.cell, n8, UInt8.toNat]
theorem run_eqArr {ρ : Operand → Value} {o : Oper} {x y : Operand} {T ty : TypeId} {N : Nat} {l m : List (BitVec 8)} (ho : o.op = .binOp .eql T x y ty) (hT : Tryd.prog.underlying T = some (.array N 5)) (hg : Tryd.prog.eqGuardType Tryd.prog.depth T = false)
    (hl : l.length = N) (hm : m.length = N) (hx : ρ x = .agg (bytesV l).toArray) (hy : ρ y = .agg (bytesV m).toArray) (w : World) :
    (execOp ρ o).run Tryd.prog w = .ok (.value (.bool (decide (l = m)))) w := by
  have h := run_eql_bytes (P := Tryd.prog) w T 5 N hT Tryd.underlying5 (fun w => by kernel_rfl) (l.map UInt8.ofBitVec) (m.map UInt8.ofBitVec) (by simpa using hl) (by simpa using hm)
  rw [← bytesV_cell, ← bytesV_cell] at h
  have e : (l.map UInt8.ofBitVec == m.map UInt8.ofBitVec) = decide (l = m) := by
    rw [Bool.eq_iff_iff]
    simp only [beq_iff_eq, decide_eq_true_eq]
    exact List.map_inj_right (fun a b e => by simpa using congrArg UInt8.toBitVec e)
  rw [e] at h
  unfold execOp
  simp only [ho, hx, hy, Sem.run_bind, run_eqGuard_agg w .eql T x y _ _ hg, Result.andThen_ok, h, Sem.run_pure]
theorem run_loadArr {ρ : Operand → Value} {o : Oper} {x : Operand} {w : World} {T : TypeId} {N b off : Nat} {l : List (BitVec 8)} (ho : o.op = .load T x) (hx : ρ x = .pointer (some ⟨b, off, none⟩)) (hT : Tryd.prog.underlying T = some (.array N 5)) (hi : (Tryd.prog.info? T).map (·.size) = some (bytesV l).length) (hr : w.rangeAt b off (bytesV l)) :
    (execOp ρ o).run Tryd.prog w = .ok (.value (.agg (bytesV l).toArray)) w := by
  have h := run_loadAt_mid (P := Tryd.prog) w b off T (bytesV l) _ hr hT rfl hi
  unfold execOp
  simp only [ho, hx, Sem.run_bind, h, Result.andThen_ok, Sem.run_pure]
end Go.Proofs.YtgeacocdnenhdaaDoor

/-
  Slices of structs, of one's own: a slice of one struct, and one more behind such a slice.
-/
namespace Go.Proofs.YtgeacocdnenhdaaDoor
open Go.RowKit Go.Proofs.ShaWords
/-- A struct type of N cells and Z bytes, and the slices of it. -/
structure ElemT (tr ts : TypeId) (N Z : Nat) : Prop where
  sl : Tryd.prog.underlying ts = some (.slice tr)
  info : ∃ i z, Tryd.prog.info? tr = some i ∧ i.zero = some z ∧ i.size = N ∧ z.cells.size = N ∧ i.bytes = Z
  pos : 0 < N
  few : N ≤ 1000 ∧ Z ≤ 10000
theorem elemInfo {tr : TypeId} {N Z : Nat} (h1 : (Tryd.prog.info? tr).isSome = true) (h2 : (Tryd.prog.info? tr).map (fun i => (i.zero.map (·.cells.size), i.size, i.bytes)) = some (some N, N, Z)) : ∃ i z, Tryd.prog.info? tr = some i ∧ i.zero = some z ∧ i.size = N ∧ z.cells.size = N ∧ i.bytes = Z := by
  cases hi : Tryd.prog.info? tr with
  | none => rw [hi] at h1; cases h1
  | some i =>
    rw [hi] at h2
    simp only [Option.map_some, Option.some.injEq, Prod.mk.injEq] at h2
    cases hz : i.zero with
    | none => rw [hz] at h2; simp at h2
    | some z =>
      rw [hz] at h2
      simp only [Option.map_some, Option.some.injEq] at h2
      exact ⟨i, z, rfl, hz, h2.2.1, h2.1, h2.2.2⟩
section
variable {tr ts : TypeId} {N Z : Nat} {ρ : Operand → Value} {o : Oper} {w : World}
theorem ElemT.run_one (T : ElemT tr ts N Z) {x : Operand} {C : Array Value} (ho : o.op = .buildSlice ts 1 #[(0, x)]) (hx : ρ x = .agg C) (hC : C.size = N) (w : World) :
    (execOp ρ o).run Tryd.prog w = .ok (.value (.slice (some ⟨w.heap.size, 0, none⟩) 1 1)) (w.alloc (.cells C tr)) := by
  obtain ⟨i, z, hi, hz, hs, hzs, -⟩ := T.info
  have hN := T.few
  have hca : (Value.agg C).cells = C := rfl
  have hf : Instr.fill (fun j => some (j * i.size, i.size)) ((Array.range (1 * i.size)).map (z.cells[· % z.cells.size]!)) [(0, .agg C)] = some C := by
    have h := fill_seq (fun j => some (j * i.size, i.size)) [.agg C] 0 [] ((Array.range (1 * i.size)).map (z.cells[· % z.cells.size]!)).toList [] (by simp [Fits, hca, hC, hs]) (by simp [hca, hC, hs])
    rw [List.nil_append, List.append_nil, Array.toArray_toList] at h
    exact h.trans (by simp [hca])
  have hr := run_buildSlice (P := Tryd.prog) w ts tr 1 #[(0, .agg C)] C i z T.sl hi hz (by rw [hs, Nat.one_mul]; omega) (by rw [hs, Nat.one_mul]; have := T.pos; omega) hf
  obtain ⟨dst, op, ty', pos, after, guard⟩ := o
  simp only at ho
  subst ho
  unfold execOp
  simp only [List.map_toArray, List.map_cons, List.map_nil, hx, Sem.run_bind, hr, Result.andThen_ok, Sem.run_pure]
theorem ElemT.run_append (T : ElemT tr ts N Z) {s x : Operand} {base g n : Nat} {v : Value} {xs : List Value} {C : Array Value} (ho : o.op = .call { callee := .builtin .append, args := #[s, x], argTypes := #[ts, ts] }) (hs : ρ s = v) (hown : w.ownsRow base tr N v n xs)
    (hx : ρ x = .slice (some ⟨g, 0, none⟩) 1 1) (hc : w.heap[g]? = some (.cells C tr (0, 0))) (hC : C.size = N) (h1 : ∀ u ∈ C.toList, u.oneCell' = true) (hn : n ≤ 1000000) (hb : base ≤ w.heap.size) :
    ∃ v' w', (execOp ρ o).run Tryd.prog w = .ok (.value v') w' ∧ w'.ownsRow base tr N v' (n + 1) (xs ++ C.toList) ∧ w.grownBy w' v.ownBlock ∧ (v'.ownBlock = v.ownBlock ∨ v'.ownBlock = some w.heap.size) := by
  obtain ⟨it, z, hit, hz, hsz, hzs, hby⟩ := T.info
  have hN := T.few
  have hN1 := T.pos
  obtain ⟨dst, op, ty', pos, after, guard⟩ := o
  simp only at ho
  subst ho
  have hbd : (n + 1) * Z ≤ 1000001 * 10000 := Nat.mul_le_mul (by omega) hN.2
  obtain ⟨v', w', hr, h2, h3, -, h5⟩ := run_append_own_at (P := Tryd.prog) (w := w) base ts ty' tr it z N Z T.sl hit hz hsz hby hzs (by omega) v n xs hown ⟨g, 0, none⟩ 1 1 C.toList (by rw [Array.length_toList, hC, Nat.one_mul]) (fun j u hu => by
    rw [Addr.add_mid, Nat.zero_add, cell_of_row w g j C tr (0, 0) hc]
    simpa using hu) h1 (by unfold maxLen; omega) (by omega) hb
  refine ⟨v', w', ?_, h2, h3, h5⟩
  unfold execOp
  simp only [resolve, invoke, builtin, Sem.run_bind, Sem.run_pure, Result.andThen_ok, List.map_toArray, List.map_cons, List.map_nil, hs, hx, hr]
theorem ElemT.wpList_append (T : ElemT tr ts N Z) {ops : Array Oper} {rest : List Oper} {a : Act} {Q : Exit → Act → World → Prop} (hw : Region.wanted o (yielded ops a.tmps) = true) {s x : Operand} {base g n : Nat} {v : Value} {xs : List Value} {C : Array Value} (ho : o.op = .call { callee := .builtin .append, args := #[s, x], argTypes := #[ts, ts] }) (hs : a.eval s = v) (hown : w.ownsRow base tr N v n xs)
    (hx : a.eval x = .slice (some ⟨g, 0, none⟩) 1 1) (hc : w.heap[g]? = some (.cells C tr (0, 0))) (hC : C.size = N) (h1 : ∀ u ∈ C.toList, u.oneCell' = true) (hn : n ≤ 1000000) (hb : base ≤ w.heap.size)
    (h : ∀ v' w', w'.ownsRow base tr N v' (n + 1) (xs ++ C.toList) → w.grownBy w' v.ownBlock → (v'.ownBlock = v.ownBlock ∨ v'.ownBlock = some w.heap.size) → wpList Tryd.prog ops Q rest (a.put o.dst v') w') : wpList Tryd.prog ops Q (o :: rest) a w := by
  obtain ⟨v', w', hr, h2, h3, h4⟩ := T.run_append (ρ := a.eval) ho hs hown hx hc hC h1 hn hb
  unfold wpList
  rw [if_pos hw]
  refine .inl ?_
  unfold Oper.wp
  rw [hr, Oper.upon_value]
  exact h v' w' h2 h3 h4
end
end Go.Proofs.YtgeacocdnenhdaaDoor

/-
  A range over a function whose iterator keeps state of its own in cells: a law for the caller, and the two words that the caller and the iterator give one another. (A loop that runs to its end: no break, no return out of a round.)
-/
namespace Go.Proofs.YtgeacocdnenhdaaDoor
open Go.RowKit Go.Proofs.ShaWords

/-- Whatever lay, but for the blocks T, lies as it lay. -/
structure Spares (T : Nat → Prop) (w w' : World) : Prop where
  os : w'.os = w.os
  tape : w'.tape = w.tape
  output : w'.output = w.output
  size : w.heap.size ≤ w'.heap.size
  block : ∀ k, k < w.heap.size → ¬ T k → w'.heap[k]? = w.heap[k]?
theorem Spares.refl (T : Nat → Prop) (w : World) : Spares T w w := ⟨rfl, rfl, rfl, Nat.le_refl _, fun _ _ _ => rfl⟩
theorem Spares.trans {T : Nat → Prop} {a b c : World} (h : Spares T a b) (k : Spares T b c) : Spares T a c :=
  ⟨k.os.trans h.os, k.tape.trans h.tape, k.output.trans h.output, Nat.le_trans h.size k.size, fun i hi hn => (k.block i (Nat.lt_of_lt_of_le hi h.size) hn).trans (h.block i hi hn)⟩
theorem Spares.mono {T T' : Nat → Prop} {a b : World} (h : Spares T a b) (ht : ∀ k, k < a.heap.size → T k → T' k) : Spares T' a b :=
  ⟨h.os, h.tape, h.output, h.size, fun i hi hn => h.block i hi (fun t => hn (ht i hi t))⟩
theorem Spares.of_below {T : Nat → Prop} {a b : World} {B : Nat} (h : Below B a b) (hB : ∀ k, B ≤ k → k < a.heap.size → T k) : Spares T a b :=
  ⟨h.os, h.tape, h.output, h.size, fun i hi hn => h.block i (Nat.lt_of_not_le fun hl => hn (hB i hl hi))⟩
theorem Spares.all {T : Nat → Prop} {a b : World} (h : Below a.heap.size a b) : Spares T a b := Spares.of_below h (fun k h1 h2 => by omega)
theorem Spares.grown {T : Nat → Prop} {a b : World} {r : Nat} (h : a.grownBy b (some r)) (hr : T r) : Spares T a b :=
  ⟨h.os, h.tape, h.output, h.size, fun i hi hn => h.block i hi (fun e => hn (by rw [Option.some.inj e]; exact hr))⟩
theorem Spares.below {T : Nat → Prop} {a b : World} {B : Nat} (h : Spares T a b) (hB : B ≤ a.heap.size) (hT : ∀ k, k < B → ¬ T k) : Below B a b :=
  ⟨h.os, h.tape, h.output, h.size, fun i hi => h.block i (by omega) (hT i hi)⟩
end Go.Proofs.YtgeacocdnenhdaaDoor

/-
  A range over a function whose iterator makes what it gives (values in new memory) and keeps its place in a cell that was there: a law for the caller, and the iterator's word.
-/
namespace Go.Proofs.YtgeacocdnenhdaaDoor
open Go.RowKit Go.Proofs.ShaWords
theorem Spares.none {T : Nat → Prop} {a b : World} (h : Spares (fun _ => False) a b) : Spares T a b := h.mono (fun _ _ f => f.elim)
theorem spares_putObj (W : World) (l : Nat) (o : Obj) : Spares (fun b => b = l) W (W.putObj l o) := ⟨rfl, rfl, rfl, by simp, fun _ _ hn => World.putObj_heap_other (fun e => hn e)⟩
/-- The iterator's word: enc says what it gives in round k (made between two worlds); G: its place; T: what rounds may change. -/
def GivesV (P : Program) (gf : Nat) (lb : Array Value) (enc : Nat → World → World → Array Value → Prop) (N : Nat) (G T : Nat → Prop) (m : Nat) (w : World) : Prop :=
  ∀ (l : Nat) (J : Nat → World → Prop) (W : World), Below w.heap.size w W → w.heap.size ≤ l → l < W.heap.size → (∀ k A A', J k A → Spares G A A' → J k A') →
    (∀ k A0 A vs, k < N → J k A0 → W.heap.size ≤ A0.heap.size → Spares G A0 A → enc k A0 A vs → YieldAt Fence.wide m P l vs A fun e A' => e = .returned (.bool true) ∧ J (k + 1) A' ∧ Spares (fun b => T b ∨ b = l) A A') → J 0 W →
    Calls P gf (#[.func (.yield l) #[] #[]] ++ lb) W fun e W' => (∃ v, e = .returned v) ∧ J N W' ∧ Spares (fun b => T b ∨ b = l ∨ G b) W W'

theorem wpIn_rangeVals {P : Program} {m : Nat} {g : Operand} {ps : Array Tmp} {assign body : Code} {Q : Exit → Act → World → Prop} {a : Act} {w : World}
    {gf : Nat} {lb : Array Value} (hg : a.eval g = .func (.func gf) #[] lb) (eg : ∀ args w, (callFunc gf args).run P w = .ok (.enter gf args) w)
    {enc : Nat → World → World → Array Value → Prop} {N : Nat} {G T : Nat → Prop} (hG : ∀ b, G b → b < w.heap.size) (hT : ∀ b, T b → b ≠ w.heap.size ∧ b ≠ w.heap.size + 1) (hit : GivesV P gf lb enc N G T m w)
    (hps : ∀ k A0 A vs, enc k A0 A vs → vs.size = ps.size)
    (I : Nat → World → Prop) (hI : ∀ k A A', I k A → Spares (fun b => G b ∨ b = w.heap.size ∨ b = w.heap.size + 1) A A' → I k A') (h0 : I 0 w)
    (R : Nat → World → Act → World → Prop) (hR : ∀ k A0 a' A A', R k A0 a' A → w.heap.size + 2 ≤ A0.heap.size → Spares (fun b => b = w.heap.size + 1) A A' → R k A0 a' A')
    (hassign : ∀ k A0 A vs (K : Act → World → Prop), k < N → I k A0 → w.heap.size + 2 ≤ A0.heap.size → Spares G A0 A → enc k A0 A vs → (∀ a' A', Spares (fun _ => False) A A' → R k A0 a' A' → K a' A') →
      assign.wpIn (Fence.wide.inRound (w.heap.size + 1)) m P (Exit.then K (fun _ _ _ => False)) { tmps := (ps.zip vs).foldl (fun t (p, v) => t.setIfInBounds p v) a.tmps, defers := [] } A)
    (hbody : ∀ k A0 a' A, k < N → I k A0 → w.heap.size + 2 ≤ A0.heap.size → R k A0 a' A → body.wpIn (Fence.wide.inRound (w.heap.size + 1)) m P (fun e _ A' => e = .normal ∧ I (k + 1) A' ∧ Spares T A A') a' A)
    (hdone : ∀ (W : World), I N W → Spares (fun b => T b ∨ G b) w W → W.heap[w.heap.size]? = some (.deferred (some [])) → Q .normal { a with defers := { target := .collected w.heap.size, args := #[] } :: a.defers } W) :
    (Code.rangeFunc g ps assign body).wpIn Fence.wide m P Q a w := by
  refine wpIn_rangeFunc ?_
  intro fn hfn
  obtain ⟨rec, hrec⟩ : ∃ rec : LoopState → Option Code → Loop, rec = fun st pe => { state := st, pending := pe, fn, tmps := a.tmps, params := ps, assign, body, defers := w.heap.size } := ⟨_, rfl⟩
  obtain ⟨W1, hW1⟩ : ∃ W1, (w.alloc (.deferred (some []))).alloc (.loop (rec .ready none)) = W1 := ⟨_, rfl⟩
  have hs1 : W1.heap.size = w.heap.size + 2 := by rw [← hW1, size_alloc, size_alloc]
  have hl1 : W1.heap[w.heap.size + 1]? = some (.loop (rec .ready none)) := by rw [← hW1]; exact heap_new_at (size_alloc _ _)
  have hd1 : W1.heap[w.heap.size]? = some (.deferred (some [])) := by rw [← hW1, Below.heap_alloc _ _ _ (by rw [size_alloc]; omega)]; exact heap_new_at rfl
  have hb1 : Below w.heap.size w W1 := by rw [← hW1]; exact ((Below.refl _ w).alloc (Nat.le_refl _) _).alloc (by rw [size_alloc]; omega) _
  refine ⟨w.heap.size + 1, [{ target := .collected w.heap.size, args := #[] }], W1, { target := .fn (.func gf) lb, args := #[.func (.yield (w.heap.size + 1)) #[] #[]] }, W1, gf,
    #[.func (.yield (w.heap.size + 1)) #[] #[]] ++ lb, W1, ?_, ?_, fun _ _ => trivial, ?_, fun h => by simp [Fence.wide] at h, ?_⟩
  · rw [← hW1, hrec]; exact run_enterLoop_outer _ _ _ _ _
  · simp only [resolve, hg]
    simp [go_sem]
  · simp [invoke, go_sem, eg]
  refine callsIn_wide.2 ((hit (w.heap.size + 1)
    (fun k W => I k W ∧ W.heap[w.heap.size + 1]? = some (.loop (rec .ready none)) ∧ W.heap[w.heap.size]? = some (.deferred (some [])))
    W1 hb1 (by omega) (by omega) (fun k A A' hA hAA => ⟨hI k A A' hA.1 (hAA.mono fun _ _ h => .inl h),
      (hAA.block _ (Array.getElem?_eq_some_iff.1 hA.2.1).1 (fun h => by have := hG _ h; omega)).trans hA.2.1,
      (hAA.block _ (Array.getElem?_eq_some_iff.1 hA.2.2).1 (fun h => by have := hG _ h; omega)).trans hA.2.2⟩) ?_
    ⟨hI 0 w W1 h0 (Spares.none (Spares.all hb1)), hl1, hd1⟩).mono ?_)
  · rintro k A0 A vs hk ⟨hi, hl0, hd0⟩ hsz hsp he
    have hsz2 : w.heap.size + 2 ≤ A0.heap.size := by omega
    have hl : A.heap[w.heap.size + 1]? = some (.loop (rec .ready none)) := (hsp.block _ (by omega) (fun h => by have := hG _ h; omega)).trans hl0
    have hd : A.heap[w.heap.size]? = some (.deferred (some [])) := (hsp.block _ (by omega) (fun h => by have := hG _ h; omega)).trans hd0
    have hy := run_yield (P := P) (args := vs) hl (by rw [hrec]; exact hps _ _ _ _ he)
    rw [hrec] at hy
    refine ⟨fn, _, assign, body, hy, roundIn_of_wpIn hfn (hassign k A0 A vs _ hk hi hsz2 hsp he ?_)⟩
    intro a' A2 hs2 hr2
    have hlA : A2.heap[w.heap.size + 1]? = some (.loop (rec .ready none)) := (hs2.block _ (Array.getElem?_eq_some_iff.1 hl).1 id).trans hl
    have hdA : A2.heap[w.heap.size]? = some (.deferred (some [])) := (hs2.block _ (Array.getElem?_eq_some_iff.1 hd).1 id).trans hd
    have hlt : w.heap.size + 1 < A2.heap.size := (Array.getElem?_eq_some_iff.1 hlA).1
    refine ⟨_, run_beginRound hlA (by rw [hrec]), ?_⟩
    have hl2 : (A2.putObj (w.heap.size + 1) (.loop { rec .ready none with state := .busy })).heap[w.heap.size + 1]? = some (.loop { rec .ready none with state := .busy }) := World.putObj_heap_same hlt
    refine wpIn_mono (hbody k A0 a' _ hk hi hsz2 (hR _ _ _ _ _ hr2 hsz2 (spares_putObj A2 _ _))) ?_
    rintro e a3 W3 ⟨rfl, hi3, hsp3⟩
    have hl3 : W3.heap[w.heap.size + 1]? = some (.loop { rec .ready none with state := .busy }) := (hsp3.block _ (by simpa using hlt) (fun h => (hT _ h).2 rfl)).trans hl2
    have hd3 : W3.heap[w.heap.size]? = some (.deferred (some [])) := (hsp3.block _ (by simp; omega) (fun h => (hT _ h).1 rfl)).trans ((World.putObj_heap_other (by omega)).trans hdA)
    have hr := run_endRound (P := P) none hl3
    rw [hrec] at hr
    have hp : ∀ (X : World) (o : Obj), Spares (fun b => T b ∨ b = w.heap.size + 1) X (X.putObj (w.heap.size + 1) o) := fun X o => (spares_putObj X _ o).mono fun _ _ h => .inr h
    refine ⟨_, _, hr, rfl, ⟨hI _ _ _ hi3 ((spares_putObj W3 _ _).mono fun _ _ h => .inr (.inr h)), ?_, (World.putObj_heap_other (by omega)).trans hd3⟩, (((Spares.none hs2).trans (hp A2 _)).trans (hsp3.mono fun _ _ h => .inl h)).trans (hp W3 _)⟩
    rw [World.putObj_heap_same (Array.getElem?_eq_some_iff.1 hl3).1, hrec]
    rfl
  · rintro e W2 ⟨⟨v, rfl⟩, ⟨hi, hl, hd⟩, hsp⟩
    have hr := run_endLoop (P := P) hl (by rw [hrec]; simp)
    rw [hrec] at hr
    refine ⟨none, _, hr, hdone _ (hI _ _ _ hi ((spares_putObj W2 _ _).mono fun _ _ h => .inr (.inr h))) ?_ ((World.putObj_heap_other (by omega)).trans hd)⟩
    exact ⟨hsp.os.trans hb1.os, hsp.tape.trans hb1.tape, hsp.output.trans hb1.output, by have := hsp.size; simp; omega, fun i hi hn =>
      (World.putObj_heap_other (by omega)).trans ((hsp.block i (by omega) (fun h => h.elim (fun t => hn (.inl t)) (fun h => h.elim (fun e => by omega) (fun g => hn (.inr g))))).trans (hb1.block i hi))⟩
end Go.Proofs.YtgeacocdnenhdaaDoor

/-
  Single operations on slices of bytes: a slice loaded, an element's address, a byte loaded, stored, combined.
-/
namespace Go.Proofs.YtgeacocdnenhdaaDoor
open Go.RowKit Go.Proofs.ShaWords
theorem eval_none (a : Act) (v : Value) (t : Nat) : (a.put none v).eval (.tmp t) = a.eval (.tmp t) := rfl
section
variable {ρ : Operand → Value} {o : Oper} {x y : Operand} {w : World}
end
end Go.Proofs.YtgeacocdnenhdaaDoor

/-
  Operations about an append of bytes in a region that draws its order: a slice built of one byte, of four; the append itself; words read, shifted, cut to bytes.
-/
namespace Go.Proofs.YtgeacocdnenhdaaDoor
open Go.RowKit Go.Proofs.ShaWords
attribute [local go_sem] and32 or32 xor32 add32 shl32 shr32 wrap32_n8 wrap8_n32

section
variable {ρ : Operand → Value} {o : Oper} {x y : Operand} {w : World}
end
end Go.Proofs.YtgeacocdnenhdaaDoor

/- The kit's SpoilBytes: it writes over a slice of the call's own, and nothing else (function 15). -/
namespace Go.Proofs.YtgeacocdnenhdaaDoor
open Go.RowKit Go.Proofs.ShaWords
end Go.Proofs.YtgeacocdnenhdaaDoor

/- The kit's Pick: some number below its bound. -/
namespace Go.Proofs.YtgeacocdnenhdaaDoor
open Go.RowKit Go.Proofs.ShaWords

end Go.Proofs.YtgeacocdnenhdaaDoor
