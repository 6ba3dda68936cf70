/-
  What every layer leans on: bytes and words in memory; blocks that hold bytes; loads, stores, copies and makes of whole rows; a region that draws its order, carried out along one list of its operations; calls.
-/
import Derived.Test.YtagkkihnfipfeaaDoorProg
import Derived.Test.YtagkkihnfipfeaaDoorWords
import Derived.WalkSpells
import Derived.Lib.Hide
import Derived.StillTailTactics
import Derived.IntWalk
import Derived.Laws.CopyOwn
import Derived.Laws.Rows
import Derived.Deep.QuietTactic
import Derived.BigQuiet
import Derived.Deep.RegionHeld3
import Derived.Deep.DeepFit
import Derived.Lib.SlBytesConst
import Derived.Laws.OwnMore
namespace Go.Proofs.YtagkkihnfipfeaaDoor
open Go.RowKit Go.Proofs.ShaWords

def bytesV (l : List (BitVec 8)) : List Value := l.map fun b => .int .u8 (n8 b)
def wordsV (l : List (BitVec 32)) : List Value := l.map fun x => .int .u32 (n32 x)
theorem cell_bytesV {w : World} {g j : Nat} {l : List (BitVec 8)} {t : TypeId} {fr : Nat × Nat} (h : w.heap[g]? = some (.cells (bytesV l).toArray t fr)) (hj : j < l.length) : w.cell? ⟨g, j, none⟩ = some (.int .u8 (n8 l[j])) := by
  rw [cell_of_row w g j _ t fr h]; simp [bytesV, hj]
theorem cell_wordsV {w : World} {g j : Nat} {l : List (BitVec 32)} {t : TypeId} {fr : Nat × Nat} (h : w.heap[g]? = some (.cells (wordsV l).toArray t fr)) (hj : j < l.length) : w.cell? ⟨g, j, none⟩ = some (.int .u32 (n32 l[j])) := by
  rw [cell_of_row w g j _ t fr h]; simp [wordsV, hj]
theorem wordsV_set (l : List (BitVec 32)) (k : Nat) (x : BitVec 32) : (wordsV l).toArray.setIfInBounds k (.int .u32 (n32 x)) = (wordsV (l.set k x)).toArray := by
  simp [wordsV, List.map_set]
theorem wordsV_one (l : List (BitVec 32)) : (wordsV l).toArray.all (·.oneCell') = true :=
  Array.all_eq_true_iff_forall_mem.2 fun v hv => by
    simp only [wordsV, List.mem_toArray, List.mem_map] at hv
    obtain ⟨x, _, rfl⟩ := hv
    rfl
theorem bytesV_one (l : List (BitVec 8)) : (bytesV l).toArray.all (·.oneCell') = true :=
  Array.all_eq_true_iff_forall_mem.2 fun v hv => by
    simp only [bytesV, List.mem_toArray, List.mem_map] at hv
    obtain ⟨x, _, rfl⟩ := hv
    rfl
theorem region_tail {P : Program} {id : Nat} {Q : Exit → Act → World → Prop} {a : Act} {w : World} {l : List Oper} (n : Nat) (hm : P.follows .mixedOrders = true) (hB : Region.lexTailB .any l.toArray n = true)
    (h : wpStill P l.toArray w.drew (fun a' => wpList P l.toArray Q (l.drop n) a' w.drew) (l.take n) a) : (Code.region id l.toArray true).wp P Q a w :=
  wp_region_still_tail n hm hB h
theorem heap_new_at {w : World} {o : Obj} {n : Nat} (h : w.heap.size = n) : (w.alloc o).heap[n]? = some o := by
  subst h; exact _root_.Go.heap_alloc_new w o
theorem size_alloc (w : World) (o : Obj) : (w.alloc o).heap.size = w.heap.size + 1 := by simp
theorem bytesV_size (l : List (BitVec 8)) (n : Nat) (h : l.length = n) : (bytesV l).toArray.size = n := by simp [bytesV, h]
theorem wordsV_size (l : List (BitVec 32)) (n : Nat) (h : l.length = n) : (wordsV l).toArray.size = n := by simp [wordsV, h]
theorem wp_gen {P : Program} {c : Code} {Q : Exit → Act → World → Prop} {a : Act} {w : World} (F : World → Prop) (hF : F w) (h : ∀ w, F w → Code.wp P c Q a w) : Code.wp P c Q a w := h w hF
theorem alloc3_1 (w : World) (a b c : Obj) : (((w.alloc a).alloc b).alloc c).heap[w.heap.size]? = some a := by
  rw [Below.heap_alloc _ _ _ (by rw [size_alloc, size_alloc]; omega), Below.heap_alloc _ _ _ (by rw [size_alloc]; omega)]; exact heap_new_at rfl
theorem alloc3_2 (w : World) (a b c : Obj) : (((w.alloc a).alloc b).alloc c).heap[w.heap.size + 1]? = some b := by
  rw [Below.heap_alloc _ _ _ (by rw [size_alloc, size_alloc]; omega)]; exact heap_new_at (by rw [size_alloc])
theorem alloc3_3 (w : World) (a b c : Obj) : (((w.alloc a).alloc b).alloc c).heap[w.heap.size + 1 + 1]? = some c := 
  heap_new_at (by rw [size_alloc, size_alloc])
theorem alloc3_below (w : World) (a b c : Obj) : Below w.heap.size w (((w.alloc a).alloc b).alloc c) :=
  (((Below.refl _ _).alloc (Nat.le_refl _) _).alloc (by rw [size_alloc]; omega) _).alloc (by rw [size_alloc, size_alloc]; omega) _
theorem info5 : (Tryd.prog.info? 5).map (fun i => (i.zero, i.size, i.bytes)) = some (some (.int .u8 0), 1, 1) := by kernel_rfl
/-- A make of whatever length and capacity: the new row known whole. -/
theorem wpList_make_any {P : Program} {w : World} {ops : Array Oper} {rest : List Oper} {o : Oper} {a : Act} {Q : Exit → Act → World → Prop}
    (hg : o.guard = none) (l c : Operand) (t : TypeId) (hop : o.op = Op.makeSlice t l c)
    (e : TypeId) (i : TypeInfo) (z : Value) (h1 : P.underlying t = some (.slice e)) (h2 : P.info? e = some i) (h3 : i.zero = some z) (h4 : i.size = 1) (h5 : i.bytes = 1)
    (kl kc : IntKind) (L C : Int) (ln cn : Nat) (hl : a.eval l = .int kl L) (hc : a.eval c = .int kc C) (hL : L = (ln : Int)) (hC : C = (cn : Int)) (hle : ln ≤ cn) (b2 : cn ≤ 281474976710656)
    (X : Array Value) (hX : madeCells z.cells cn = X)
    (hK : ∀ w', w'.heap[w.heap.size]? = some (.cells X e (0, 0)) → Below w.heap.size w w' → wpList P ops Q rest (a.put o.dst (.slice (some ⟨w.heap.size, 0, none⟩) ln cn)) w') :
    wpList P ops Q (o :: rest) a w := by
  refine wpList_plain hg fun K hK' => ?_
  subst hL hC
  have hrun := run_make (P := P) w t e i z h1 h2 h3 kl kc (ln : Int) (cn : Int) (by omega) (by omega) (by rw [h5]; omega) (by omega)
  rw [h4, Nat.mul_one] at hrun
  simp only [Int.toNat_natCast] at hrun
  rw [hX] at hrun
  unfold Oper.wp
  simp [execOp, hop, hl, hc, hrun, Result.andThen]
  exact hK' _ _ (hK _ (heap_new_at rfl) ((Below.refl _ _).alloc (Nat.le_refl _) _))
theorem made_noughts (c : Nat) : madeCells #[Value.int .u8 0] c = (bytesV (List.replicate c 0#8)).toArray := by
  apply Array.ext'
  rw [toList_madeCells_one]
  simp only [bytesV, List.map_replicate]
  rfl
theorem bytesV_set (l : List (BitVec 8)) (k : Nat) (x : BitVec 8) : (bytesV l).toArray.setIfInBounds k (.int .u8 (n8 x)) = (bytesV (l.set k x)).toArray := by
  simp [bytesV, List.map_set]
theorem splice_cons {α : Type} (L : List α) (o : Nat) (b : α) (r : List α) (h : o + (r.length + 1) ≤ L.length) : splice L o (b :: r) = splice (L.set o b) (o + 1) r := by
  unfold splice
  have e : (L.set o b).take (o + 1) = L.take o ++ [b] := by
    rw [List.take_succ_eq_append_getElem (by simp; omega), List.getElem_set_self, List.take_set_of_le (Nat.le_refl _)]
  rw [e, List.drop_set_of_lt (by omega)]
  simp only [List.length_cons, List.append_assoc, List.cons_append, List.nil_append]
  rw [show o + (r.length + 1) = o + 1 + r.length by omega]
theorem splice_nil {α : Type} (L : List α) (o : Nat) : splice L o [] = L := by simp [splice]
theorem wordsV_length (l : List (BitVec 32)) : (wordsV l).length = l.length := by simp [wordsV]
theorem bytesV_length (l : List (BitVec 8)) : (bytesV l).length = l.length := by simp [bytesV]
/-- Bytes that a slice's address leads to, in a block other than g. -/
def Reads (w : World) (g : Nat) (p : Option Addr) (bs : List (BitVec 8)) : Prop :=
  bs = [] ∨ ∃ b off, p = some ⟨b, off, none⟩ ∧ b ≠ g ∧ w.rangeAt b off (bytesV bs)
theorem wordsV_append (a b : List (BitVec 32)) : wordsV (a ++ b) = wordsV a ++ wordsV b := List.map_append
theorem bytesV_append (a b : List (BitVec 8)) : bytesV (a ++ b) = bytesV a ++ bytesV b := List.map_append
theorem bytesV_take (l : List (BitVec 8)) (k : Nat) : bytesV (l.take k) = (bytesV l).take k := List.map_take
theorem bytesV_drop (l : List (BitVec 8)) (k : Nat) : bytesV (l.drop k) = (bytesV l).drop k := List.map_drop
theorem bytesV_mem {l : List (BitVec 8)} {v : Value} (h : v ∈ bytesV l) : v.oneCell' = true := by
  simp only [bytesV, List.mem_map] at h; obtain ⟨x, _, rfl⟩ := h; rfl
theorem wordsV_mem {l : List (BitVec 32)} {v : Value} (h : v ∈ wordsV l) : v.oneCell' = true := by
  simp only [wordsV, List.mem_map] at h; obtain ⟨x, _, rfl⟩ := h; rfl
theorem grown_setCell (w : World) (g j : Nat) (v : Value) : w.grownBy (w.setCell ⟨g, j, none⟩ v) (some g) :=
  ⟨rfl, rfl, rfl, by simp [World.setCell], fun k _ hk => heap_setCell_other _ _ _ _ (fun e => hk (by rw [e]))⟩
theorem grown_setRow (w : World) (g : Nat) (cs : Array Value) : w.grownBy (w.setRow g cs) (some g) :=
  ⟨rfl, rfl, rfl, by simp, fun k _ hk => setRow_other w g k cs (fun e => hk (by rw [e]))⟩
theorem still_load_mid {P : Program} {ops : Array Oper} {w : World} {Q : Act → Prop} {rest : List Oper} {o : Oper} {a : Act} (hgd : o.guard = none) (ty : TypeId) (x : Operand) (ho : o.op = .load ty x)
    (b off : Nat) (hx : a.eval x = .pointer (some ⟨b, off, none⟩)) (cs : List Value) (d : TypeDesc) (hc : w.rangeAt b off cs) (hu : P.underlying ty = some d) (hd : d.isRow = true)
    (hi : (P.info? ty).map (·.size) = some cs.length) (h : wpStill P ops w Q rest (a.put o.dst (.agg cs.toArray))) : wpStill P ops w Q (o :: rest) a := by
  have hw : Region.wanted o (yielded ops a.tmps) = true := by simp [Region.wanted, hgd]
  unfold wpStill
  rw [if_pos hw]
  unfold Oper.still execOp
  simp only [ho, hx, Instr.loadAt, Instr.sureAddr, Sem.run_bind, Sem.run_pure, Result.andThen_ok, run_loadVar_mid w b off ty cs d hc hu hd hi, Oper.stillUpon]
  exact ⟨trivial, h⟩
/-- Cells that are stored one behind another, seen in the whole row. -/
theorem heap_setCells (g : Nat) (t : TypeId) : ∀ (vs : List Value) (o : Nat) (cur : List Value) (w : World), w.heap[g]? = some (.cells cur.toArray t (0, 0)) → o + vs.length ≤ cur.length →
    (w.setCells g o vs).heap[g]? = some (.cells (splice cur o vs).toArray t (0, 0))
  | [], o, cur, w, h, _ => by rw [splice_nil]; exact h
  | v :: r, o, cur, w, h, hl => by
    simp only [List.length_cons] at hl
    rw [World.setCells, splice_cons _ _ _ _ hl]
    refine heap_setCells g t r (o + 1) (cur.set o v) _ ?_ (by simp; omega)
    rw [heap_setCell_same _ _ _ _ _ _ h]; simp
theorem heap_setCells_other (g k : Nat) (hk : k ≠ g) : ∀ (vs : List Value) (o : Nat) (w : World), (w.setCells g o vs).heap[k]? = w.heap[k]?
  | [], _, _ => rfl
  | v :: r, o, w => by rw [World.setCells, heap_setCells_other g k hk r, heap_setCell_other _ _ _ _ hk]
theorem size_setCells (g : Nat) : ∀ (vs : List Value) (o : Nat) (w : World), (w.setCells g o vs).heap.size = w.heap.size ∧ (w.setCells g o vs).os = w.os ∧ (w.setCells g o vs).tape = w.tape ∧ (w.setCells g o vs).output = w.output
  | [], _, _ => ⟨rfl, rfl, rfl, rfl⟩
  | v :: r, o, w => by
    rw [World.setCells]
    obtain ⟨a, b, c, d⟩ := size_setCells g r (o + 1) (w.setCell ⟨g, o, none⟩ v)
    exact ⟨a.trans (by simp [World.setCell]), b, c, d⟩
theorem grown_setCells (w : World) (g o : Nat) (vs : List Value) : w.grownBy (w.setCells g o vs) (some g) := by
  obtain ⟨a, b, c, d⟩ := size_setCells g vs o w
  exact ⟨b, c, d, by rw [a]; exact Nat.le_refl _, fun k _ hk => heap_setCells_other g k (fun e => hk (by rw [e])) vs o w⟩
theorem Reads.grown {w w' : World} {g b off : Nat} {l : List Value} (h : w.rangeAt b off l) (hb : w.grownBy w' (some g)) (hg : b ≠ g) : w'.rangeAt b off l := fun j v hv =>
  (World.cell?_of_block (a := ⟨b, off + j, none⟩) (hb.block b (World.block_lt_of_cell? w _ (h j v hv)) (fun e => hg (Option.some.inj e)))).trans (h j v hv)
theorem range_drop {w : World} {b off k : Nat} {l : List (BitVec 8)} (h : w.rangeAt b off (bytesV l)) : w.rangeAt b (off + k) (bytesV (l.drop k)) := fun j v hv => by
  rw [Nat.add_assoc]
  refine h (k + j) v ?_
  rw [bytesV_drop, List.getElem?_drop] at hv; exact hv
theorem wp_act {P : Program} {c : Code} {Q : Exit → Act → World → Prop} {a : Act} {w : World} (h : ∀ A, A = a → Code.wp P c Q A w) : Code.wp P c Q a w := h a rfl
theorem put_size (a : Act) (d : Nat) (v : Value) : (a.put (some d) v).tmps.size = a.tmps.size := by simp [Act.put]
theorem eval_same (a : Act) (d : Nat) (v : Value) (h : d < a.tmps.size) : (a.put (some d) v).eval (.tmp d) = v := by simp [Act.eval, Act.put, h]
theorem eval_other (a : Act) (d t : Nat) (v : Value) (h : d ≠ t) : (a.put (some d) v).eval (.tmp t) = a.eval (.tmp t) := Act.eval_put (fun e he hx => by cases he; cases hx; exact h rfl)
theorem run_move {P : Program} {ρ : Operand → Value} {o : Oper} {x : Operand} {v : Value} (ho : o.op = .move x) (h : ρ x = v) (w : World) : (execOp ρ o).run P w = .ok (.value v) w := by
  unfold execOp; simp only [ho, h, Sem.run_pure]
theorem run_nilCheck {P : Program} {ρ : Operand → Value} {o : Oper} {x : Operand} {p : Addr} (ho : o.op = .nilCheck x) (h : ρ x = .pointer (some p)) (w : World) :
    (execOp ρ o).run P w = .ok (.value (.pointer (some p))) w := by
  unfold execOp; simp only [ho, h, Sem.run_pure]
theorem wp_enter {P : Program} {o : Oper} {a : Act} {w : World} {K : Act → World → Prop} {Q : Exit → Act → World → Prop} {f : FuncId} {args : Array Value} {v : Value} {R : World → Prop} (hr : (execOp a.eval o).run P w = .ok (.enter f args) w)
    (hc : Calls P f args w fun e w' => e = .returned v ∧ R w') (h : ∀ w', R w' → K (a.put o.dst v) w') : o.wp P a w K Q := by
  unfold Oper.wp
  rw [hr, Oper.upon_enter]
  refine hc.mono ?_
  rintro e w' ⟨rfl, hR⟩
  exact h w' hR
theorem wanted_of {o : Oper} {ops : Array Oper} {t : Array Value} (h : o.guard = none) : Region.wanted o (yielded ops t) = true := by simp [Region.wanted, h]
theorem abs_ops {P : Program} {md : Region.Mode} {ops : Array Oper} {Q : Exit → Act → World → Prop} {f : Nat} {L : Array Bool} {a : Act} {w : World}
    (h : ∀ ops', ops' = ops → wpAny P md ops' Q f L a w) : wpAny P md ops Q f L a w := h ops rfl
theorem wpOp_of_wp {P : Program} {ops : Array Oper} {Q : Exit → Act → World → Prop} {i : Nat} {K : Act → World → Prop} {a : Act} {w : World} {o : Oper} (ho : ops[i]? = some o) (hgd : o.guard = none) (h : o.wp P a w K Q) : wpOp P ops Q i K a w := by
  unfold wpOp
  rw [ho]
  have hw : Region.wanted o (yielded ops a.tmps) = true := by simp [Region.wanted, hgd]
  show if Region.wanted o (yielded ops a.tmps) = true then _ else _
  rw [if_pos hw]; exact .inl h
theorem wpAny_one {P : Program} {md : Region.Mode} {ops : Array Oper} {Q : Exit → Act → World → Prop} {fuel : Nat} {listed : Array Bool} {a : Act} {w : World} (i : Nat) (hr : Region.ready md ops listed = [i])
    (h : wpOp P ops Q i (wpAny P md ops Q fuel (listed.setIfInBounds i true)) a w) : wpAny P md ops Q (fuel + 1) listed a w :=
  wpAny_all hr (by simp) (fun j hj => by rw [List.mem_singleton.1 hj]; exact h)
theorem wpAny_two {P : Program} {md : Region.Mode} {ops : Array Oper} {Q : Exit → Act → World → Prop} {fuel : Nat} {listed : Array Bool} {a : Act} {w : World} (i j : Nat) (hr : Region.ready md ops listed = [i, j])
    (h1 : wpOp P ops Q i (wpAny P md ops Q fuel (listed.setIfInBounds i true)) a w) (h2 : wpOp P ops Q j (wpAny P md ops Q fuel (listed.setIfInBounds j true)) a w) : wpAny P md ops Q (fuel + 1) listed a w :=
  wpAny_all hr (by simp) (fun k hk => by
    rcases List.mem_cons.1 hk with rfl | hk
    · exact h1
    · rw [List.mem_singleton.1 hk]; exact h2)
theorem grown_trans {w w1 w2 : World} {r : Option Nat} (h1 : w.grownBy w1 r) (h2 : w1.grownBy w2 r) : w.grownBy w2 r :=
  ⟨h2.os.trans h1.os, h2.tape.trans h1.tape, h2.output.trans h1.output, Nat.le_trans h1.size h2.size, fun k hk hn => (h2.block k (Nat.lt_of_lt_of_le hk h1.size) hn).trans (h1.block k hk hn)⟩
theorem grown_below {w w1 : World} {B : Nat} (hb : Below B w w1) (hB : w.heap.size ≤ B) (r : Option Nat) : w.grownBy w1 r :=
  ⟨hb.os, hb.tape, hb.output, hb.size, fun k hk _ => hb.block k (by omega)⟩
theorem wpList_build_eq {P : Program} {ops : Array Oper} {rest : List Oper} {o : Oper} {a : Act} {w : World} {Q : Exit → Act → World → Prop} (hg : o.guard = none) (t : TypeId) (parts : Array (Nat × Operand)) (ho : o.op = .build t parts)
    (cs : Array Value) (hf : P.built t (parts.map fun (i, x) => (i, a.eval x)).toList = some cs)
    (h : wpList P ops Q rest (a.put o.dst (.agg cs)) w) : wpList P ops Q (o :: rest) a w :=
  wpList_build hg t parts ho (by rw [hf]; rfl) (by rw [hf]; exact h)
/-- A whole array or struct, stored into the block that was made last. -/
theorem wpList_store_new {P : Program} {ops : Array Oper} {rest : List Oper} {o : Oper} {a : Act} {w0 : World} {old : Array Value} {t : TypeId} {Q : Exit → Act → World → Prop} (hgd : o.guard = none) (ty : TypeId) (x y : Operand) (ho : o.op = .store ty x y)
    (n : Nat) (hn : w0.heap.size = n) (cells : Array Value) (hx : a.eval x = .pointer (some ⟨n, 0, none⟩)) (hy : a.eval y = .agg cells)
    (hi : (P.info? ty).map (·.size) = some cells.size) (hold : old.size = cells.size) (h1 : cells.all (·.oneCell') = true)
    (h : ∀ w', w'.heap[n]? = some (.cells cells t (0, 0)) → Below n w0 w' → wpList P ops Q rest (a.put o.dst undef) w') : wpList P ops Q (o :: rest) a (w0.alloc (.cells old t (0, 0))) := by
  subst hn
  exact wpList_store_row hgd ty x y ho w0.heap.size cells hx hy t old (heap_new_at rfl) hi hold h1
    (h _ (setRow_heap _ _ _ _ _ _ (heap_new_at rfl)) (below_setRow ((Below.refl _ _).alloc (Nat.le_refl _) _) (Nat.le_refl _) _))
theorem range_bytesV {w : World} {g : Nat} {l : List (BitVec 8)} {t : TypeId} {fr : Nat × Nat} (h : w.heap[g]? = some (.cells (bytesV l).toArray t fr)) : w.rangeAt g 0 (bytesV l) := fun j v hv => by
  rw [Nat.zero_add, cell_of_row w g j _ t fr h]; simpa using hv
theorem noughts32 : (bytesV (List.replicate 32 0#8)).toArray = #[Value.int IntKind.u8 0, Value.int IntKind.u8 0, Value.int IntKind.u8 0, Value.int IntKind.u8 0, Value.int IntKind.u8 0, Value.int IntKind.u8 0, Value.int IntKind.u8 0, Value.int IntKind.u8 0, Value.int IntKind.u8 0, Value.int IntKind.u8 0, Value.int IntKind.u8 0, Value.int IntKind.u8 0, Value.int IntKind.u8 0, Value.int IntKind.u8 0, Value.int IntKind.u8 0, Value.int IntKind.u8 0, Value.int IntKind.u8 0, Value.int IntKind.u8 0, Value.int IntKind.u8 0, Value.int IntKind.u8 0, Value.int IntKind.u8 0, Value.int IntKind.u8 0, Value.int IntKind.u8 0, Value.int IntKind.u8 0, Value.int IntKind.u8 0, Value.int IntKind.u8 0, Value.int IntKind.u8 0, Value.int IntKind.u8 0, Value.int IntKind.u8 0, Value.int IntKind.u8 0, Value.int IntKind.u8 0, Value.int IntKind.u8 0] := by rfl
/-- Bytes that a slice's address leads to. -/
def Lies (w : World) (p : Option Addr) (bs : List (BitVec 8)) : Prop := bs = [] ∨ ∃ b off, p = some ⟨b, off, none⟩ ∧ w.rangeAt b off (bytesV bs)
theorem Lies.below {w w' : World} {p : Option Addr} {bs : List (BitVec 8)} (h : Lies w p bs) (hb : Below w.heap.size w w') : Lies w' p bs := by
  rcases h with h | ⟨b, off, hp, hr⟩
  · exact Or.inl h
  · exact Or.inr ⟨b, off, hp, fun j v hv => (hb.cell (p := ⟨b, off + j, none⟩) (World.block_lt_of_cell? w _ (hr j v hv))).trans (hr j v hv)⟩
/-- What lies in a world lies in no block that was made later. -/
theorem Lies.reads {w w' : World} {p : Option Addr} {bs : List (BitVec 8)} (h : Lies w p bs) (hb : Below w.heap.size w w') (g : Nat) (hg : w.heap.size ≤ g) : Reads w' g p bs := by
  rcases h with h | ⟨b, off, hp, hr⟩
  · exact Or.inl h
  · by_cases hne : bs = []
    · exact Or.inl hne
    · refine Or.inr ⟨b, off, hp, ?_, fun j v hv => (hb.cell (p := ⟨b, off + j, none⟩) (World.block_lt_of_cell? w _ (hr j v hv))).trans (hr j v hv)⟩
      cases bs with
      | nil => exact absurd rfl hne
      | cons x r =>
        have := World.block_lt_of_cell? w _ (hr 0 _ rfl)
        intro e; subst e; simp at this; omega
theorem take_set_fill (l : List (BitVec 8)) (n i : Nat) (hl : l.length = n) (hi : i < n) : (l.take i ++ List.replicate (n - i) 0#8).set i (l.getD i 0#8) = l.take (i + 1) ++ List.replicate (n - (i + 1)) 0#8 := by
  have h1 : (l.take i).length = i := by rw [List.length_take]; omega
  obtain ⟨m, hm⟩ : ∃ m, n - i = m + 1 := ⟨n - i - 1, by omega⟩
  rw [List.take_succ_eq_append_getElem (by omega), hm, show n - (i + 1) = m by omega, List.set_append_right _ _ (by omega), h1, Nat.sub_self, List.replicate_succ, List.set_cons_zero, List.append_assoc]
  simp [List.getD, show i < l.length by omega]
theorem forIn_yield {β : Type} {P : Program} {w : World} (l : List Nat) (f : Nat → β → Sem (ForInStep β)) (b : β) (h : ∀ i ∈ l, (f i b).run P w = .ok (.yield b) w) : (forIn l b f).run P w = .ok b w := by
  induction l with
  | nil => simp
  | cons i r ih =>
    rw [List.forIn_cons, Sem.run_bind, h i List.mem_cons_self]
    simp only [Result.andThen_ok]
    exact ih (fun j hj => h j (List.mem_cons_of_mem _ hj))
theorem part5 (l : List (BitVec 8)) (i : Nat) (hi : i < l.length) (w : World) : (part 5 (bytesV l).toArray (i * 1)).run Tryd.prog w = .ok (.int .u8 (n8 l[i])) w := by
  have hagg : (isAgg 5).run Tryd.prog w = .ok false w := by kernel_rfl
  have hc : (bytesV l).toArray[i * 1]? = some (.int .u8 (n8 l[i])) := by simp [bytesV, hi]
  unfold part
  rw [Sem.run_bind, hagg]
  simp only [Result.andThen_ok, Bool.false_eq_true, if_false, hc, Sem.run_pure]
/-- May the region be carried out along this list? (true: the operation yields its value whatever else has been done; false: it is the only one that may come up.) -/
def schedOk (ops : Array Oper) : List (Nat × Bool) → Array Bool → Bool
  | [], L => (Region.ready .any ops L).isEmpty
  | (i, true) :: r, L => Region.free .any ops L i && (Region.ready .any ops L).contains i && schedOk ops r (L.setIfInBounds i true)
  | (i, false) :: r, L => decide (Region.ready .any ops L = [i]) && schedOk ops r (L.setIfInBounds i true)
/-- What is to be shown, operation by operation. -/
def wpS (P : Program) (ops : Array Oper) (Q : Exit → Act → World → Prop) (S : World → Prop) : List (Nat × Bool) → Act → World → Prop
  | [], a, w => Q .normal a w
  | (i, true) :: r, a, w => ∃ o v, ops[i]? = some o ∧ YieldsIf P ops S o v a ∧ wpS P ops Q S r (a.put o.dst v) w
  | (i, false) :: r, a, w => wpOp P ops Q i (fun a' w' => S w' ∧ wpS P ops Q S r a' w') a w
theorem wpAnyH_sched {P : Program} {ops : Array Oper} {Q : Exit → Act → World → Prop} {S : World → Prop} (hs : Region.noSelect ops = true) (hQ : ∀ c a w, ¬ Q (.panic c) a w) :
    ∀ (r : List (Nat × Bool)) (L : Array Bool) (a : Act) (w : World), schedOk ops r L = true → S w → wpS P ops Q S r a w → wpAnyH P .any ops Q S r.length L a w
  | [], L, a, w, hc, _, h => by
    simp only [schedOk, List.isEmpty_iff] at hc
    exact wpAnyH_done hc h 0
  | (i, true) :: r, L, a, w, hc, hS, h => by
    simp only [schedOk, Bool.and_eq_true] at hc
    obtain ⟨o, v, ho, hy, h⟩ := h
    exact wpAnyH_take ho hs hc.1.1 hc.1.2 (fun c a w h => absurd h (hQ c _ w)) hy hS (wpAnyH_sched hs hQ r _ _ w hc.2 hS h)
  | (i, false) :: r, L, a, w, hc, hS, h => by
    simp only [schedOk, Bool.and_eq_true, decide_eq_true_eq] at hc
    refine wpAnyH_all hc.1 (by simp) (fun j hj => ?_)
    rw [List.mem_singleton.1 hj]
    exact wpOp_mono (fun a' w' h' => ⟨h'.1, wpAnyH_sched hs hQ r _ a' w' hc.2 h'.1 h'.2⟩) h
/-- Old blocks are as they were. -/
abbrev Keeps (w0 : World) : World → Prop := fun w => Below w0.heap.size w0 w
theorem region_sched {P : Program} {id : Nat} {ops : Array Oper} {Q : Exit → Act → World → Prop} {a : Act} {w : World} (r : List (Nat × Bool)) (hm : P.follows .mixedOrders = true) (hs : Region.noSelect ops = true)
    (hl : r.length = ops.size) (hc : schedOk ops r (Array.replicate ops.size false) = true)
    (h : ∀ ops', ops' = ops → ∀ A, A = a → wpS P ops' (NoPanic Q) (Keeps w.drew) r A w.drew) : (Code.region id ops true).wp P Q a w := by
  refine wp_region_noPanic (wp_region_held (S := Keeps w.drew) hm ?_)
  rw [← hl]
  exact wpAnyH_sched hs (fun c a w h => h) r _ a w.drew (hl ▸ hc) (Below.refl _ _) (h ops rfl a rfl)
section
variable {P : Program} {ops : Array Oper} {Q : Exit → Act → World → Prop} {S : World → Prop} {r : List (Nat × Bool)} {i : Nat} {o : Oper} {d : Option Tmp} {v : Value} {a : Act} {w w' : World}
theorem wanted_guard {j : Nat} {dj : Tmp} {oj : Oper} (hg : o.guard = some (j, true)) (hj : ops[j]? = some oj) (hd : oj.dst = some dj) (he : a.eval (.tmp dj) = .bool true) : Region.wanted o (yielded ops a.tmps) = true := by
  have h2 : a.tmps[dj]? = some (.bool true) := by
    have h3 : a.tmps.getD dj undef = .bool true := he
    rw [Array.getD_eq_getD_getElem?] at h3
    cases h4 : a.tmps[dj]? with
    | none => rw [h4] at h3; exact absurd h3 (by simp [undef])
    | some u => rw [h4] at h3; simp at h3; rw [h3]
  unfold Region.wanted
  rw [hg]
  simp only [yielded, hj, Option.bind_some, hd, h2]
  rfl
theorem step_pure (ho : ops[i]? = some o) (hd : o.dst = d) (hw : Region.wanted o (yielded ops a.tmps) = true) (hr : ∀ w, S w → (execOp a.eval o).run P w = .ok (.value v) w) (h : wpS P ops Q S r (a.put d v) w) : wpS P ops Q S ((i, true) :: r) a w :=
  ⟨o, v, ho, .inl ⟨hw, hr⟩, by rw [hd]; exact h⟩
theorem step_op (ho : ops[i]? = some o) (hd : o.dst = d) (hw : Region.wanted o (yielded ops a.tmps) = true) (hr : (execOp a.eval o).run P w = .ok (.value v) w') (hS : S w') (h : wpS P ops Q S r (a.put d v) w') : wpS P ops Q S ((i, false) :: r) a w := by
  show wpOp P ops Q i _ a w
  unfold wpOp
  rw [ho]
  show if Region.wanted o (yielded ops a.tmps) = true then _ else _
  rw [if_pos hw]
  refine .inl ?_
  unfold Oper.wp
  rw [hr, Oper.upon_value, hd]
  exact ⟨hS, h⟩
theorem step_call {f : FuncId} {args : Array Value} {R : World → Prop} (ho : ops[i]? = some o) (hd : o.dst = d) (hw : Region.wanted o (yielded ops a.tmps) = true) (hr : (execOp a.eval o).run P w = .ok (.enter f args) w)
    (hc : Calls P f args w fun e w' => e = .returned v ∧ R w') (hS : ∀ w', R w' → S w') (h : ∀ w', R w' → wpS P ops Q S r (a.put d v) w') : wpS P ops Q S ((i, false) :: r) a w := by
  show wpOp P ops Q i _ a w
  unfold wpOp
  rw [ho]
  show if Region.wanted o (yielded ops a.tmps) = true then _ else _
  rw [if_pos hw]
  exact .inl (wp_enter hr hc (fun w' hR => by rw [hd]; exact ⟨hS w' hR, h w' hR⟩))
end
section
variable {P : Program} {ρ : Operand → Value} {o : Oper} {x y c : Operand} {v u : Value}
theorem run_assign (ho : o.op = .assign x) (h : ρ x = v) (w : World) : (execOp ρ o).run P w = .ok (.value v) w := by
  unfold execOp; simp only [ho, h, Sem.run_pure]
theorem run_pick_true (ho : o.op = .pick c x y) (hc : ρ c = .bool true) (h : ρ x = v) (w : World) : (execOp ρ o).run P w = .ok (.value v) w := by
  unfold execOp; simp only [ho, hc, h, Sem.run_bind]; rfl
theorem range_keep {w w' : World} {b off : Nat} {l : List Value} (h : w.rangeAt b off l) (hb : Below w.heap.size w w') : w'.rangeAt b off l := fun j v hv =>
  (hb.cell (p := ⟨b, off + j, none⟩) (World.block_lt_of_cell? w _ (h j v hv))).trans (h j v hv)
/-- A call of any function of the program that has a body. -/
theorem callFunc_body {P : Program} {f : FuncId} {fn : Func} (hfn : P.funcs[f]? = some fn) (hb : (fn.name == "runtime.NumGoroutine" || fn.body.isNone) = false) (args : Array Value) (w : World) : (callFunc f args).run P w = .ok (.enter f args) w := by
  rw [Bool.or_eq_false_iff] at hb
  have h1 : ¬ fn.name = "runtime.NumGoroutine" := by simpa using hb.1
  have h2 : ¬ fn.body = none := fun h => by rw [h] at hb; exact absurd hb.2 (by decide)
  simp [callFunc, go_sem, hfn, h1, h2]
theorem run_callf0 {P : Program} {f : FuncId} {fn : Func} {T : Array TypeId} (ho : o.op = .call { callee := .value (.func f), args := #[], argTypes := T }) (hf : ρ (.func f) = .func (.func f) #[] #[])  (hfn : P.funcs[f]? = some fn) (hb : (fn.name == "runtime.NumGoroutine" || fn.body.isNone) = false) (w : World) : (execOp ρ o).run P w = .ok (.enter f #[]) w := by
  obtain ⟨dst, op, ty, pos, after, guard⟩ := o
  simp only at ho
  subst ho
  have h := callFunc_body hfn hb #[] w
  go_simp
theorem run_callf1 {P : Program} {f : FuncId} {fn : Func} {T : Array TypeId} (ho : o.op = .call { callee := .value (.func f), args := #[x], argTypes := T }) (hf : ρ (.func f) = .func (.func f) #[] #[]) (hx : ρ x = v) (hfn : P.funcs[f]? = some fn) (hb : (fn.name == "runtime.NumGoroutine" || fn.body.isNone) = false) (w : World) : (execOp ρ o).run P w = .ok (.enter f #[v]) w := by
  obtain ⟨dst, op, ty, pos, after, guard⟩ := o
  simp only at ho
  subst ho
  have h := callFunc_body hfn hb #[v] w
  go_simp
theorem run_callf2 {P : Program} {f : FuncId} {fn : Func} {T : Array TypeId} (ho : o.op = .call { callee := .value (.func f), args := #[x, y], argTypes := T }) (hf : ρ (.func f) = .func (.func f) #[] #[]) (hx : ρ x = v) (hy : ρ y = u) (hfn : P.funcs[f]? = some fn) (hb : (fn.name == "runtime.NumGoroutine" || fn.body.isNone) = false) (w : World) : (execOp ρ o).run P w = .ok (.enter f #[v, u]) w := by
  obtain ⟨dst, op, ty, pos, after, guard⟩ := o
  simp only at ho
  subst ho
  have h := callFunc_body hfn hb #[v, u] w
  go_simp
theorem run_callf3 {P : Program} {f : FuncId} {fn : Func} {T : Array TypeId} {z : Value} (ho : o.op = .call { callee := .value (.func f), args := #[x, y, c], argTypes := T }) (hf : ρ (.func f) = .func (.func f) #[] #[]) (hx : ρ x = v) (hy : ρ y = u) (hz : ρ c = z) (hfn : P.funcs[f]? = some fn) (hb : (fn.name == "runtime.NumGoroutine" || fn.body.isNone) = false) (w : World) : (execOp ρ o).run P w = .ok (.enter f #[v, u, z]) w := by
  obtain ⟨dst, op, ty, pos, after, guard⟩ := o
  simp only at ho
  subst ho
  have h := callFunc_body hfn hb #[v, u, z] w
  go_simp
theorem run_callf4 {P : Program} {f : FuncId} {fn : Func} {T : Array TypeId} {z z2 : Value} {c2 : Operand} (ho : o.op = .call { callee := .value (.func f), args := #[x, y, c, c2], argTypes := T }) (hf : ρ (.func f) = .func (.func f) #[] #[]) (hx : ρ x = v) (hy : ρ y = u) (hz : ρ c = z) (hz2 : ρ c2 = z2) (hfn : P.funcs[f]? = some fn) (hb : (fn.name == "runtime.NumGoroutine" || fn.body.isNone) = false) (w : World) : (execOp ρ o).run P w = .ok (.enter f #[v, u, z, z2]) w := by
  obtain ⟨dst, op, ty, pos, after, guard⟩ := o
  simp only at ho
  subst ho
  have h := callFunc_body hfn hb #[v, u, z, z2] w
  go_simp
end
theorem calls_gen {P : Program} {f : FuncId} {args : Array Value} {w : World} {R : Ending → World → Prop} (F : World → Prop) (hF : F w) (h : ∀ w, F w → Calls P f args w R) : Calls P f args w R := h w hF
theorem lies_new {w : World} {l : List (BitVec 8)} {cs : Array Value} {t : TypeId} {fr : Nat × Nat} (h : cs = (bytesV l).toArray) : Lies (w.alloc (.cells cs t fr)) (some ⟨w.heap.size, 0, none⟩) l := by
  subst h
  exact Or.inr ⟨w.heap.size, 0, rfl, range_bytesV (heap_new_at rfl)⟩
/-- A block that holds these bytes. -/
def BytesAt (w : World) (g : Nat) (t : TypeId) (l : List (BitVec 8)) : Prop := w.heap[g]? = some (.cells (bytesV l).toArray t (0, 0))
theorem BytesAt.size {w : World} {g : Nat} {t : TypeId} {l : List (BitVec 8)} (h : BytesAt w g t l) : g < w.heap.size := (Array.getElem?_eq_some_iff.1 h).1
theorem BytesAt.keep {w w' : World} {g : Nat} {t : TypeId} {l : List (BitVec 8)} (h : BytesAt w g t l) (hb : Below w.heap.size w w') : BytesAt w' g t l := (hb.block _ h.size).trans h
theorem BytesAt.past {w w' : World} {g r : Nat} {t : TypeId} {l : List (BitVec 8)} (h : BytesAt w g t l) (hg : w.grownBy w' (some r)) (hne : g ≠ r) : BytesAt w' g t l := (hg.block _ h.size (fun e => hne (Option.some.inj e))).trans h
theorem BytesAt.range {w : World} {g : Nat} {t : TypeId} {l : List (BitVec 8)} (h : BytesAt w g t l) : w.rangeAt g 0 (bytesV l) := range_bytesV h
def noughts (n : Nat) : List (BitVec 8) := List.replicate n 0#8
theorem noughts_length (n : Nat) : (noughts n).length = n := by simp [noughts]
theorem splice_noughts (n : Nat) (l : List (BitVec 8)) : splice (List.replicate n 0#8) 0 l = l ++ List.replicate (n - l.length) 0#8 := by simp [splice]
set_option maxRecDepth 100000 in
/-- A copy of bytes into a block of the call's own, from the block's start. -/
theorem run_copy_bytes (w : World) (ty : TypeId) (g n cap : Nat) (t : TypeId) (blk bs : List (BitVec 8)) (p : Option Addr) (m c : Nat) (hg : BytesAt w g t blk) (hn : blk.length = n) (hL : Lies w p bs) (hm : bs.length = m) (hle : m ≤ n) :
    ∃ w', (Builtin.copy_ #[26, 26] ty #[.slice (some ⟨g, 0, none⟩) n cap, .slice p m c]).run Tryd.prog w = .ok (goInt m) w' ∧ BytesAt w' g t (splice blk 0 bs) ∧ w.grownBy w' (some g) := by
  have hmin : Nat.min m n = m := Nat.min_eq_left hle
  have i5 : (Tryd.prog.info? 5).map (·.size) = some 1 := by kernel_rfl
  by_cases h0 : m = 0
  · subst h0
    have hb : bs = [] := List.length_eq_zero_iff.1 hm
    subst hb
    refine ⟨w, run_copy_none (P := Tryd.prog) w 26 26 ty 5 _ p n cap 0 c Tryd.underlying26 i5 (by simp), ?_, World.grownBy.refl _ _⟩
    rw [splice_nil]; exact hg
  · rcases hL with hb | ⟨b, off, rfl, hr⟩
    · subst hb; exact absurd hm.symm h0
    · have hl : (bytesV bs).length = m := by rw [bytesV_length, hm]
      have hrun := run_copy_row (P := Tryd.prog) w 26 26 ty 5 g 0 n cap ⟨b, off, none⟩ m c (bytesV blk).toArray t (bytesV bs) Tryd.underlying26 i5 hg (by rw [hl, hmin])
        (fun j v hv => by rw [Addr.add_mid]; exact hr j v hv) (by rw [hl, bytesV_size _ n hn]; omega) (fun v hv => bytesV_mem hv)
      rw [hl] at hrun
      refine ⟨_, hrun, ?_, grown_setRow _ _ _⟩
      show _ = _
      rw [setRow_heap _ _ _ _ _ _ hg]
      congr 2
      rw [← hl]
      simp [splice, bytesV]
theorem wpList_copy_bytes {w : World} {ops : Array Oper} {rest : List Oper} {o : Oper} {a : Act} {Q : Exit → Act → World → Prop} (hgd : o.guard = none) (d s : Operand)
    (ho : o.op = .call { callee := .builtin .copy, args := #[d, s], argTypes := #[26, 26] }) (g n cap : Nat) (t : TypeId) (blk bs : List (BitVec 8)) (p : Option Addr) (m c : Nat)
    (hd : a.eval d = .slice (some ⟨g, 0, none⟩) n cap) (hs : a.eval s = .slice p m c) (hg : BytesAt w g t blk) (hn : blk.length = n) (hL : Lies w p bs) (hm : bs.length = m) (hle : m ≤ n)
    (h : ∀ w', BytesAt w' g t (splice blk 0 bs) → w.grownBy w' (some g) → wpList Tryd.prog ops Q rest (a.put o.dst (goInt m)) w') : wpList Tryd.prog ops Q (o :: rest) a w := by
  refine wpList_plain hgd fun K hK => ?_
  obtain ⟨w', hrun, h1, h2⟩ := run_copy_bytes w o.type g n cap t blk bs p m c hg hn hL hm hle
  unfold Oper.wp
  simp [execOp, ho, resolve, invoke, builtin, hd, hs, hrun, Result.andThen]
  exact hK _ _ (h w' h1 h2)
theorem run_copy_op {ρ : Operand → Value} {o : Oper} {x y : Operand} {w w' : World} {v u r : Value} (ho : o.op = .call { callee := .builtin .copy, args := #[x, y], argTypes := #[26, 26] }) (hx : ρ x = v) (hy : ρ y = u)
    (hr : (Builtin.copy_ #[26, 26] o.type #[v, u]).run Tryd.prog w = .ok r w') : (execOp ρ o).run Tryd.prog w = .ok (.value r) w' := by
  simp [execOp, ho, resolve, invoke, builtin, hx, hy, hr, Result.andThen]
/-- A region that draws its order, with any thing that is kept. -/
theorem region_schedS {P : Program} {id : Nat} {ops : Array Oper} {Q : Exit → Act → World → Prop} {a : Act} {w : World} (S : World → Prop) (hS : S w.drew) (r : List (Nat × Bool)) (hm : P.follows .mixedOrders = true) (hs : Region.noSelect ops = true)
    (hl : r.length = ops.size) (hc : schedOk ops r (Array.replicate ops.size false) = true)
    (h : ∀ ops', ops' = ops → ∀ A, A = a → wpS P ops' (NoPanic Q) S r A w.drew) : (Code.region id ops true).wp P Q a w := by
  refine wp_region_noPanic (wp_region_held (S := S) hm ?_)
  rw [← hl]
  exact wpAnyH_sched hs (fun c a w h => h) r _ a w.drew (hl ▸ hc) hS (h ops rfl a rfl)
theorem setCell_bytes {w : World} {g : Nat} {l : List (BitVec 8)} {t : TypeId} {k : Nat} (h : w.heap[g]? = some (.cells (bytesV l).toArray t (0, 0))) (x : BitVec 8) :
    (w.setCell ⟨g, k, none⟩ (.int .u8 (n8 x))).heap[g]? = some (.cells (bytesV (l.set k x)).toArray t (0, 0)) := by
  rw [heap_setCell_same _ _ _ _ _ _ h, List.setIfInBounds_toArray]
  simp [bytesV, List.map_set]
theorem Reads.on {w w' : World} {g : Nat} {p : Option Addr} {bs : List (BitVec 8)} (h : Reads w g p bs) (hb : Below w.heap.size w w') : Reads w' g p bs := by
  rcases h with h | ⟨b, off, hp, hne, hr⟩
  · exact Or.inl h
  · exact Or.inr ⟨b, off, hp, hne, range_keep hr hb⟩
theorem Reads.past {w w' : World} {g : Nat} {p : Option Addr} {bs : List (BitVec 8)} (h : Reads w g p bs) (hb : w.grownBy w' (some g)) : Reads w' g p bs := by
  rcases h with h | ⟨b, off, hp, hne, hr⟩
  · exact Or.inl h
  · exact Or.inr ⟨b, off, hp, hne, Reads.grown hr hb hne⟩
theorem grown_of_below {w w' : World} (hb : Below w.heap.size w w') (r : Option Nat) : w.grownBy w' r := grown_below hb (Nat.le_refl _) r
/-- A whole array loaded, guarded or not. -/
theorem wpList_load_g {P : Program} {ops : Array Oper} {rest : List Oper} {o : Oper} {a : Act} {w : World} {Q : Exit → Act → World → Prop} (hw : Region.wanted o (yielded ops a.tmps) = true) (ty : TypeId) (x : Operand) (ho : o.op = .load ty x)
    (g : Nat) (hx : a.eval x = .pointer (some ⟨g, 0, none⟩)) (t : TypeId) (cs : Array Value) (fr : Nat × Nat) (d : TypeDesc) (hg : w.heap[g]? = some (.cells cs t fr))
    (hu : P.underlying ty = some d) (hd : (match d with | .struct _ | .array _ _ => true | _ => false) = true) (hi : (P.info? ty).map (·.size) = some cs.size)
    (h : wpList P ops Q rest (a.put o.dst (.agg cs)) w) : wpList P ops Q (o :: rest) a w := by
  unfold wpList; rw [if_pos hw]; exact .inl (wp_load_row ty x ho g hx t cs fr d hg hu hd hi h)
/-- A step of a region by the rule of the operation itself. -/
theorem step_wp {P : Program} {ops : Array Oper} {Q : Exit → Act → World → Prop} {S : World → Prop} {r : List (Nat × Bool)} {i : Nat} {o : Oper} {a : Act} {w : World} (ho : ops[i]? = some o) (hw : Region.wanted o (yielded ops a.tmps) = true)
    (h : o.wp P a w (fun a' w' => S w' ∧ wpS P ops Q S r a' w') Q) : wpS P ops Q S ((i, false) :: r) a w := by
  show wpOp P ops Q i _ a w
  unfold wpOp
  rw [ho]
  show if Region.wanted o (yielded ops a.tmps) = true then _ else _
  rw [if_pos hw]
  exact .inl h
theorem noughts_append (a b : Nat) : noughts a ++ noughts b = noughts (a + b) := by simp [noughts]
set_option maxRecDepth 100000 in
/-- A copy that is cut off at the block's end. -/
theorem run_copy_cut (w : World) (ty : TypeId) (g n cap : Nat) (t : TypeId) (blk bs : List (BitVec 8)) (p : Option Addr) (m c : Nat) (hg : BytesAt w g t blk) (hn : blk.length = n) (hL : Lies w p bs) (hm : bs.length = m) (hle : n < m) :
    ∃ w', (Builtin.copy_ #[26, 26] ty #[.slice (some ⟨g, 0, none⟩) n cap, .slice p m c]).run Tryd.prog w = .ok (goInt n) w' ∧ BytesAt w' g t (bs.take n) ∧ w.grownBy w' (some g) := by
  have i5 : (Tryd.prog.info? 5).map (·.size) = some 1 := by kernel_rfl
  rcases hL with hb | ⟨b, off, rfl, hr⟩
  · subst hb; simp at hm; omega
  · have hl : (bytesV (bs.take n)).length = n := by rw [bytesV_length, List.length_take]; omega
    have hrun := run_copy_row (P := Tryd.prog) w 26 26 ty 5 g 0 n cap ⟨b, off, none⟩ m c (bytesV blk).toArray t (bytesV (bs.take n)) Tryd.underlying26 i5 hg (by rw [hl]; exact (Nat.min_eq_right (by omega)).symm)
      (fun j v hv => by
        rw [Addr.add_mid]
        refine hr j v ?_
        rw [bytesV_take, List.getElem?_take] at hv
        split at hv
        · exact hv
        · cases hv) (by rw [hl, bytesV_size _ n hn]; omega) (fun v hv => bytesV_mem hv)
    rw [hl] at hrun
    refine ⟨_, hrun, ?_, grown_setRow _ _ _⟩
    show _ = _
    rw [setRow_heap _ _ _ _ _ _ hg]
    congr 2
    have hd : List.drop (0 + n) (bytesV blk) = [] := List.drop_of_length_le (by rw [bytesV_length]; omega)
    simp only [List.take_zero, List.nil_append, hd, List.append_nil]
theorem wpList_copy_any {w : World} {ops : Array Oper} {rest : List Oper} {o : Oper} {a : Act} {Q : Exit → Act → World → Prop} (hgd : o.guard = none) (d s : Operand)
    (ho : o.op = .call { callee := .builtin .copy, args := #[d, s], argTypes := #[26, 26] }) (g n cap : Nat) (t : TypeId) (blk bs : List (BitVec 8)) (p : Option Addr) (m c : Nat)
    (hd : a.eval d = .slice (some ⟨g, 0, none⟩) n cap) (hs : a.eval s = .slice p m c) (hg : BytesAt w g t blk) (hn : blk.length = n) (hL : Lies w p bs) (hm : bs.length = m)
    (h : ∀ k w' l, BytesAt w' g t l → l.length = n → (m ≤ n → l = splice blk 0 bs) → w.grownBy w' (some g) → wpList Tryd.prog ops Q rest (a.put o.dst (goInt k)) w') : wpList Tryd.prog ops Q (o :: rest) a w := by
  refine wpList_plain hgd fun K hK => ?_
  by_cases hle : m ≤ n
  · obtain ⟨w', hrun, h1, h2⟩ := run_copy_bytes w o.type g n cap t blk bs p m c hg hn hL hm hle
    unfold Oper.wp
    simp [execOp, ho, resolve, invoke, builtin, hd, hs, hrun, Result.andThen]
    exact hK _ _ (h m w' _ h1 (by rw [length_splice _ _ _ (by omega), hn]) (fun _ => rfl) h2)
  · obtain ⟨w', hrun, h1, h2⟩ := run_copy_cut w o.type g n cap t blk bs p m c hg hn hL hm (by omega)
    unfold Oper.wp
    simp [execOp, ho, resolve, invoke, builtin, hd, hs, hrun, Result.andThen]
    exact hK _ _ (h n w' _ h1 (by rw [List.length_take]; omega) (fun h => absurd h hle) h2)
theorem run_len26 {ρ : Operand → Value} {o : Oper} {x : Operand} {q : Option Addr} {n c : Nat} (ho : o.op = .call { callee := .builtin .len, args := #[x], argTypes := #[26] }) (hx : ρ x = .slice q n c) (w : World) :
    (execOp ρ o).run Tryd.prog w = .ok (.value (.int .i64 (n : Int))) w := by
  obtain ⟨dst, op, ty, pos, after, guard⟩ := o
  simp only at ho
  subst ho
  go_simp
theorem run_leq32 {ρ : Operand → Value} {o : Oper} {x : Operand} {n : Nat} {ty : TypeId} (ho : o.op = .binOp .leq 3 x (.const (.int .i64 32)) ty) (h : n ≤ 32) (hx : ρ x = .int .i64 (n : Int)) (h0 : ∀ u, ρ (.const u) = u) (w : World) :
    (execOp ρ o).run Tryd.prog w = .ok (.value (.bool true)) w := by
  obtain ⟨dst, op, ty', pos, after, guard⟩ := o
  simp only at ho
  subst ho
  have h1 : (n : Int) ≤ 32 := by omega
  have h2 := h0 (.int .i64 32)
  go_simp
end Go.Proofs.YtagkkihnfipfeaaDoor
