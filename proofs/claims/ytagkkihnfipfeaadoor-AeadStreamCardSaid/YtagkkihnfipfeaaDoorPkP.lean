/-
  What other texts lean on: W64, PoLimbs, PoOps, PoNormal, PoNumber, PoCleared, PoPlus, PoReduced, PoProduct, PoBytesOf, PoSum, AppendOps, CcWords, CcWorks, CcBackBase, CcOps, CcPlaces, PoWorks, PoLawOps, PoAdd.
-/
import Derived.Test.YtagkkihnfipfeaaDoorPkA
import Derived.Test.YtagkkihnfipfeaaDoorPkC
import Derived.Deep.CutRange
import Derived.ArgAppend
import Derived.Deep.AppendLies
import Derived.Lib.SlBytesConst
/-
  Words of 64 bits as plain bit vectors: what the model's integer operations at uint64 come to on them. Without any condition.
-/
namespace Go.Proofs.ShaWords
open Go

/-- A word of 64 bits as the number that the model holds. -/
def n64 (x : BitVec 64) : Int := (x.toNat : Int)
theorem n64_nonneg (x : BitVec 64) : 0 ≤ n64 x := by unfold n64; omega
theorem n64_lt (x : BitVec 64) : n64 x < 18446744073709551616 := by unfold n64; have := x.isLt; omega
theorem n64_inj {x y : BitVec 64} (h : n64 x = n64 y) : x = y := by
  unfold n64 at h; exact BitVec.eq_of_toNat_eq (by omega)
theorem and64 (x y : BitVec 64) : bits .and .u64 (n64 x) (n64 y) = n64 (x &&& y) := by
  unfold n64; rw [u64_and_nat _ _ (by have := x.isLt; omega) (by have := y.isLt; omega), BitVec.toNat_and]
theorem or64 (x y : BitVec 64) : bits .or .u64 (n64 x) (n64 y) = n64 (x ||| y) := by
  unfold n64; rw [u64_or_nat _ _ (by have := x.isLt; omega) (by have := y.isLt; omega), BitVec.toNat_or]
theorem add64 (x y : BitVec 64) : IntKind.u64.wrap (n64 x + n64 y) = n64 (x + y) := by
  unfold n64; rw [IntKind.wrap_u64, BitVec.toNat_add]; omega
theorem mul64 (x y : BitVec 64) : IntKind.u64.wrap (n64 x * n64 y) = n64 (x * y) := by
  unfold n64; rw [IntKind.wrap_u64, BitVec.toNat_mul, ← Int.natCast_mul]
  generalize x.toNat * y.toNat = m
  omega
theorem mul64_5 (y : BitVec 64) : IntKind.u64.wrap (5 * n64 y) = n64 (5#64 * y) := mul64 5#64 y
theorem and64_mask (x : BitVec 64) : bits .and .u64 (n64 x) 67108863 = n64 (x &&& 67108863#64) := and64 x 67108863#64
theorem shl64 (x : BitVec 64) (k : Nat) : IntKind.u64.wrap (n64 x * 2 ^ k) = n64 (x <<< k) := by
  unfold n64
  have e : (x.toNat : Int) * 2 ^ k = ((x.toNat * 2 ^ k : Nat) : Int) := by rw [Int.natCast_mul, Int.natCast_pow]; rfl
  rw [IntKind.wrap_u64, BitVec.toNat_shiftLeft, Nat.shiftLeft_eq, e]
  generalize x.toNat * 2 ^ k = m
  omega
theorem shr64 (x : BitVec 64) (k : Nat) : n64 x / 2 ^ k = n64 (x >>> k) := by
  unfold n64; rw [BitVec.toNat_ushiftRight, Nat.shiftRight_eq_div_pow, Int.natCast_ediv, Int.natCast_pow]; rfl
theorem shr64_26 (x : BitVec 64) : n64 x / (67108864 : Int) = n64 (x >>> 26) := shr64 x 26
theorem shr64_12 (x : BitVec 64) : n64 x / (4096 : Int) = n64 (x >>> 12) := shr64 x 12
theorem shl64_26 (x : BitVec 64) : IntKind.u64.wrap (n64 x * (67108864 : Int)) = n64 (x <<< 26) := shl64 x 26
theorem shl64_52 (x : BitVec 64) : IntKind.u64.wrap (n64 x * (4503599627370496 : Int)) = n64 (x <<< 52) := shl64 x 52
theorem shl64_14 (x : BitVec 64) : IntKind.u64.wrap (n64 x * (16384 : Int)) = n64 (x <<< 14) := shl64 x 14
theorem shl64_40 (x : BitVec 64) : IntKind.u64.wrap (n64 x * (1099511627776 : Int)) = n64 (x <<< 40) := shl64 x 40

/-- A byte as a word of 64 bits; such a word's last byte. -/
def ext64 (b : BitVec 8) : BitVec 64 := b.setWidth 64
def low8 (x : BitVec 64) : BitVec 8 := x.setWidth 8
theorem wrap64_n8 (b : BitVec 8) : IntKind.u64.wrap (n8 b) = n64 (ext64 b) := by
  unfold n8 n64 ext64; rw [IntKind.wrap_u64, BitVec.toNat_setWidth]; have := b.isLt; omega
theorem wrap8_n64 (x : BitVec 64) : IntKind.u8.wrap (n64 x) = n8 (low8 x) := by
  unfold n8 n64 low8; rw [IntKind.wrap_u8', BitVec.toNat_setWidth]; omega
end Go.Proofs.ShaWords

/-
  A block that holds words of 64 bits; what poly's numbers share.
-/
namespace Go.Proofs.YtagkkihnfipfeaaDoor
open Go.RowKit Go.Proofs.ShaWords

def limbsV (l : List (BitVec 64)) : List Value := l.map fun x => .int .u64 (n64 x)
theorem limbsV_length (l : List (BitVec 64)) : (limbsV l).length = l.length := by simp [limbsV]
theorem limbsV_size (l : List (BitVec 64)) (n : Nat) (h : l.length = n) : (limbsV l).toArray.size = n := by simp [limbsV, h]
theorem limbsV_one (l : List (BitVec 64)) : (limbsV l).toArray.all (·.oneCell') = true :=
  Array.all_eq_true_iff_forall_mem.2 fun v hv => by
    simp only [limbsV, List.mem_toArray, List.mem_map] at hv
    obtain ⟨x, _, rfl⟩ := hv
    rfl
theorem limbsV_set (l : List (BitVec 64)) (k : Nat) (x : BitVec 64) : (limbsV l).toArray.setIfInBounds k (.int .u64 (n64 x)) = (limbsV (l.set k x)).toArray := by
  simp [limbsV, List.map_set]
/-- A block that holds these words. -/
def LimbsAt (w : World) (g : Nat) (t : TypeId) (l : List (BitVec 64)) : Prop := w.heap[g]? = some (.cells (limbsV l).toArray t (0, 0))
section
variable {w w' : World} {g r : Nat} {t : TypeId} {l : List (BitVec 64)}
theorem LimbsAt.size (h : LimbsAt w g t l) : g < w.heap.size := (Array.getElem?_eq_some_iff.1 h).1
theorem LimbsAt.keep (h : LimbsAt w g t l) (hb : Below w.heap.size w w') : LimbsAt w' g t l := (hb.block _ h.size).trans h
theorem LimbsAt.past (h : LimbsAt w g t l) (hg : w.grownBy w' (some r)) (hne : g ≠ r) : LimbsAt w' g t l := (hg.block _ h.size (fun e => hne (Option.some.inj e))).trans h
theorem LimbsAt.cell (h : LimbsAt w g t l) (k : Nat) (hk : k < l.length) : w.cell? ⟨g, k, none⟩ = some (.int .u64 (n64 (l.getD k 0#64))) := by
  rw [cell_of_row w g k _ t _ h]; simp [limbsV, List.getD, hk]
theorem LimbsAt.frozen (h : LimbsAt w g t l) (k : Nat) : w.frozen? ⟨g, k, none⟩ = false := frozen_of_row _ _ _ _ _ h
theorem LimbsAt.set (h : LimbsAt w g t l) (k : Nat) (x : BitVec 64) : LimbsAt (w.setCell ⟨g, k, none⟩ (.int .u64 (n64 x))) g t (l.set k x) := by
  show _ = _
  rw [heap_setCell_same _ _ _ _ _ _ h, limbsV_set]
theorem LimbsAt.setOther (h : LimbsAt w g t l) (hne : g ≠ r) (k : Nat) (v : Value) : LimbsAt (w.setCell ⟨r, k, none⟩ v) g t l := by
  show _ = _
  rw [heap_setCell_other _ _ _ _ hne]; exact h
theorem LimbsAt.drew (h : LimbsAt w g t l) : LimbsAt w.drew g t l := h
end
abbrev tNum : TypeId := 71
def nought5 : List (BitVec 64) := [0#64, 0#64, 0#64, 0#64, 0#64]
theorem nought5_eq : (limbsV nought5).toArray = #[Value.int .u64 0, Value.int .u64 0, Value.int .u64 0, Value.int .u64 0, Value.int .u64 0] := rfl
theorem info5n (l : List (BitVec 64)) (h : l.length = 5) : (Tryd.prog.info? 71).map (·.size) = some (limbsV l).toArray.size :=
  (show (Tryd.prog.info? 71).map (·.size) = some 5 by kernel_rfl).trans (congrArg some (limbsV_size _ 5 h).symm)
theorem five {α : Type} (l : List α) (h : l.length = 5) : ∃ a b c d e, l = [a, b, c, d, e] := by
  match l, h with
  | [a, b, c, d, e], _ => exact ⟨_, _, _, _, _, rfl⟩
/-- Two numbers that came in, and the result's block. -/
structure TwoN (w : World) (L y : List (BitVec 64)) (wr : World) : Prop where
  x : LimbsAt wr w.heap.size tNum L
  y : LimbsAt wr (w.heap.size + 1) tNum y
  res : LimbsAt wr (w.heap.size + 1 + 1) tNum nought5
  below : Below w.heap.size w wr
theorem TwoN.set {w wr : World} {L y : List (BitVec 64)} (h : TwoN w L y wr) (k : Nat) (v : BitVec 64) : TwoN w (L.set k v) y (wr.setCell ⟨w.heap.size, k, none⟩ (.int .u64 (n64 v))) :=
  ⟨h.x.set k v, h.y.setOther (by omega) _ _, h.res.setOther (by omega) _ _, h.below.setCell (Nat.le_refl _) _⟩
theorem TwoN.on {w wr w' : World} {L y : List (BitVec 64)} (h : TwoN w L y wr) (hb : Below wr.heap.size wr w') : TwoN w L y w' :=
  ⟨h.x.keep hb, h.y.keep hb, h.res.keep hb, h.below.trans (hb.mono h.below.size)⟩
theorem two_n (w : World) (x y : List (BitVec 64)) : TwoN w x y (((w.alloc (.cells (limbsV x).toArray tNum)).alloc (.cells (limbsV y).toArray tNum)).alloc (.cells #[.int .u64 0, .int .u64 0, .int .u64 0, .int .u64 0, .int .u64 0] tNum)) :=
  ⟨alloc3_1 w _ _ _, alloc3_2 w _ _ _, by show _ = some (Obj.cells (limbsV nought5).toArray _ _); rw [nought5_eq]; exact alloc3_3 w _ _ _, alloc3_below w _ _ _⟩
/-- The first k limbs added. -/
def addL (x y : List (BitVec 64)) : Nat → List (BitVec 64)
  | 0 => x
  | k + 1 => (addL x y k).set k ((addL x y k).getD k 0#64 + y.getD k 0#64)
theorem addL_zero (x y : List (BitVec 64)) : addL x y 0 = x := rfl
theorem addL_succ (x y : List (BitVec 64)) (k : Nat) : addL x y (k + 1) = (addL x y k).set k ((addL x y k).getD k 0#64 + y.getD k 0#64) := rfl
theorem addL_length (x y : List (BitVec 64)) (k : Nat) : (addL x y k).length = x.length := by
  induction k with
  | zero => rfl
  | succ k ih => rw [addL_succ, List.length_set, ih]
end Go.Proofs.YtagkkihnfipfeaaDoor

/-
  Operations that poly.Sum has: an append that grows, whole numbers loaded and stored, a byte string's parts.
-/
namespace Go.Proofs.YtagkkihnfipfeaaDoor
open Go.RowKit Go.Proofs.ShaWords
theorem own_lies {B : Nat} {w : World} {l : List (BitVec 8)} {v : Value} (h : Own B w l v) : ∃ p cap, v = .slice p l.length cap ∧ l.length ≤ cap ∧ Lies w p l := by
  obtain ⟨p, c, h1, h2, -, h3⟩ := h.lies
  exact ⟨p, c, h1, h2, h3⟩
section
variable {P : Program} {ops : Array Oper} {Q : Exit → Act → World → Prop} {S E : World → Prop} {r : List (Nat × Met)} {i : Nat} {o : Oper} {d : Option Tmp} {v : Value} {a : Act} {w w' : World}
theorem met_before (ho : ops[i]? = some o) (hw : Region.wanted o (yielded ops a.tmps) = true)
    (h : o.wp P a w (fun a' w' => (S w' ∧ E w') ∧ wpE P ops Q S E r a' w') Q) : wpE P ops Q S E ((i, .before) :: r) a w := by
  show wpOp P ops Q i _ a w
  unfold wpOp
  rw [ho]
  show if Region.wanted o (yielded ops a.tmps) = true then _ else _
  rw [if_pos hw]
  exact .inl h
theorem met_behind (ho : ops[i]? = some o) (hw : Region.wanted o (yielded ops a.tmps) = true)
    (h : o.wp P a w (fun a' w' => S w' ∧ wpE P ops Q S E r a' w') Q) : wpE P ops Q S E ((i, .behind) :: r) a w := by
  show wpOp P ops Q i _ a w
  unfold wpOp
  rw [ho]
  show if Region.wanted o (yielded ops a.tmps) = true then _ else _
  rw [if_pos hw]
  exact .inl h
theorem met_valueB (ho : ops[i]? = some o) (hd : o.dst = d) (hw : Region.wanted o (yielded ops a.tmps) = true) (hr : (execOp a.eval o).run P w = .ok (.value v) w')
    (h : (S w' ∧ E w') ∧ wpE P ops Q S E r (a.put d v) w') : wpE P ops Q S E ((i, .before) :: r) a w := by
  refine met_before ho hw ?_
  unfold Oper.wp
  rw [hr, Oper.upon_value, hd]
  exact h
theorem met_enterB {f : FuncId} {args : Array Value} {R : Ending → World → Prop} (ho : ops[i]? = some o) (hd : o.dst = d) (hw : Region.wanted o (yielded ops a.tmps) = true) (hr : (execOp a.eval o).run P w = .ok (.enter f args) w) (hc : Calls P f args w R)
    (h : ∀ e w', R e w' → ∃ v, e = .returned v ∧ (S w' ∧ E w') ∧ wpE P ops Q S E r (a.put d v) w') : wpE P ops Q S E ((i, .before) :: r) a w := by
  refine met_before ho hw ?_
  unfold Oper.wp
  rw [hr, Oper.upon_enter]
  refine hc.mono ?_
  rintro e w' hR
  obtain ⟨v, rfl, hS, h⟩ := h e w' hR
  rw [hd]
  exact ⟨hS, h⟩
theorem met_enterA {f : FuncId} {args : Array Value} {R : Ending → World → Prop} (ho : ops[i]? = some o) (hd : o.dst = d) (hw : Region.wanted o (yielded ops a.tmps) = true) (hr : (execOp a.eval o).run P w = .ok (.enter f args) w) (hc : Calls P f args w R)
    (h : ∀ e w', R e w' → ∃ v, e = .returned v ∧ S w' ∧ wpE P ops Q S E r (a.put d v) w') : wpE P ops Q S E ((i, .behind) :: r) a w := by
  refine met_behind ho hw ?_
  unfold Oper.wp
  rw [hr, Oper.upon_enter]
  refine hc.mono ?_
  rintro e w' hR
  obtain ⟨v, rfl, hS, h⟩ := h e w' hR
  rw [hd]
  exact ⟨hS, h⟩
end
/-- An append that finds no room. -/
theorem wp_append_grow {o : Oper} {a : Act} {w : World} {K : Act → World → Prop} {Q : Exit → Act → World → Prop} (s x : Operand)
    (ho : o.op = .call { callee := .builtin .append, args := #[s, x], argTypes := #[26, 26] }) (l m : List (BitVec 8)) (b off b2 off2 n k c : Nat) (hs : a.eval s = .slice (some ⟨b, off, none⟩) n n) (hn : l.length = n)
    (hl : w.rangeAt b off (bytesV l)) (hx : a.eval x = .slice (some ⟨b2, off2, none⟩) k c) (hk : m.length = k) (hm : w.rangeAt b2 off2 (bytesV m)) (hne : 0 < k) (hlt : n + k < 1099511627776)
    (h : ∀ v' w', Own w.heap.size w' (l ++ m) v' → Below w.heap.size w w' → K (a.put o.dst v') w') : o.wp Tryd.prog a w K Q := by
  obtain ⟨i, hi, hz, hsz, hby⟩ := info5'
  subst hn
  subst hk
  obtain ⟨v', w', hrun, r1, r2⟩ := run_append_arg_grows (P := Tryd.prog) w 26 o.type 5 i (.int .u8 0) 1 1 Tryd.underlying26 hi hz hsz hby rfl (by decide) ⟨b, off, none⟩ l.length l.length (bytesV l) (by rw [bytesV_length, Nat.mul_one])
    (fun j u hj => by rw [Addr.add_mid]; exact hl j u hj) ⟨b2, off2, none⟩ m.length c (bytesV m) (by rw [bytesV_length, Nat.mul_one]) (fun j u hj => by rw [Addr.add_mid]; exact hm j u hj) (by omega) (by unfold maxLen; omega) (by omega)
  unfold Oper.wp
  simp [execOp, ho, resolve, invoke, builtin, hs, hx, hrun, Result.andThen]
  refine h v' w' ?_ ((Below.refl _ w).grown r2 (Nat.le_refl _) (fun k hk => by cases hk))
  unfold Own
  rw [List.length_append, bytesV_append]; exact r1
section
variable {ρ : Operand → Value} {o : Oper} {x y : Operand} {w : World}
theorem run_build1 {i : Int} (ho : o.op = .buildSlice 26 1 #[(0, x)]) (hx : ρ x = .int .u8 i) (w : World) :
    (execOp ρ o).run Tryd.prog w = .ok (.value (.slice (some ⟨w.heap.size, 0, none⟩) 1 1)) (w.alloc (.cells #[.int .u8 i] 5)) := by
  obtain ⟨dst, op, ty', pos, after, guard⟩ := o
  simp only at ho
  subst ho
  go_simp
theorem run_loadNum {l : List (BitVec 64)} {b : Nat} (ho : o.op = .load 71 x) (hx : ρ x = .pointer (some ⟨b, 0, none⟩)) (hl : l.length = 5) (hr : LimbsAt w b tNum l) : (execOp ρ o).run Tryd.prog w = .ok (.value (.agg (limbsV l).toArray)) w := by
  unfold execOp
  simp only [ho, hx, Instr.loadAt, Instr.sureAddr, Sem.run_bind, Sem.run_pure, Result.andThen_ok, run_loadVar_row w b tNum 71 (limbsV l).toArray (0, 0) _ hr Tryd.underlying71 rfl (info5n l hl)]
theorem run_key16 {g : Nat} (ho : o.op = .slice 23 x (some (.const (.int .i64 16))) none none) (h0 : ∀ u, ρ (.const u) = u) (hx : ρ x = .pointer (some ⟨g, 0, none⟩)) (w : World) :
    (execOp ρ o).run Tryd.prog w = .ok (.value (.slice (some ⟨g, 16, none⟩) 16 16)) w := by
  obtain ⟨dst, op, ty', pos, after, guard⟩ := o
  simp only at ho
  subst ho
  have h1 := h0 (.int .i64 16)
  go_simp
end
end Go.Proofs.YtagkkihnfipfeaaDoor

/-
  The contract of poly.normal: limbs of 26 bits, and what is beyond them.
-/
namespace Go.Proofs.YtagkkihnfipfeaaDoor
open Go.RowKit Go.Proofs.ShaWords
attribute [local go_sem] add64 and64_mask shr64_26
/-- The first k limbs made right, and what is carried out of them. -/
def normS (x : List (BitVec 64)) : Nat → List (BitVec 64) × BitVec 64
  | 0 => (x, 0#64)
  | k + 1 => ((normS x k).1.set k (((normS x k).1.getD k 0#64 + (normS x k).2) &&& 67108863#64), ((normS x k).1.getD k 0#64 + (normS x k).2) >>> 26)
def normL (x : List (BitVec 64)) (k : Nat) : List (BitVec 64) := (normS x k).1
def normO (x : List (BitVec 64)) (k : Nat) : BitVec 64 := (normS x k).2
theorem normL_zero (x : List (BitVec 64)) : normL x 0 = x := rfl
theorem normO_zero (x : List (BitVec 64)) : normO x 0 = 0#64 := rfl
theorem normL_succ (x : List (BitVec 64)) (k : Nat) : normL x (k + 1) = (normL x k).set k (((normL x k).getD k 0#64 + normO x k) &&& 67108863#64) := rfl
theorem normO_succ (x : List (BitVec 64)) (k : Nat) : normO x (k + 1) = ((normL x k).getD k 0#64 + normO x k) >>> 26 := rfl
theorem normL_length (x : List (BitVec 64)) (k : Nat) : (normL x k).length = x.length := by
  induction k with
  | zero => rfl
  | succ k ih => rw [normL_succ, List.length_set, ih]
/-- A number that came in, and the result's block. -/
structure OneN (w : World) (L : List (BitVec 64)) (wr : World) : Prop where
  x : LimbsAt wr w.heap.size tNum L
  res : LimbsAt wr (w.heap.size + 1) tNum nought5
  below : Below w.heap.size w wr
theorem OneN.set {w wr : World} {L : List (BitVec 64)} (h : OneN w L wr) (k : Nat) (v : BitVec 64) : OneN w (L.set k v) (wr.setCell ⟨w.heap.size, k, none⟩ (.int .u64 (n64 v))) :=
  ⟨h.x.set k v, h.res.setOther (by omega) _ _, h.below.setCell (Nat.le_refl _) _⟩
theorem OneN.on {w wr w' : World} {L : List (BitVec 64)} (h : OneN w L wr) (hb : Below wr.heap.size wr w') : OneN w L w' :=
  ⟨h.x.keep hb, h.res.keep hb, h.below.trans (hb.mono h.below.size)⟩
theorem one_n (w : World) (x : List (BitVec 64)) : OneN w x ((w.alloc (.cells (limbsV x).toArray tNum)).alloc (.cells #[.int .u64 0, .int .u64 0, .int .u64 0, .int .u64 0, .int .u64 0] tNum)) :=
  ⟨LimbsAt.keep (w := w.alloc _) (heap_alloc_new w _) ((Below.refl _ _).alloc (Nat.le_refl _) _), by show _ = some (Obj.cells (limbsV nought5).toArray _ _); rw [nought5_eq]; exact heap_new_at (size_alloc _ _), ((Below.refl _ _).alloc (Nat.le_refl _) _).alloc (by rw [size_alloc]; omega) _⟩
theorem set_set_same {α : Type} (l : List α) (k : Nat) (a b : α) : (l.set k a).set k b = l.set k b := List.set_set ..

theorem results_row_tmp {P : Program} {fn : Func} {p u : Tmp} {ty : TypeId} (h : fn.results = #[.cell p ty, .tmp u]) (tmps : Array Value) (w : World) (g : Nat) (t : TypeId) (cs : Array Value) (fr : Nat × Nat) (d : TypeDesc) (v : Value)
    (hp : tmps.getD p undef = .pointer (some ⟨g, 0, none⟩)) (hv : tmps.getD u undef = v) (hg : w.heap[g]? = some (.cells cs t fr))
    (hu : P.underlying ty = some d) (hd : (match d with | .struct _ | .array _ _ => true | _ => false) = true) (hi : (P.info? ty).map (·.size) = some cs.size) :
    (results fn tmps).run P w = .ok (.tuple #[.agg cs, v]) w := by
  rw [results_cell_tmp h, hp, hv]
  simp [asAddr, Result.andThen, run_loadVar_row w g t ty cs fr d hg hu hd hi]

attribute [local irreducible] normL normO nought5
set_option maxRecDepth 100000 in
set_option maxHeartbeats 1000000 in
theorem normal_any (x : List (BitVec 64)) (w : World) (hx : x.length = 5) :
    Calls Tryd.prog 57 #[.agg (limbsV x).toArray] w fun e w' => e = .returned (.tuple #[.agg (limbsV (normL x 5)).toArray, .int .u64 (n64 (normO x 5))]) ∧ Below w.heap.size w w' := by
  have HX := Lib.hid (fun k => (normL_length x k).trans hx); clear hx
  have HO0 := Lib.hid (normO_zero x)
  go_enter Tryd.func57, Tryd.ntmps57
  go_upto_region 1 with (fail)
  refine wp_gen (OneN w (normL x 0)) (by rw [normL_zero]; exact one_n w x) ?_
  intro w0 hw0
  have HW0 := Lib.hid hw0; clear hw0
  go_wp2_with fail
  go_loopw [4, 6] (fun o i wr => ∃ k : Nat, k ≤ 5 ∧ i = .int .i64 k ∧ o = .int .u64 (n64 (normO x k)) ∧ OneN w (normL x k) wr) (fun _ i _ => 5 - (intOf i).toNat)
  case atStart => exact ⟨0, by omega, rfl, by rw [HO0.out]; rfl, HW0.out⟩
  case round =>
    clear HW0
    obtain ⟨k, hk, rfl, rfl, hw⟩ := hrel
    by_cases hlt : k < 5
    · have c0 := hw.x.cell k (by rw [HX.out]; omega)
      have cf := hw.x.frozen k
      have HS := Lib.hid (normL_succ x k)
      have HO := Lib.hid (normO_succ x k)
      have HXK := Lib.hid (HX.out k)
      have HW := Lib.hid hw; clear hw
      generalize normL x k = L at c0 HS HO HW HXK
      generalize hu : L.getD k 0#64 = u at c0 HS HO
      generalize normO x k = v at HS HO
      have HU := Lib.hid hu; clear hu
      have q0 : (k : Int) < 5 := by omega
      have p0 : 0 ≤ (k : Int) := by omega
      have z0 : (k : Int).toNat = k := by omega
      go_upto_region 6 with (fail)
      refine wp_gen (OneN w (L.set k (u + v))) (HW.out.set k _) ?_
      intro w1 hw1
      have d0 := hw1.x.cell k (by rw [List.length_set, HXK.out]; omega)
      have df := hw1.x.frozen k
      rw [set_getD_self _ _ _ _ (by rw [HXK.out]; omega)] at d0
      have HW1 := Lib.hid hw1; clear hw1 c0 cf HW
      go_wp2_with fail
      go_roundw
      case rel =>
        refine ⟨k + 1, by omega, by go_num, by rw [HO.out], ?_⟩
        rw [HS.out, ← set_set_same L k (u + v)]
        exact HW1.out.set k _
      case measure => simp [intOf]; omega
    · obtain rfl : k = 5 := by omega
      have HW := Lib.hid hw; clear hw
      have HI := Lib.hid (info5n _ (HX.out 5))
      have HOLD := Lib.hid (show (limbsV nought5).toArray.size = (limbsV (normL x 5)).toArray.size by rw [limbsV_size _ 5 (HX.out 5)]; unfold nought5; rfl)
      have HONE := Lib.hid (limbsV_one (normL x 5))
      have HROW := Lib.hid HW.out.x
      have HRES := Lib.hid HW.out.res
      have HB5 := Lib.hid HW.out.below
      clear HW
      generalize hfe : (limbsV (normL x 5)).toArray = full at HI HOLD HONE ⊢
      have HFE := Lib.hid hfe; clear hfe
      have HROW2 : Hid (wr.heap[w.heap.size]? = some (.cells full tNum (0, 0))) := show _ = _ by rw [← HFE.out]; exact HROW.out
      go_wp2_with (first
        | (refine wpList_load_row rfl 71 (.tmp 1) rfl w.heap.size rfl tNum full (0, 0) _ HROW2.out Tryd.underlying71 rfl HI.out ?_)
        | (refine wpList_store_row rfl 71 (.tmp 2) (.tmp 25) rfl (w.heap.size + 1) full rfl rfl tNum _ HRES.out HI.out HOLD.out HONE.out ?_))
      have hrow := setRow_heap wr (w.heap.size + 1) _ full tNum _ HRES.out
      have hbel := below_setRow HB5.out (show w.heap.size ≤ w.heap.size + 1 by omega) full
      generalize wr.setRow (w.heap.size + 1) full = wz at hrow hbel ⊢
      have hres : ∀ tmps : Array Value, tmps.getD 2 undef = .pointer (some ⟨w.heap.size + 1, 0, none⟩) → tmps.getD 3 undef = .int .u64 (n64 (normO x 5)) → Sem.run Tryd.prog (results Tryd.f57 tmps) wz = .ok (.tuple #[.agg full, .int .u64 (n64 (normO x 5))]) wz := fun tmps h h2 =>
        results_row_tmp (P := Tryd.prog) (p := 2) (u := 3) (ty := 71) Tryd.results57 tmps wz (w.heap.size + 1) tNum full (0, 0) _ _ h h2 hrow Tryd.underlying71 rfl HI.out
      exact bodyPost_ret (v := .tuple #[.agg full, .int .u64 (n64 (normO x 5))]) (hres _ rfl rfl) rfl ⟨by rw [HFE.out], hbel⟩
end Go.Proofs.YtagkkihnfipfeaaDoor

/-
  The contract of poly.numberOf: the number of at most seventeen bytes.
-/
namespace Go.Proofs.YtagkkihnfipfeaaDoor
open Go.RowKit Go.Proofs.ShaWords
attribute [local go_sem] add64 wrap64_n8 shl64
/-- The first k bytes taken in. -/
def numK (bs : List (BitVec 8)) : Nat → List (BitVec 64)
  | 0 => nought5
  | k + 1 => (numK bs k).set (8 * k / 26) ((numK bs k).getD (8 * k / 26) 0#64 + ext64 (bs.getD k 0#8) <<< (8 * k % 26))
theorem numK_zero (bs : List (BitVec 8)) : numK bs 0 = nought5 := rfl
theorem numK_succ (bs : List (BitVec 8)) (k : Nat) : numK bs (k + 1) = (numK bs k).set (8 * k / 26) ((numK bs k).getD (8 * k / 26) 0#64 + ext64 (bs.getD k 0#8) <<< (8 * k % 26)) := rfl
theorem numK_length (bs : List (BitVec 8)) (k : Nat) : (numK bs k).length = 5 := by
  induction k with
  | zero => rfl
  | succ k ih => rw [numK_succ, List.length_set, ih]
/-- The number's limbs. -/
def numOf (bs : List (BitVec 8)) : List (BitVec 64) := normL (numK bs bs.length) 5
theorem numOf_length (bs : List (BitVec 8)) : (numOf bs).length = 5 := (normL_length _ _).trans (numK_length _ _)
/-- The result's block, the number's. -/
structure NumN (w : World) (n : List (BitVec 64)) (wr : World) : Prop where
  res : LimbsAt wr w.heap.size tNum nought5
  n : LimbsAt wr (w.heap.size + 1) tNum n
  below : Below w.heap.size w wr
theorem NumN.set {w wr : World} {n : List (BitVec 64)} (h : NumN w n wr) (k : Nat) (v : BitVec 64) : NumN w (n.set k v) (wr.setCell ⟨w.heap.size + 1, k, none⟩ (.int .u64 (n64 v))) :=
  ⟨h.res.setOther (by omega) _ _, h.n.set k v, h.below.setCell (show w.heap.size ≤ w.heap.size + 1 by omega) _⟩
theorem NumN.on {w wr w' : World} {n : List (BitVec 64)} (h : NumN w n wr) (hb : Below wr.heap.size wr w') : NumN w n w' := ⟨h.res.keep hb, h.n.keep hb, h.below.trans (hb.mono h.below.size)⟩
theorem NumN.row {w wr : World} {n m : List (BitVec 64)} (h : NumN w n wr) (hw : LimbsAt (wr.setRow (w.heap.size + 1) (limbsV m).toArray) (w.heap.size + 1) tNum m) : NumN w m (wr.setRow (w.heap.size + 1) (limbsV m).toArray) :=
  ⟨h.res.past (grown_setRow _ _ _) (by omega), hw, below_setRow h.below (show w.heap.size ≤ w.heap.size + 1 by omega) _⟩

attribute [local irreducible] numK nought5 normL
set_option maxRecDepth 100000 in
set_option maxHeartbeats 1000000 in
theorem numberOf_any (bs : List (BitVec 8)) (m : Nat) (p : Option Addr) (cap : Nat) (w : World) (hm : bs.length = m) (hl : m ≤ 17) (hL : Lies w p bs) :
    Calls Tryd.prog 44 #[.slice p m cap] w fun e w' => e = .returned (.agg (limbsV (numOf bs)).toArray) ∧ Below w.heap.size w w' := by
  have HM := Lib.hid hm; clear hm
  have HL := Lib.hid hL; clear hL
  have HN := Lib.hid (numK_length bs)
  have HOF : Hid (numOf bs = normL (numK bs m) 5) := show _ = _ by rw [← HM.out]; rfl
  go_enter Tryd.func44, Tryd.ntmps44
  go_upto_region 2 with (fail)
  refine wp_gen (NumN w (numK bs 0)) ?_ ?_
  · rw [numK_zero]
    refine ⟨LimbsAt.keep (w := w.alloc _) (by show _ = some (Obj.cells (limbsV nought5).toArray _ _); rw [nought5_eq]; exact heap_alloc_new w _) ((Below.refl _ _).alloc (Nat.le_refl _) _), by show _ = some (Obj.cells (limbsV nought5).toArray _ _); rw [nought5_eq]; exact heap_new_at (by simp), ((Below.refl _ _).alloc (Nat.le_refl _) _).alloc (by simp) _⟩
  intro w0 hw0
  have HW0 := Lib.hid hw0; clear hw0
  go_wp2_with fail
  go_loopw [8] (fun i wr => ∃ k : Nat, k ≤ m ∧ i = .int .i64 k ∧ NumN w (numK bs k) wr) (fun i _ => m - (intOf i).toNat)
  case atStart => exact ⟨0, by omega, rfl, HW0.out⟩
  case round =>
    clear HW0
    obtain ⟨k, hk, rfl, hw⟩ := hrel
    by_cases hlt : k < m
    · obtain ⟨b, off, rfl, hr⟩ : ∃ b off, p = some ⟨b, off, none⟩ ∧ w.rangeAt b off (bytesV bs) := by
        rcases HL.out with h | h
        · exact absurd h (by intro h; have := HM.out; rw [h] at this; simp at this; omega)
        · exact h
      have cb := range_cell (range_keep hr hw.below) k (by rw [HM.out]; omega)
      have c0 := hw.n.cell (8 * k / 26) (by rw [HN.out]; omega)
      have cf := hw.n.frozen (8 * k / 26)
      have HS := Lib.hid (numK_succ bs k)
      have HW := Lib.hid hw; clear hw hr
      generalize bs.getD k 0#8 = x at cb HS
      generalize (numK bs k).getD (8 * k / 26) 0#64 = z at c0 HS
      have q0 : (k : Int) < (m : Int) := by omega
      have p0 : 0 ≤ (k : Int) := by omega
      have z0 : (k : Int).toNat = k := by omega
      have m0 : IntKind.i64.wrap (8 * (k : Int)) = 8 * (k : Int) := IntWalk.i64_in _ (by omega)
      have d0 : (8 * (k : Int)).tdiv 26 = ((8 * k / 26 : Nat) : Int) := by rw [Int.tdiv_eq_ediv_of_nonneg (by omega)]; omega
      have r0 : (8 * (k : Int)).tmod 26 = ((8 * k % 26 : Nat) : Int) := by rw [Int.tmod_eq_emod_of_nonneg (by omega)]; omega
      have e0 : ((8 * k / 26 : Nat) : Int) < 5 := by omega
      have e1 : 0 ≤ ((8 * k / 26 : Nat) : Int) := by omega
      have e2 : (((8 * k / 26 : Nat) : Int)).toNat = 8 * k / 26 := by omega
      have f1 : 0 ≤ ((8 * k % 26 : Nat) : Int) := by omega
      have f2 : (((8 * k % 26 : Nat) : Int)).toNat = 8 * k % 26 := by omega
      have f3 : ¬ (64 : Int) ≤ ((8 * k % 26 : Nat) : Int) := by omega
      have w1 : IntKind.i64.wrap ((8 * k / 26 : Nat) : Int) = ((8 * k / 26 : Nat) : Int) := IntWalk.i64_in _ (by omega)
      have w2 : IntKind.i64.wrap ((8 * k % 26 : Nat) : Int) = ((8 * k % 26 : Nat) : Int) := IntWalk.i64_in _ (by omega)
      generalize 8 * k / 26 = d at c0 cf HS d0 e0 e1 e2 w1
      generalize 8 * k % 26 = s at HS r0 f1 f2 f3 w2
      go_wp2_with fail
      go_still_tail 13, (by kernel_rfl)
      change wpList _ _ _ _ _ wr.drew
      go_wp2_with fail
      go_roundw
      case rel =>
        refine ⟨k + 1, by omega, by go_num, ?_⟩
        rw [HS.out]
        exact (HW.out.on ((Below.refl _ _).drew)).set _ _
      case measure => simp [intOf]; omega
    · obtain rfl : k = m := by omega
      have HW := Lib.hid hw; clear hw
      have HI := Lib.hid (info5n _ (HN.out k))
      have HROW := Lib.hid HW.out.n
      have HNL := Lib.hid ((normL_length (numK bs k) 5).trans (HN.out k))
      go_wp2_with (refine wpList_load_row rfl 71 (.tmp 3) rfl (w.heap.size + 1) rfl tNum _ (0, 0) _ HROW.out Tryd.underlying71 rfl HI.out ?_)
      refine (normal_any _ wr (HN.out k)).mono ?_
      rintro e w1 ⟨rfl, hb⟩
      have HW1 := Lib.hid (HW.out.on hb); clear hb HW HROW HI
      have HI := Lib.hid (info5n _ HNL.out)
      have HOLD := Lib.hid (show (limbsV (numK bs k)).toArray.size = (limbsV (normL (numK bs k) 5)).toArray.size by rw [limbsV_size _ 5 HNL.out, limbsV_size _ 5 (HN.out k)])
      have HOLD2 := Lib.hid (show (limbsV nought5).toArray.size = (limbsV (normL (numK bs k) 5)).toArray.size by rw [limbsV_size _ 5 HNL.out]; unfold nought5; rfl)
      have HONE := Lib.hid (limbsV_one (normL (numK bs k) 5))
      have HROW := Lib.hid HW1.out.n
      have HRES : Hid (w1.setRow (w.heap.size + 1) (limbsV (normL (numK bs k) 5)).toArray |>.heap[w.heap.size]? = some (.cells (limbsV nought5).toArray tNum (0, 0))) := show _ = _ from HW1.out.res.past (grown_setRow _ _ _) (by omega)
      have HROW2 : Hid ((w1.setRow (w.heap.size + 1) (limbsV (normL (numK bs k) 5)).toArray).heap[w.heap.size + 1]? = some (.cells (limbsV (normL (numK bs k) 5)).toArray tNum (0, 0))) := show _ = _ from setRow_heap _ _ _ _ _ _ HROW.out
      have HB1 := Lib.hid (below_setRow HW1.out.below (show w.heap.size ≤ w.heap.size + 1 by omega) (limbsV (normL (numK bs k) 5)).toArray)
      clear HW1
      generalize hfe : (limbsV (normL (numK bs k) 5)).toArray = full at HI HOLD HOLD2 HONE HRES HROW2 HB1 ⊢
      have HFE := Lib.hid hfe; clear hfe
      go_wp2_with (first
        | (refine wpList_store_row rfl 71 (.tmp 3) (.tmp 30) rfl (w.heap.size + 1) full rfl rfl tNum _ HROW.out HI.out HOLD.out HONE.out ?_)
        | (refine wpList_load_row rfl 71 (.tmp 3) rfl (w.heap.size + 1) rfl tNum full (0, 0) _ HROW2.out Tryd.underlying71 rfl HI.out ?_)
        | (refine wpList_store_row rfl 71 (.tmp 2) (.tmp 32) rfl w.heap.size full rfl rfl tNum _ HRES.out HI.out HOLD2.out HONE.out ?_))
      have hrow := setRow_heap (w1.setRow (w.heap.size + 1) full) w.heap.size _ full tNum _ HRES.out
      have hbel := below_setRow HB1.out (Nat.le_refl _) full
      generalize (w1.setRow (w.heap.size + 1) full).setRow w.heap.size full = wz at hrow hbel ⊢
      have hres : ∀ tmps : Array Value, tmps.getD 2 undef = .pointer (some ⟨w.heap.size, 0, none⟩) → Sem.run Tryd.prog (results Tryd.f44 tmps) wz = .ok (.agg full) wz := fun tmps h =>
        results_cell_row (P := Tryd.prog) (p := 2) (ty := 71) Tryd.results44 tmps wz w.heap.size tNum full (0, 0) _ h hrow Tryd.underlying71 rfl HI.out
      exact bodyPost_ret (v := .agg full) (hres _ rfl) rfl ⟨by rw [HOF.out, HFE.out], hbel⟩
end Go.Proofs.YtagkkihnfipfeaaDoor

/-
  The contract of poly.cleared: the number of a key's first sixteen bytes, in which the bits that are let go are cleared.
-/
namespace Go.Proofs.YtagkkihnfipfeaaDoor
open Go.RowKit Go.Proofs.ShaWords
theorem andNot240 (x : BitVec 8) : bits .andNot .u8 (n8 x) 240 = n8 (x &&& 15#8) := by
  have H : ∀ v : Fin 256, bits .andNot .u8 (v.val : Int) 240 = ((v.val &&& 15 : Nat) : Int) := by decide +kernel
  have h := H ⟨x.toNat, x.isLt⟩
  unfold n8
  rw [BitVec.toNat_and]
  exact h
theorem andNot3 (x : BitVec 8) : bits .andNot .u8 (n8 x) 3 = n8 (x &&& 252#8) := by
  have H : ∀ v : Fin 256, bits .andNot .u8 (v.val : Int) 3 = ((v.val &&& 252 : Nat) : Int) := by decide +kernel
  have h := H ⟨x.toNat, x.isLt⟩
  unfold n8
  rw [BitVec.toNat_and]
  exact h
attribute [local go_sem] andNot240 andNot3
/-- The first k of the four bytes cleared: above, below. -/
def clrA (key : List (BitVec 8)) : Nat → List (BitVec 8)
  | 0 => key
  | k + 1 => (clrA key k).set (4 * k + 3) ((clrA key k).getD (4 * k + 3) 0#8 &&& 15#8)
def clrB (key : List (BitVec 8)) : Nat → List (BitVec 8)
  | 0 => clrA key 4
  | k + 1 => (clrB key k).set (4 * k + 4) ((clrB key k).getD (4 * k + 4) 0#8 &&& 252#8)
theorem clrA_zero (key : List (BitVec 8)) : clrA key 0 = key := rfl
theorem clrA_succ (key : List (BitVec 8)) (k : Nat) : clrA key (k + 1) = (clrA key k).set (4 * k + 3) ((clrA key k).getD (4 * k + 3) 0#8 &&& 15#8) := rfl
theorem clrB_zero (key : List (BitVec 8)) : clrB key 0 = clrA key 4 := rfl
theorem clrB_succ (key : List (BitVec 8)) (k : Nat) : clrB key (k + 1) = (clrB key k).set (4 * k + 4) ((clrB key k).getD (4 * k + 4) 0#8 &&& 252#8) := rfl
theorem clrA_length (key : List (BitVec 8)) (k : Nat) : (clrA key k).length = key.length := by
  induction k with
  | zero => rfl
  | succ k ih => rw [clrA_succ, List.length_set, ih]
theorem clrB_length (key : List (BitVec 8)) (k : Nat) : (clrB key k).length = key.length := by
  induction k with
  | zero => exact clrA_length _ _
  | succ k ih => rw [clrB_succ, List.length_set, ih]
/-- The bytes of r. -/
def clrOf (key : List (BitVec 8)) : List (BitVec 8) := (clrB key 3).take 16
theorem clrOf_length (key : List (BitVec 8)) (h : key.length = 32) : (clrOf key).length = 16 := by rw [clrOf, List.length_take, clrB_length, h]; rfl
/-- The key's block, the result's. -/
structure ClrN (w : World) (key : List (BitVec 8)) (wr : World) : Prop where
  key : BytesAt wr w.heap.size 23 key
  res : LimbsAt wr (w.heap.size + 1) tNum nought5
  below : Below w.heap.size w wr
theorem ClrN.set {w wr : World} {key : List (BitVec 8)} (h : ClrN w key wr) (k : Nat) (v : BitVec 8) : ClrN w (key.set k v) (wr.setCell ⟨w.heap.size, k, none⟩ (.int .u8 (n8 v))) :=
  ⟨h.key.put k v, h.res.setOther (by omega) _ _, h.below.setCell (Nat.le_refl _) _⟩
theorem ClrN.on {w wr w' : World} {key : List (BitVec 8)} (h : ClrN w key wr) (hb : Below wr.heap.size wr w') : ClrN w key w' := ⟨h.key.keep hb, h.res.keep hb, h.below.trans (hb.mono h.below.size)⟩

attribute [local irreducible] clrA clrB nought5 numOf
set_option maxRecDepth 100000 in
set_option maxHeartbeats 1000000 in
theorem cleared_any (key : List (BitVec 8)) (w : World) (hk : key.length = 32) :
    Calls Tryd.prog 40 #[.agg (bytesV key).toArray] w fun e w' => e = .returned (.agg (limbsV (numOf (clrOf key))).toArray) ∧ Below w.heap.size w w' := by
  have HKL := Lib.hid hk
  have HA := Lib.hid (fun k => (clrA_length key k).trans hk)
  have HB := Lib.hid (fun k => (clrB_length key k).trans hk); clear hk
  have HB0 := Lib.hid (clrB_zero key)
  go_enter Tryd.func40, Tryd.ntmps40
  go_upto_region 1 with (fail)
  refine wp_gen (ClrN w (clrA key 0)) ?_ ?_
  · rw [clrA_zero]
    exact ⟨BytesAt.keep (w := w.alloc _) (heap_alloc_new w _) ((Below.refl _ _).alloc (Nat.le_refl _) _), by show _ = some (Obj.cells (limbsV nought5).toArray _ _); rw [nought5_eq]; exact heap_new_at (by simp), ((Below.refl _ _).alloc (Nat.le_refl _) _).alloc (by simp) _⟩
  intro w0 hw0
  have HW0 := Lib.hid hw0; clear hw0
  go_wp2_with fail
  go_loopw [3] (fun i wr => ∃ k : Nat, k ≤ 4 ∧ i = .int .i64 ((4 * k + 3 : Nat) : Int) ∧ ClrN w (clrA key k) wr) (fun i _ => 20 - (intOf i).toNat)
  case atStart => exact ⟨0, by omega, rfl, HW0.out⟩
  case round =>
    clear HW0
    obtain ⟨k, hk, rfl, hw⟩ := hrel
    by_cases hlt : k < 4
    · have c0 := hw.key.cell (4 * k + 3) (by rw [HA.out]; omega)
      have cf := hw.key.frozenAt (4 * k + 3)
      have HS := Lib.hid (clrA_succ key k)
      have HW := Lib.hid hw; clear hw
      generalize (clrA key k).getD (4 * k + 3) 0#8 = x at c0 HS
      have q0 : ((4 * k + 3 : Nat) : Int) < 16 := by omega
      have q1 : ((4 * k + 3 : Nat) : Int) < 32 := by omega
      have p0 : 0 ≤ ((4 * k + 3 : Nat) : Int) := by omega
      have z0 : ((4 * k + 3 : Nat) : Int).toNat = 4 * k + 3 := by omega
      have m0 : IntKind.i64.wrap (((4 * k + 3 : Nat) : Int) + 4) = ((4 * (k + 1) + 3 : Nat) : Int) := by rw [IntWalk.i64_in _ (by omega)]; omega
      generalize hi : 4 * k + 3 = i at c0 cf HS q0 q1 p0 z0 m0
      have HI := Lib.hid hi; clear hi
      go_wp2_with fail
      go_roundw
      case rel =>
        refine ⟨k + 1, by omega, rfl, ?_⟩
        rw [HS.out]
        exact HW.out.set _ _
      case measure => have := HI.out; simp [intOf]; omega
    · obtain rfl : k = 4 := by omega
      have HW := Lib.hid (show ClrN w (clrB key 0) wr by rw [HB0.out]; exact hw); clear hw
      go_wp2_with fail
      go_loopw [4] (fun i wr => ∃ k : Nat, k ≤ 3 ∧ i = .int .i64 ((4 * k + 4 : Nat) : Int) ∧ ClrN w (clrB key k) wr) (fun i _ => 20 - (intOf i).toNat)
      case atStart => exact ⟨0, by omega, rfl, HW.out⟩
      case round =>
        clear HW
        obtain ⟨k, hk, rfl, hw⟩ := hrel
        by_cases hlt : k < 3
        · have c0 := hw.key.cell (4 * k + 4) (by rw [HB.out]; omega)
          have cf := hw.key.frozenAt (4 * k + 4)
          have HS := Lib.hid (clrB_succ key k)
          have HW := Lib.hid hw; clear hw
          generalize (clrB key k).getD (4 * k + 4) 0#8 = x at c0 HS
          have q0 : ((4 * k + 4 : Nat) : Int) < 16 := by omega
          have q1 : ((4 * k + 4 : Nat) : Int) < 32 := by omega
          have p0 : 0 ≤ ((4 * k + 4 : Nat) : Int) := by omega
          have z0 : ((4 * k + 4 : Nat) : Int).toNat = 4 * k + 4 := by omega
          have m0 : IntKind.i64.wrap (((4 * k + 4 : Nat) : Int) + 4) = ((4 * (k + 1) + 4 : Nat) : Int) := by rw [IntWalk.i64_in _ (by omega)]; omega
          generalize hi : 4 * k + 4 = i at c0 cf HS q0 q1 p0 z0 m0
          have HI := Lib.hid hi; clear hi
          go_wp2_with fail
          go_roundw
          case rel =>
            refine ⟨k + 1, by omega, rfl, ?_⟩
            rw [HS.out]
            exact HW.out.set _ _
          case measure => have := HI.out; simp [intOf]; omega
        · obtain rfl : k = 3 := by omega
          have HW := Lib.hid hw; clear hw
          have HLie := Lib.hid (show Lies wr (some ⟨w.heap.size, 0, none⟩) (clrOf key) from Or.inr ⟨_, _, rfl, by
            have h := HW.out.key.range
            intro j v hv
            refine h j v ?_
            rw [clrOf, bytesV_take, List.getElem?_take] at hv
            split at hv
            · exact hv
            · cases hv⟩)
          have HLen := Lib.hid (clrOf_length key HKL.out)
          go_wp2_with fail
          refine (numberOf_any (clrOf key) 16 _ _ wr HLen.out (by omega) HLie.out).mono ?_
          rintro e w1 ⟨rfl, hb⟩
          have HW1 := Lib.hid (HW.out.on hb); clear hb HW HLie
          have HNL := Lib.hid (numOf_length (clrOf key))
          have HI := Lib.hid (info5n _ HNL.out)
          have HOLD2 := Lib.hid (show (limbsV nought5).toArray.size = (limbsV (numOf (clrOf key))).toArray.size by rw [limbsV_size _ 5 HNL.out]; unfold nought5; rfl)
          have HONE := Lib.hid (limbsV_one (numOf (clrOf key)))
          have HRES := Lib.hid HW1.out.res
          have HB1 := Lib.hid HW1.out.below
          clear HW1
          generalize hfe : (limbsV (numOf (clrOf key))).toArray = full at HI HOLD2 HONE ⊢
          have HFE := Lib.hid hfe; clear hfe
          go_wp2_with (refine wpList_store_row rfl 71 (.tmp 2) (.tmp 24) rfl (w.heap.size + 1) full rfl rfl tNum _ HRES.out HI.out HOLD2.out HONE.out ?_)
          have hrow := setRow_heap w1 (w.heap.size + 1) _ full tNum _ HRES.out
          have hbel := below_setRow HB1.out (show w.heap.size ≤ w.heap.size + 1 by omega) full
          generalize w1.setRow (w.heap.size + 1) full = wz at hrow hbel ⊢
          have hres : ∀ tmps : Array Value, tmps.getD 2 undef = .pointer (some ⟨w.heap.size + 1, 0, none⟩) → Sem.run Tryd.prog (results Tryd.f40 tmps) wz = .ok (.agg full) wz := fun tmps h =>
            results_cell_row (P := Tryd.prog) (p := 2) (ty := 71) Tryd.results40 tmps wz (w.heap.size + 1) tNum full (0, 0) _ h hrow Tryd.underlying71 rfl HI.out
          exact bodyPost_ret (v := .agg full) (hres _ rfl) rfl ⟨by rw [HFE.out], hbel⟩
end Go.Proofs.YtagkkihnfipfeaaDoor

/-
  The contract of poly.plus: limb by limb.
-/
namespace Go.Proofs.YtagkkihnfipfeaaDoor
open Go.RowKit Go.Proofs.ShaWords
attribute [local go_sem] add64
attribute [local irreducible] addL nought5
set_option maxRecDepth 100000 in
set_option maxHeartbeats 1000000 in
theorem plus_any (x y : List (BitVec 64)) (w : World) (hx : x.length = 5) (hy : y.length = 5) :
    Calls Tryd.prog 43 #[.agg (limbsV x).toArray, .agg (limbsV y).toArray] w fun e w' => e = .returned (.agg (limbsV (addL x y 5)).toArray) ∧ Below w.heap.size w w' := by
  have HX := Lib.hid (fun k => (addL_length x y k).trans hx)
  have HY := Lib.hid hy; clear hy hx
  go_enter Tryd.func43, Tryd.ntmps43
  go_upto_region 1 with (fail)
  refine wp_gen (TwoN w (addL x y 0) y) (by rw [addL_zero]; exact two_n w x y) ?_
  intro w0 hw0
  have HW0 := Lib.hid hw0; clear hw0
  go_wp2_with fail
  go_loopw [6] (fun i wr => ∃ k : Nat, k ≤ 5 ∧ i = .int .i64 k ∧ TwoN w (addL x y k) y wr) (fun i _ => 5 - (intOf i).toNat)
  case atStart => exact ⟨0, by omega, rfl, HW0.out⟩
  case round =>
    clear HW0
    obtain ⟨k, hk, rfl, hw⟩ := hrel
    by_cases hlt : k < 5
    · have c0 := hw.x.cell k (by rw [HX.out]; omega)
      have c1 := hw.y.cell k (by rw [HY.out]; omega)
      have cf := hw.x.frozen k
      have HS := Lib.hid (addL_succ x y k)
      have HW := Lib.hid hw; clear hw
      generalize (addL x y k).getD k 0#64 = u at c0 HS
      generalize y.getD k 0#64 = v at c1 HS
      have q0 : (k : Int) < 5 := by omega
      have p0 : 0 ≤ (k : Int) := by omega
      have z0 : (k : Int).toNat = k := by omega
      go_wp2_with fail
      go_still_tail 8, (by kernel_rfl)
      change wpList _ _ _ _ _ wr.drew
      go_wp2_with fail
      go_roundw
      case rel =>
        refine ⟨k + 1, by omega, by go_num, ?_⟩
        rw [HS.out]
        exact HW.out.on ((Below.refl _ _).drew) |>.set k _
      case measure => simp [intOf]; omega
    · obtain rfl : k = 5 := by omega
      have HW := Lib.hid hw; clear hw
      have HI := Lib.hid (info5n _ (HX.out 5))
      have HOLD := Lib.hid (show (limbsV nought5).toArray.size = (limbsV (addL x y 5)).toArray.size by rw [limbsV_size _ 5 (HX.out 5)]; unfold nought5; rfl)
      have HONE := Lib.hid (limbsV_one (addL x y 5))
      have HROW := Lib.hid HW.out.x
      have HRES := Lib.hid HW.out.res
      have HB5 := Lib.hid HW.out.below
      clear HW
      generalize hfe : (limbsV (addL x y 5)).toArray = full at HI HOLD HONE ⊢
      have HFE := Lib.hid hfe; clear hfe
      have HROW2 : Hid (wr.heap[w.heap.size]? = some (.cells full tNum (0, 0))) := show _ = _ by rw [← HFE.out]; exact HROW.out
      go_wp2_with (first
        | (refine wpList_load_row rfl 71 (.tmp 2) rfl w.heap.size rfl tNum full (0, 0) _ HROW2.out Tryd.underlying71 rfl HI.out ?_)
        | (refine wpList_store_row rfl 71 (.tmp 4) (.tmp 18) rfl (w.heap.size + 1 + 1) full rfl rfl tNum _ HRES.out HI.out HOLD.out HONE.out ?_))
      have hrow := setRow_heap wr (w.heap.size + 1 + 1) _ full tNum _ HRES.out
      have hbel := below_setRow HB5.out (show w.heap.size ≤ w.heap.size + 1 + 1 by omega) full
      generalize wr.setRow (w.heap.size + 1 + 1) full = wz at hrow hbel ⊢
      have hres : ∀ tmps : Array Value, tmps.getD 4 undef = .pointer (some ⟨w.heap.size + 1 + 1, 0, none⟩) → Sem.run Tryd.prog (results Tryd.f43 tmps) wz = .ok (.agg full) wz := fun tmps h =>
        results_cell_row (P := Tryd.prog) (p := 4) (ty := 71) Tryd.results43 tmps wz (w.heap.size + 1 + 1) tNum full (0, 0) _ h hrow Tryd.underlying71 rfl HI.out
      exact bodyPost_ret (v := .agg full) (hres _ rfl) rfl ⟨by rw [HFE.out], hbel⟩
end Go.Proofs.YtagkkihnfipfeaaDoor

/-
  The contract of poly.reduced.
-/
namespace Go.Proofs.YtagkkihnfipfeaaDoor
open Go.RowKit Go.Proofs.ShaWords
attribute [local go_sem] add64 mul64_5
/-- A number with one limb, the lowest. -/
def oneLimb (x : BitVec 64) : List (BitVec 64) := [x, 0#64, 0#64, 0#64, 0#64]
theorem oneLimb_eq (x : BitVec 64) : (limbsV (oneLimb x)).toArray = #[Value.int .u64 (n64 x), Value.int .u64 0, Value.int .u64 0, Value.int .u64 0, Value.int .u64 0] := rfl
/-- What is beyond the limbs, folded in. -/
def redA (x : List (BitVec 64)) : List (BitVec 64) := (normL x 5).set 0 ((normL x 5).getD 0 0#64 + 5#64 * normO x 5)
/-- Is the number p or more? -/
def redO (x : List (BitVec 64)) : BitVec 64 := normO (addL (redA x) (oneLimb 5#64) 5) 5
def redOf (x : List (BitVec 64)) : List (BitVec 64) := normL (addL (redA x) (oneLimb (5#64 * redO x)) 5) 5
theorem redA_length (x : List (BitVec 64)) (h : x.length = 5) : (redA x).length = 5 := by rw [redA, List.length_set, normL_length, h]
theorem redOf_length (x : List (BitVec 64)) (h : x.length = 5) : (redOf x).length = 5 := by rw [redOf, normL_length, addL_length, redA_length x h]
theorem redA_eq (x : List (BitVec 64)) : redA x = (normL x 5).set 0 ((normL x 5).getD 0 0#64 + 5#64 * normO x 5) := rfl
theorem redO_eq (x : List (BitVec 64)) : redO x = normO (addL (redA x) (oneLimb 5#64) 5) 5 := rfl
theorem redOf_eq (x : List (BitVec 64)) : redOf x = normL (addL (redA x) (oneLimb (5#64 * redO x)) 5) 5 := rfl
theorem OneN.row {w wr : World} {L m : List (BitVec 64)} (h : OneN w L wr) : OneN w m (wr.setRow w.heap.size (limbsV m).toArray) :=
  ⟨setRow_heap _ _ _ _ _ _ h.x, h.res.past (grown_setRow _ _ _) (by omega), below_setRow h.below (Nat.le_refl _) _⟩
theorem plus_one (x : List (BitVec 64)) (c : BitVec 64) (w : World) (hx : x.length = 5) :
    Calls Tryd.prog 43 #[.agg (limbsV x).toArray, .agg #[.int .u64 (n64 c), .int .u64 0, .int .u64 0, .int .u64 0, .int .u64 0]] w fun e w' => e = .returned (.agg (limbsV (addL x (oneLimb c) 5)).toArray) ∧ Below w.heap.size w w' := by
  rw [← oneLimb_eq]
  exact plus_any x (oneLimb c) w hx rfl
theorem plus_five (x : List (BitVec 64)) (w : World) (hx : x.length = 5) :
    Calls Tryd.prog 43 #[.agg (limbsV x).toArray, .agg #[.int .u64 5, .int .u64 0, .int .u64 0, .int .u64 0, .int .u64 0]] w fun e w' => e = .returned (.agg (limbsV (addL x (oneLimb 5#64) 5)).toArray) ∧ Below w.heap.size w w' :=
  plus_one x 5#64 w hx

attribute [local irreducible] normL normO nought5 addL redA redO redOf oneLimb
set_option maxRecDepth 100000 in
set_option maxHeartbeats 4000000 in
theorem reduced_any (x : List (BitVec 64)) (w : World) (hx : x.length = 5) :
    Calls Tryd.prog 41 #[.agg (limbsV x).toArray] w fun e w' => e = .returned (.agg (limbsV (redOf x)).toArray) ∧ Below w.heap.size w w' := by
  have HX := Lib.hid hx
  have HN := Lib.hid ((normL_length x 5).trans hx)
  have HA := Lib.hid (redA_length x hx)
  have HR := Lib.hid (redOf_length x hx); clear hx
  go_enter Tryd.func41, Tryd.ntmps41
  go_upto_region 1 with (fail)
  refine wp_gen (OneN w x) (one_n w x) ?_
  intro w0 hw0
  have HROW := Lib.hid hw0.x
  have HI := Lib.hid (info5n _ HX.out)
  have HW0 := Lib.hid hw0; clear hw0
  go_wp2_with (refine wpList_load_row rfl 71 (.tmp 1) rfl w.heap.size rfl tNum _ (0, 0) _ HROW.out Tryd.underlying71 rfl HI.out ?_)
  refine (normal_any x w0 HX.out).mono ?_
  rintro e w1 ⟨rfl, hb⟩
  have HW1 := Lib.hid (HW0.out.on hb); clear hb HW0 HROW HI
  have HNO := Lib.hid (rfl : normO x 5 = normO x 5)
  have HRA := Lib.hid (redA_eq x)
  have HRO := Lib.hid (redO_eq x)
  have HRF := Lib.hid (redOf_eq x)
  generalize normL x 5 = l1 at HN HRA ⊢
  generalize normO x 5 = o1 at HRA ⊢
  have HI1 := Lib.hid (info5n _ HN.out)
  have HOLD1 := Lib.hid (show (limbsV x).toArray.size = (limbsV l1).toArray.size by rw [limbsV_size _ 5 HX.out, limbsV_size _ 5 HN.out])
  have HONE1 := Lib.hid (limbsV_one l1)
  have HROW1 := Lib.hid HW1.out.x
  go_upto_region 2 with (refine wpList_store_row rfl 71 (.tmp 1) (.tmp 7) rfl w.heap.size _ rfl rfl tNum _ HROW1.out HI1.out HOLD1.out HONE1.out ?_)
  refine wp_gen (OneN w l1) HW1.out.row ?_
  clear HW1 HROW1 HOLD1 HONE1 HI1
  intro w2 hw2
  have c0 := hw2.x.cell 0 (by rw [HN.out]; omega)
  have cf := hw2.x.frozen 0
  have HW2 := Lib.hid hw2; clear hw2
  generalize l1.getD 0 0#64 = u at c0 HRA
  go_upto_region 3 with (fail)
  refine wp_gen (OneN w (redA x)) (by rw [HRA.out]; exact HW2.out.set 0 _) ?_
  clear c0 cf HW2 HRA HN
  intro w3 hw3
  generalize redA x = ra at hw3 HA HRO HRF
  have HI3 := Lib.hid (info5n _ HA.out)
  have HROW3 := Lib.hid hw3.x
  have HW3 := Lib.hid hw3; clear hw3
  go_wp2_with (refine wpList_load_row rfl 71 (.tmp 1) rfl w.heap.size rfl tNum _ (0, 0) _ HROW3.out Tryd.underlying71 rfl HI3.out ?_)
  refine (plus_five ra w3 HA.out).mono ?_
  rintro e w4 ⟨rfl, hb⟩
  have HW4 := Lib.hid (HW3.out.on hb); clear hb HW3 HROW3
  go_wp2_with fail
  refine (normal_any _ w4 ((addL_length _ _ _).trans HA.out)).mono ?_
  rintro e w5 ⟨rfl, hb⟩
  rw [← HRO.out]
  have HW5 := Lib.hid (HW4.out.on hb); clear hb HW4 HRO
  have HROW5 := Lib.hid HW5.out.x
  generalize redO x = ro at HRF ⊢
  go_wp2_with (refine wpList_load_row rfl 71 (.tmp 1) rfl w.heap.size rfl tNum _ (0, 0) _ HROW5.out Tryd.underlying71 rfl HI3.out ?_)
  refine (plus_one ra (5#64 * ro) w5 HA.out).mono ?_
  rintro e w6 ⟨rfl, hb⟩
  have HW6 := Lib.hid (HW5.out.on hb); clear hb HW5 HROW5
  go_wp2_with fail
  refine (normal_any _ w6 ((addL_length _ _ _).trans HA.out)).mono ?_
  rintro e w7 ⟨rfl, hb⟩
  rw [← HRF.out]
  have HW7 := Lib.hid (HW6.out.on hb); clear hb HW6 HRF
  have HI := Lib.hid (info5n _ HR.out)
  have HOLD := Lib.hid (show (limbsV ra).toArray.size = (limbsV (redOf x)).toArray.size by rw [limbsV_size _ 5 HA.out, limbsV_size _ 5 HR.out])
  have HOLD2 := Lib.hid (show (limbsV nought5).toArray.size = (limbsV (redOf x)).toArray.size by rw [limbsV_size _ 5 HR.out]; unfold nought5; rfl)
  have HONE := Lib.hid (limbsV_one (redOf x))
  have HROW7 := Lib.hid HW7.out.x
  have hw8 : OneN w (redOf x) (w7.setRow w.heap.size (limbsV (redOf x)).toArray) := HW7.out.row
  have HROW8 := Lib.hid (show (w7.setRow w.heap.size (limbsV (redOf x)).toArray).heap[w.heap.size]? = some (.cells (limbsV (redOf x)).toArray tNum (0, 0)) from hw8.x)
  have HRES8 := Lib.hid (show (w7.setRow w.heap.size (limbsV (redOf x)).toArray).heap[w.heap.size + 1]? = some (.cells (limbsV nought5).toArray tNum (0, 0)) from hw8.res)
  have HBE8 := Lib.hid hw8.below
  clear hw8 HW7
  generalize hfe : (limbsV (redOf x)).toArray = full at HI HOLD HOLD2 HONE HROW8 HRES8 HBE8 ⊢
  have HFE := Lib.hid hfe; clear hfe
  go_wp2_with (first
    | (refine wpList_store_row rfl 71 (.tmp 1) (.tmp 29) rfl w.heap.size full rfl rfl tNum _ HROW7.out HI.out HOLD.out HONE.out ?_)
    | (refine wpList_load_row rfl 71 (.tmp 1) rfl w.heap.size rfl tNum full (0, 0) _ HROW8.out Tryd.underlying71 rfl HI.out ?_)
    | (refine wpList_store_row rfl 71 (.tmp 2) (.tmp 31) rfl (w.heap.size + 1) full rfl rfl tNum _ HRES8.out HI.out HOLD2.out HONE.out ?_))
  have hrow := setRow_heap (w7.setRow w.heap.size full) (w.heap.size + 1) _ full tNum _ HRES8.out
  have hbel := below_setRow HBE8.out (show w.heap.size ≤ w.heap.size + 1 by omega) full
  generalize (w7.setRow w.heap.size full).setRow (w.heap.size + 1) full = wz at hrow hbel ⊢
  have hres : ∀ tmps : Array Value, tmps.getD 2 undef = .pointer (some ⟨w.heap.size + 1, 0, none⟩) → Sem.run Tryd.prog (results Tryd.f41 tmps) wz = .ok (.agg full) wz := fun tmps h =>
    results_cell_row (P := Tryd.prog) (p := 2) (ty := 71) Tryd.results41 tmps wz (w.heap.size + 1) tNum full (0, 0) _ h hrow Tryd.underlying71 rfl HI.out
  exact bodyPost_ret (v := .agg full) (hres _ rfl) rfl ⟨by rw [HFE.out], hbel⟩
end Go.Proofs.YtagkkihnfipfeaaDoor

/-
  The contract of poly.product: limb by limb, what is beyond the fifth counts five times below.
-/
namespace Go.Proofs.YtagkkihnfipfeaaDoor
open Go.RowKit Go.Proofs.ShaWords
attribute [local go_sem] add64 mul64 mul64_5
/-- One product of two limbs, taken in. -/
def mulStep (x y n : List (BitVec 64)) (i j : Nat) : List (BitVec 64) :=
  if i + j < 5 then n.set (i + j) (n.getD (i + j) 0#64 + x.getD i 0#64 * y.getD j 0#64)
  else n.set (i + j - 5) (n.getD (i + j - 5) 0#64 + 5#64 * x.getD i 0#64 * y.getD j 0#64)
/-- A limb of x with the first k of y. -/
def mulRow (x y n : List (BitVec 64)) (i : Nat) : Nat → List (BitVec 64)
  | 0 => n
  | k + 1 => mulStep x y (mulRow x y n i k) i k
/-- The first k limbs of x with all of y. -/
def mulL (x y : List (BitVec 64)) : Nat → List (BitVec 64)
  | 0 => nought5
  | k + 1 => mulRow x y (mulL x y k) k 5
theorem mulStep_length (x y n : List (BitVec 64)) (i j : Nat) : (mulStep x y n i j).length = n.length := by unfold mulStep; split <;> simp
theorem mulRow_length (x y n : List (BitVec 64)) (i k : Nat) : (mulRow x y n i k).length = n.length := by
  induction k with
  | zero => rfl
  | succ k ih => rw [mulRow, mulStep_length, ih]
theorem mulL_length (x y : List (BitVec 64)) (k : Nat) : (mulL x y k).length = 5 := by
  induction k with
  | zero => rfl
  | succ k ih => rw [mulL, mulRow_length, ih]
theorem mulRow_zero (x y n : List (BitVec 64)) (i : Nat) : mulRow x y n i 0 = n := rfl
theorem mulRow_succ (x y n : List (BitVec 64)) (i k : Nat) : mulRow x y n i (k + 1) = mulStep x y (mulRow x y n i k) i k := rfl
theorem mulL_zero (x y : List (BitVec 64)) : mulL x y 0 = nought5 := rfl
theorem mulL_succ (x y : List (BitVec 64)) (k : Nat) : mulL x y (k + 1) = mulRow x y (mulL x y k) k 5 := rfl
theorem mulStep_low (x y n : List (BitVec 64)) (i j : Nat) (h : i + j < 5) : mulStep x y n i j = n.set (i + j) (n.getD (i + j) 0#64 + x.getD i 0#64 * y.getD j 0#64) := if_pos h
theorem mulStep_high (x y n : List (BitVec 64)) (i j : Nat) (h : ¬ i + j < 5) : mulStep x y n i j = n.set (i + j - 5) (n.getD (i + j - 5) 0#64 + 5#64 * x.getD i 0#64 * y.getD j 0#64) := if_neg h
/-- Two numbers that came in, the result's block, the product's. -/
structure MulN (w : World) (x y n : List (BitVec 64)) (wr : World) : Prop where
  two : TwoN w x y wr
  n : LimbsAt wr (w.heap.size + 1 + 1 + 1) tNum n
theorem MulN.set {w wr : World} {x y n : List (BitVec 64)} (h : MulN w x y n wr) (k : Nat) (v : BitVec 64) : MulN w x y (n.set k v) (wr.setCell ⟨w.heap.size + 1 + 1 + 1, k, none⟩ (.int .u64 (n64 v))) :=
  ⟨⟨h.two.x.setOther (by omega) _ _, h.two.y.setOther (by omega) _ _, h.two.res.setOther (by omega) _ _, h.two.below.setCell (show w.heap.size ≤ w.heap.size + 1 + 1 + 1 by omega) _⟩, h.n.set k v⟩
theorem MulN.drew {w wr : World} {x y n : List (BitVec 64)} (h : MulN w x y n wr) : MulN w x y n wr.drew := ⟨h.two.on ((Below.refl _ _).drew), h.n.drew⟩

attribute [local irreducible] mulStep mulRow mulL nought5
set_option maxRecDepth 100000 in
set_option maxHeartbeats 1000000 in
theorem product_any (x y : List (BitVec 64)) (w : World) (hx : x.length = 5) (hy : y.length = 5) :
    Calls Tryd.prog 42 #[.agg (limbsV x).toArray, .agg (limbsV y).toArray] w fun e w' => e = .returned (.agg (limbsV (mulL x y 5)).toArray) ∧ Below w.heap.size w w' := by
  have HX := Lib.hid hx; clear hx
  have HY := Lib.hid hy; clear hy
  have HL := Lib.hid (mulL_length x y)
  have HR0 := Lib.hid (mulRow_zero x y)
  have HLS := Lib.hid (mulL_succ x y)
  go_enter Tryd.func42, Tryd.ntmps42
  go_upto_region 2 with (fail)
  refine wp_gen (MulN w x y (mulL x y 0)) ?_ ?_
  · rw [mulL_zero]
    exact ⟨(two_n w x y).on ((Below.refl _ _).alloc (Nat.le_refl _) _), by show _ = some (Obj.cells (limbsV nought5).toArray _ _); rw [nought5_eq]; exact heap_new_at (by simp)⟩
  intro w0 hw0
  have HW0 := Lib.hid hw0; clear hw0
  go_wp2_with fail
  go_loopw [8] (fun i wr => ∃ k : Nat, k ≤ 5 ∧ i = .int .i64 k ∧ MulN w x y (mulL x y k) wr) (fun i _ => 5 - (intOf i).toNat)
  case atStart => exact ⟨0, by omega, rfl, HW0.out⟩
  case round =>
    clear HW0
    obtain ⟨i, hi, rfl, hw⟩ := hrel
    by_cases hlt : i < 5
    · have HW := Lib.hid hw; clear hw
      have q0 : (i : Int) < 5 := by omega
      have HLi := Lib.hid (HL.out i)
      have HLSi := Lib.hid (HLS.out i)
      generalize mulL x y i = n0 at HW HLi HLSi
      go_wp2_with fail
      go_loopw [11] (fun j wi => ∃ k : Nat, k ≤ 5 ∧ j = .int .i64 k ∧ MulN w x y (mulRow x y n0 i k) wi) (fun j _ => 5 - (intOf j).toNat)
      case atStart => exact ⟨0, by omega, rfl, by rw [HR0.out]; exact HW.out⟩
      case round =>
        clear HW
        obtain ⟨j, hj, rfl, hwi⟩ := hrel
        by_cases hlj : j < 5
        · have hnl := (mulRow_length x y n0 i j).trans HLi.out
          have HS := Lib.hid (mulRow_succ x y n0 i j)
          generalize mulRow x y n0 i j = n at hwi HS hnl
          have c1 := hwi.two.x.cell i (by rw [HX.out]; omega)
          have c2 := hwi.two.y.cell j (by rw [HY.out]; omega)
          have j0 : (j : Int) < 5 := by omega
          have ip : 0 ≤ (i : Int) := by omega
          have jp : 0 ≤ (j : Int) := by omega
          have zi : (i : Int).toNat = i := by omega
          have zj : (j : Int).toNat = j := by omega
          have sw : IntKind.i64.wrap ((i : Int) + j) = (i : Int) + j := IntWalk.i64_in _ (by omega)
          by_cases hs : i + j < 5
          · have c0 := hwi.n.cell (i + j) (by rw [hnl]; omega)
            have cf := hwi.n.frozen (i + j)
            have HM := Lib.hid (mulStep_low x y n i j hs)
            have HWI := Lib.hid hwi; clear hwi hnl
            generalize x.getD i 0#64 = u at c1 HM
            generalize y.getD j 0#64 = v at c2 HM
            generalize n.getD (i + j) 0#64 = z at c0 HM
            have s0 : (i : Int) + j < 5 := by omega
            have sp : 0 ≤ (i : Int) + j := by omega
            have sz : ((i : Int) + j).toNat = i + j := by omega
            go_wp2_with fail
            go_still_tail 14, (by kernel_rfl)
            change wpList _ _ _ _ _ wr.drew
            go_wp2_with fail
            go_roundw
            case rel =>
              refine ⟨j + 1, by omega, by go_num, ?_⟩
              rw [HS.out, HM.out]
              exact HWI.out.drew.set _ _
            case measure => simp [intOf]; omega
          · have c0 := hwi.n.cell (i + j - 5) (by rw [hnl]; omega)
            have cf := hwi.n.frozen (i + j - 5)
            have HM := Lib.hid (mulStep_high x y n i j hs)
            have HWI := Lib.hid hwi; clear hwi hnl
            generalize x.getD i 0#64 = u at c1 HM
            generalize y.getD j 0#64 = v at c2 HM
            generalize n.getD (i + j - 5) 0#64 = z at c0 HM
            have s0 : ¬ (i : Int) + j < 5 := by omega
            have sd : IntKind.i64.wrap ((i : Int) + j - 5) = (i : Int) + j - 5 := IntWalk.i64_in _ (by omega)
            have sl : (i : Int) + j - 5 < 5 := by omega
            have sp : 0 ≤ (i : Int) + j - 5 := by omega
            have sz : ((i : Int) + j - 5).toNat = i + j - 5 := by omega
            go_wp2_with fail
            go_still_tail 16, (by kernel_rfl)
            change wpList _ _ _ _ _ wr.drew
            go_wp2_with fail
            go_roundw
            case rel =>
              refine ⟨j + 1, by omega, by go_num, ?_⟩
              rw [HS.out, HM.out]
              exact HWI.out.drew.set _ _
            case measure => simp [intOf]; omega
        · obtain rfl : j = 5 := by omega
          have HWI := Lib.hid hwi; clear hwi
          go_wp2_with fail
          go_roundw
          case rel => exact ⟨i + 1, by omega, by go_num, by rw [HLSi.out]; exact HWI.out⟩
          case measure => simp [intOf]; omega
    · obtain rfl : i = 5 := by omega
      have HW := Lib.hid hw; clear hw
      have HI := Lib.hid (info5n _ (HL.out 5))
      have HOLD := Lib.hid (show (limbsV nought5).toArray.size = (limbsV (mulL x y 5)).toArray.size by rw [limbsV_size _ 5 (HL.out 5)]; unfold nought5; rfl)
      have HONE := Lib.hid (limbsV_one (mulL x y 5))
      have HROW := Lib.hid HW.out.n
      have HRES := Lib.hid HW.out.two.res
      have HB5 := Lib.hid HW.out.two.below
      clear HW
      generalize hfe : (limbsV (mulL x y 5)).toArray = full at HI HOLD HONE ⊢
      have HFE := Lib.hid hfe; clear hfe
      have HROW2 : Hid (wr.heap[w.heap.size + 1 + 1 + 1]? = some (.cells full tNum (0, 0))) := show _ = _ by rw [← HFE.out]; exact HROW.out
      go_wp2_with (first
        | (refine wpList_load_row rfl 71 (.tmp 5) rfl (w.heap.size + 1 + 1 + 1) rfl tNum full (0, 0) _ HROW2.out Tryd.underlying71 rfl HI.out ?_)
        | (refine wpList_store_row rfl 71 (.tmp 4) (.tmp 50) rfl (w.heap.size + 1 + 1) full rfl rfl tNum _ HRES.out HI.out HOLD.out HONE.out ?_))
      have hrow := setRow_heap wr (w.heap.size + 1 + 1) _ full tNum _ HRES.out
      have hbel := below_setRow HB5.out (show w.heap.size ≤ w.heap.size + 1 + 1 by omega) full
      generalize wr.setRow (w.heap.size + 1 + 1) full = wz at hrow hbel ⊢
      have hres : ∀ tmps : Array Value, tmps.getD 4 undef = .pointer (some ⟨w.heap.size + 1 + 1, 0, none⟩) → Sem.run Tryd.prog (results Tryd.f42 tmps) wz = .ok (.agg full) wz := fun tmps h =>
        results_cell_row (P := Tryd.prog) (p := 4) (ty := 71) Tryd.results42 tmps wz (w.heap.size + 1 + 1) tNum full (0, 0) _ h hrow Tryd.underlying71 rfl HI.out
      exact bodyPost_ret (v := .agg full) (hres _ rfl) rfl ⟨by rw [HFE.out], hbel⟩
end Go.Proofs.YtagkkihnfipfeaaDoor

/-
  The contract of poly.bytesOf: the sixteen lowest bytes of a number.
-/
namespace Go.Proofs.YtagkkihnfipfeaaDoor
open Go.RowKit Go.Proofs.ShaWords
attribute [local go_sem] or64 shl64_26 shl64_52 shl64_14 shl64_40 shr64_12 shr64 wrap8_n64
/-- The two halves of a number's sixteen bytes. -/
def lowOf (n : List (BitVec 64)) : BitVec 64 := n.getD 0 0#64 ||| n.getD 1 0#64 <<< 26 ||| n.getD 2 0#64 <<< 52
def highOf (n : List (BitVec 64)) : BitVec 64 := n.getD 2 0#64 >>> 12 ||| n.getD 3 0#64 <<< 14 ||| n.getD 4 0#64 <<< 40
def zeros16 : List (BitVec 8) := List.replicate 16 0#8
/-- The first k bytes of each half laid. -/
def layK (lo hi : BitVec 64) : Nat → List (BitVec 8)
  | 0 => zeros16
  | k + 1 => ((layK lo hi k).set k (low8 (lo >>> (8 * k)))).set (8 + k) (low8 (hi >>> (8 * k)))
theorem layK_zero (lo hi : BitVec 64) : layK lo hi 0 = zeros16 := rfl
theorem layK_succ (lo hi : BitVec 64) (k : Nat) : layK lo hi (k + 1) = ((layK lo hi k).set k (low8 (lo >>> (8 * k)))).set (8 + k) (low8 (hi >>> (8 * k))) := rfl
theorem layK_length (lo hi : BitVec 64) (k : Nat) : (layK lo hi k).length = 16 := by
  induction k with
  | zero => rfl
  | succ k ih => rw [layK_succ, List.length_set, List.length_set, ih]
/-- The bytes of a number. -/
def tagOf (x : List (BitVec 64)) : List (BitVec 8) := layK (lowOf (normL x 5)) (highOf (normL x 5)) 8
theorem tagOf_length (x : List (BitVec 64)) : (tagOf x).length = 16 := layK_length _ _ _
theorem zeros16_eq : (bytesV zeros16).toArray = #[Value.int .u8 0, Value.int .u8 0, Value.int .u8 0, Value.int .u8 0, Value.int .u8 0, Value.int .u8 0, Value.int .u8 0, Value.int .u8 0, Value.int .u8 0, Value.int .u8 0, Value.int .u8 0, Value.int .u8 0, Value.int .u8 0, Value.int .u8 0, Value.int .u8 0, Value.int .u8 0] := rfl
theorem infoTag (l : List (BitVec 8)) (h : l.length = 16) : (Tryd.prog.info? 46).map (·.size) = some (bytesV l).toArray.size :=
  (show (Tryd.prog.info? 46).map (·.size) = some 16 by kernel_rfl).trans (congrArg some (bytesV_size _ 16 h).symm)
/-- The number's block, the result's. -/
structure BofN (w : World) (n : List (BitVec 64)) (wr : World) : Prop where
  n : LimbsAt wr w.heap.size tNum n
  res : BytesAt wr (w.heap.size + 1) 46 zeros16
  below : Below w.heap.size w wr
theorem BofN.on {w wr w' : World} {n : List (BitVec 64)} (h : BofN w n wr) (hb : Below wr.heap.size wr w') : BofN w n w' := ⟨h.n.keep hb, h.res.keep hb, h.below.trans (hb.mono h.below.size)⟩
theorem BofN.row {w wr : World} {n m : List (BitVec 64)} (h : BofN w n wr) : BofN w m (wr.setRow w.heap.size (limbsV m).toArray) :=
  ⟨setRow_heap _ _ _ _ _ _ h.n, h.res.past (grown_setRow _ _ _) (by omega), below_setRow h.below (Nat.le_refl _) _⟩
/-- .., and the block that is laid, made later. -/
structure LayN (w : World) (g : Nat) (t : List (BitVec 8)) (wr : World) : Prop where
  t : BytesAt wr g 46 t
  res : BytesAt wr (w.heap.size + 1) 46 zeros16
  below : Below w.heap.size w wr
  later : w.heap.size + 1 < g
theorem LayN.set {w wr : World} {g : Nat} {t : List (BitVec 8)} (h : LayN w g t wr) (k : Nat) (v : BitVec 8) : LayN w g (t.set k v) (wr.setCell ⟨g, k, none⟩ (.int .u8 (n8 v))) :=
  ⟨h.t.put k v, h.res.putOther (by have := h.later; omega) _ _, h.below.setCell (show w.heap.size ≤ g by have := h.later; omega) _, h.later⟩
theorem LayN.drew {w wr : World} {g : Nat} {t : List (BitVec 8)} (h : LayN w g t wr) : LayN w g t wr.drew := ⟨h.t, h.res, h.below.trans (((Below.refl _ _).drew).mono h.below.size), h.later⟩

section
variable {ρ : Operand → Value} {o : Oper} {x y : Operand} {w : World}
theorem run_ixTag {g k : Nat} (ho : o.op = .indexAddr 46 x y) (hx : ρ x = .pointer (some ⟨g, 0, none⟩)) (hy : ρ y = .int .i64 (k : Int)) (hk : k < 16) (w : World) :
    (execOp ρ o).run Tryd.prog w = .ok (.value (.pointer (some ⟨g, k, none⟩))) w := by
  obtain ⟨dst, op, ty', pos, after, guard⟩ := o
  simp only at ho
  subst ho
  have q : (k : Int) < 16 := by omega
  go_simp
theorem run_mul8i {k s : Nat} (ho : o.op = .binOp .mul 3 (.const (.int .i64 8)) y 3) (hc : ρ (.const (.int .i64 8)) = .int .i64 8) (hy : ρ y = .int .i64 (k : Int)) (hs : 8 * k = s) (hk : s < 1000) (w : World) :
    (execOp ρ o).run Tryd.prog w = .ok (.value (.int .i64 (s : Int))) w := by
  obtain ⟨dst, op, ty', pos, after, guard⟩ := o
  simp only at ho
  subst ho
  have q : IntKind.i64.wrap (8 * (k : Int)) = (s : Int) := by rw [IntWalk.i64_in _ (by omega)]; omega
  go_simp
theorem run_add8i {k s : Nat} (ho : o.op = .binOp .add 3 (.const (.int .i64 8)) y 3) (hc : ρ (.const (.int .i64 8)) = .int .i64 8) (hy : ρ y = .int .i64 (k : Int)) (hs : 8 + k = s) (hk : s < 1000) (w : World) :
    (execOp ρ o).run Tryd.prog w = .ok (.value (.int .i64 (s : Int))) w := by
  obtain ⟨dst, op, ty', pos, after, guard⟩ := o
  simp only at ho
  subst ho
  have q : IntKind.i64.wrap (8 + (k : Int)) = (s : Int) := by rw [IntWalk.i64_in _ (by omega)]; omega
  go_simp
theorem run_shr64v {a : BitVec 64} {s : Nat} (ho : o.op = .binOp .shr 69 x y 3) (hx : ρ x = .int .u64 (n64 a)) (hy : ρ y = .int .i64 (s : Int)) (hs : s < 64) (w : World) :
    (execOp ρ o).run Tryd.prog w = .ok (.value (.int .u64 (n64 (a >>> s)))) w := by
  obtain ⟨dst, op, ty', pos, after, guard⟩ := o
  simp only at ho
  subst ho
  have h := shr64 a s
  have q : ¬ (64 : Int) ≤ (s : Int) := by omega
  have q0 : 0 ≤ (s : Int) := by omega
  go_simp
theorem run_cnv64 {a : BitVec 64} (ho : o.op = .convert 69 5 x) (hx : ρ x = .int .u64 (n64 a)) (w : World) : (execOp ρ o).run Tryd.prog w = .ok (.value (.int .u8 (n8 (low8 a)))) w := by
  obtain ⟨dst, op, ty', pos, after, guard⟩ := o
  simp only at ho
  subst ho
  have h := wrap8_n64 a
  go_simp
end

attribute [local irreducible] normL normO nought5 lowOf highOf layK zeros16
set_option maxRecDepth 100000 in
set_option maxHeartbeats 1000000 in
theorem bytesOf_any (x : List (BitVec 64)) (w : World) (hx : x.length = 5) :
    Calls Tryd.prog 45 #[.agg (limbsV x).toArray] w fun e w' => e = .returned (.agg (bytesV (tagOf x)).toArray) ∧ Below w.heap.size w w' := by
  have HX := Lib.hid hx
  have HN := Lib.hid ((normL_length x 5).trans hx); clear hx
  have HT : Hid (tagOf x = layK (lowOf (normL x 5)) (highOf (normL x 5)) 8) := show _ = _ from rfl
  have HLO : Hid (lowOf (normL x 5) = (normL x 5).getD 0 0#64 ||| (normL x 5).getD 1 0#64 <<< 26 ||| (normL x 5).getD 2 0#64 <<< 52) := show _ = _ by unfold lowOf; rfl
  have HHI : Hid (highOf (normL x 5) = (normL x 5).getD 2 0#64 >>> 12 ||| (normL x 5).getD 3 0#64 <<< 14 ||| (normL x 5).getD 4 0#64 <<< 40) := show _ = _ by unfold highOf; rfl
  go_enter Tryd.func45, Tryd.ntmps45
  go_upto_region 1 with (fail)
  refine wp_gen (BofN w x) ?_ ?_
  · exact ⟨LimbsAt.keep (w := w.alloc _) (heap_alloc_new w _) ((Below.refl _ _).alloc (Nat.le_refl _) _), by show _ = some (Obj.cells (bytesV zeros16).toArray _ _); rw [zeros16_eq]; exact heap_new_at (by simp), ((Below.refl _ _).alloc (Nat.le_refl _) _).alloc (by simp) _⟩
  intro w0 hw0
  have HROW := Lib.hid hw0.n
  have HI := Lib.hid (info5n _ HX.out)
  have HW0 := Lib.hid hw0; clear hw0
  go_wp2_with (refine wpList_load_row rfl 71 (.tmp 1) rfl w.heap.size rfl tNum _ (0, 0) _ HROW.out Tryd.underlying71 rfl HI.out ?_)
  refine (normal_any x w0 HX.out).mono ?_
  rintro e w1 ⟨rfl, hb⟩
  have HW1 := Lib.hid (HW0.out.on hb); clear hb HW0 HROW HI
  generalize normL x 5 = l1 at HN HLO HHI HT ⊢
  have HI1 := Lib.hid (info5n _ HN.out)
  have HOLD1 := Lib.hid (show (limbsV x).toArray.size = (limbsV l1).toArray.size by rw [limbsV_size _ 5 HX.out, limbsV_size _ 5 HN.out])
  have HONE1 := Lib.hid (limbsV_one l1)
  have HROW1 := Lib.hid HW1.out.n
  go_upto_region 2 with (refine wpList_store_row rfl 71 (.tmp 1) (.tmp 10) rfl w.heap.size _ rfl rfl tNum _ HROW1.out HI1.out HOLD1.out HONE1.out ?_)
  refine wp_gen (BofN w l1) HW1.out.row ?_
  clear HW1 HROW1 HOLD1 HONE1 HI1
  intro w2 hw2
  have c0 := hw2.n.cell 0 (by rw [HN.out]; omega)
  have c1 := hw2.n.cell 1 (by rw [HN.out]; omega)
  have c2 := hw2.n.cell 2 (by rw [HN.out]; omega)
  have c3 := hw2.n.cell 3 (by rw [HN.out]; omega)
  have c4 := hw2.n.cell 4 (by rw [HN.out]; omega)
  have HW2 := Lib.hid hw2; clear hw2
  generalize lowOf l1 = lo at HLO HT
  generalize highOf l1 = hi at HHI HT
  generalize l1.getD 0 0#64 = x0 at c0 HLO
  generalize l1.getD 1 0#64 = x1 at c1 HLO
  generalize l1.getD 2 0#64 = x2 at c2 HLO HHI
  generalize l1.getD 3 0#64 = x3 at c3 HHI
  generalize l1.getD 4 0#64 = x4 at c4 HHI
  go_upto_region 4 with (fail)
  rw [← HLO.out, ← HHI.out]
  clear c0 c1 c2 c3 c4 HLO HHI
  have HL := Lib.hid (layK_length lo hi)
  go_upto_region 5 with (fail)
  refine wp_gen (LayN w w2.heap.size (layK lo hi 0)) ?_ ?_
  · rw [layK_zero]
    have hw3 := HW2.out.on ((Below.refl _ _).alloc (Nat.le_refl _) (.cells (bytesV zeros16).toArray 46))
    rw [zeros16_eq] at hw3
    exact ⟨by show _ = some (Obj.cells (bytesV zeros16).toArray _ _); rw [zeros16_eq]; exact heap_new_at rfl, hw3.res, hw3.below, HW2.out.res.size⟩
  clear HW2
  generalize w2.heap.size = g
  intro w3 hw3
  have HW3 := Lib.hid hw3; clear hw3
  go_wp2_with fail
  go_loopw [33] (fun i wr => ∃ k : Nat, k ≤ 8 ∧ i = .int .i64 k ∧ LayN w g (layK lo hi k) wr) (fun i _ => 8 - (intOf i).toNat)
  case atStart => exact ⟨0, by omega, rfl, HW3.out⟩
  case round =>
    clear HW3
    obtain ⟨k, hk, rfl, hw⟩ := hrel
    by_cases hlt : k < 8
    · have HS := Lib.hid (layK_succ lo hi k)
      have HLK := Lib.hid (HL.out k)
      generalize layK lo hi k = l at hw HS HLK
      have c0 := hw.t.cell k (by rw [HLK.out]; omega)
      have c1 := (hw.drew.set k (low8 (lo >>> (8 * k)))).t.cell (8 + k) (by rw [List.length_set, HLK.out]; omega)
      have cf := hw.t.frozenAt k
      have cf1 := (hw.drew.set k (low8 (lo >>> (8 * k)))).t.frozenAt (8 + k)
      have HW := Lib.hid hw; clear hw
      generalize l.getD k 0#8 = u at c0
      generalize (l.set k (low8 (lo >>> (8 * k)))).getD (8 + k) 0#8 = u1 at c1
      have q0 : (k : Int) < 8 := by omega
      obtain ⟨s, hs⟩ : ∃ s, s = 8 * k := ⟨_, rfl⟩
      obtain ⟨d, hd⟩ : ∃ d, d = 8 + k := ⟨_, rfl⟩
      rw [← hs] at c1 cf1 HS
      rw [← hd] at c1 cf1 HS
      have HSE := Lib.hid hs.symm
      have HDE := Lib.hid hd.symm
      go_upto_region 8 with (fail)
      refine region_phase (fun _ => True) (fun _ => True) 14 trivial trivial [(0, .free), (1, .free), (2, .free), (3, .free), (4, .free), (5, .free), (6, .free), (7, .free), (8, .free), (9, .free), (10, .free), (11, .free), (12, .free), (13, .free), (14, .behind), (15, .free), (16, .behind)] (by kernel_rfl) (by kernel_rfl) (by kernel_rfl) (by kernel_rfl) (fun ops hops A hA => ?_)
      have hsz : A.tmps.size = 53 := by rw [hA]; rfl
      have base3 : A.eval (.tmp 3) = .int .u64 (n64 lo) := by rw [hA]; rfl
      have base4 : A.eval (.tmp 4) = .int .u64 (n64 hi) := by rw [hA]; rfl
      have base5 : A.eval (.tmp 5) = .pointer (some ⟨g, 0, none⟩) := by rw [hA]; rfl
      have base6 : A.eval (.tmp 6) = .int .i64 (k : Int) := by rw [hA]; rfl
      have HAA := Lib.hid hA; clear hA
      obtain ⟨o0, po0, q0, d0, gd0⟩ : ∃ o, ops[0]? = some o ∧ o.op = .move (.tmp 6) ∧ o.dst = some 36 ∧ o.guard = none := ⟨_, by rw [hops]; rfl, rfl, rfl, rfl⟩
      obtain ⟨o1, po1, q1, d1, gd1⟩ : ∃ o, ops[1]? = some o ∧ o.op = .move (.tmp 6) ∧ o.dst = some 37 ∧ o.guard = none := ⟨_, by rw [hops]; rfl, rfl, rfl, rfl⟩
      obtain ⟨o2, po2, q2, d2, gd2⟩ : ∃ o, ops[2]? = some o ∧ o.op = .binOp .add 3 (.const (.int .i64 8)) (.tmp 37) 3 ∧ o.dst = some 38 ∧ o.guard = none := ⟨_, by rw [hops]; rfl, rfl, rfl, rfl⟩
      obtain ⟨o3, po3, q3, d3, gd3⟩ : ∃ o, ops[3]? = some o ∧ o.op = .move (.tmp 3) ∧ o.dst = some 39 ∧ o.guard = none := ⟨_, by rw [hops]; rfl, rfl, rfl, rfl⟩
      obtain ⟨o4, po4, q4, d4, gd4⟩ : ∃ o, ops[4]? = some o ∧ o.op = .move (.tmp 6) ∧ o.dst = some 40 ∧ o.guard = none := ⟨_, by rw [hops]; rfl, rfl, rfl, rfl⟩
      obtain ⟨o5, po5, q5, d5, gd5⟩ : ∃ o, ops[5]? = some o ∧ o.op = .binOp .mul 3 (.const (.int .i64 8)) (.tmp 40) 3 ∧ o.dst = some 41 ∧ o.guard = none := ⟨_, by rw [hops]; rfl, rfl, rfl, rfl⟩
      obtain ⟨o6, po6, q6, d6, gd6⟩ : ∃ o, ops[6]? = some o ∧ o.op = .binOp .shr 69 (.tmp 39) (.tmp 41) 3 ∧ o.dst = some 42 ∧ o.guard = none := ⟨_, by rw [hops]; rfl, rfl, rfl, rfl⟩
      obtain ⟨o7, po7, q7, d7, gd7⟩ : ∃ o, ops[7]? = some o ∧ o.op = .convert 69 5 (.tmp 42) ∧ o.dst = some 43 ∧ o.guard = none := ⟨_, by rw [hops]; rfl, rfl, rfl, rfl⟩
      obtain ⟨o8, po8, q8, d8, gd8⟩ : ∃ o, ops[8]? = some o ∧ o.op = .move (.tmp 4) ∧ o.dst = some 44 ∧ o.guard = none := ⟨_, by rw [hops]; rfl, rfl, rfl, rfl⟩
      obtain ⟨o9, po9, q9, d9, gd9⟩ : ∃ o, ops[9]? = some o ∧ o.op = .move (.tmp 6) ∧ o.dst = some 45 ∧ o.guard = none := ⟨_, by rw [hops]; rfl, rfl, rfl, rfl⟩
      obtain ⟨o10, po10, q10, d10, gd10⟩ : ∃ o, ops[10]? = some o ∧ o.op = .binOp .mul 3 (.const (.int .i64 8)) (.tmp 45) 3 ∧ o.dst = some 46 ∧ o.guard = none := ⟨_, by rw [hops]; rfl, rfl, rfl, rfl⟩
      obtain ⟨o11, po11, q11, d11, gd11⟩ : ∃ o, ops[11]? = some o ∧ o.op = .binOp .shr 69 (.tmp 44) (.tmp 46) 3 ∧ o.dst = some 47 ∧ o.guard = none := ⟨_, by rw [hops]; rfl, rfl, rfl, rfl⟩
      obtain ⟨o12, po12, q12, d12, gd12⟩ : ∃ o, ops[12]? = some o ∧ o.op = .convert 69 5 (.tmp 47) ∧ o.dst = some 48 ∧ o.guard = none := ⟨_, by rw [hops]; rfl, rfl, rfl, rfl⟩
      obtain ⟨o13, po13, q13, d13, gd13⟩ : ∃ o, ops[13]? = some o ∧ o.op = .indexAddr 46 (.tmp 5) (.tmp 36) ∧ o.dst = some 49 ∧ o.guard = none := ⟨_, by rw [hops]; rfl, rfl, rfl, rfl⟩
      obtain ⟨o14, po14, q14, d14, gd14⟩ : ∃ o, ops[14]? = some o ∧ o.op = .store 5 (.tmp 49) (.tmp 43) ∧ o.dst = none ∧ o.guard = none := ⟨_, by rw [hops]; rfl, rfl, rfl, rfl⟩
      obtain ⟨o15, po15, q15, d15, gd15⟩ : ∃ o, ops[15]? = some o ∧ o.op = .indexAddr 46 (.tmp 5) (.tmp 38) ∧ o.dst = some 50 ∧ o.guard = none := ⟨_, by rw [hops]; rfl, rfl, rfl, rfl⟩
      obtain ⟨o16, po16, q16, d16, gd16⟩ : ∃ o, ops[16]? = some o ∧ o.op = .store 5 (.tmp 50) (.tmp 48) ∧ o.dst = none ∧ o.guard = none := ⟨_, by rw [hops]; rfl, rfl, rfl, rfl⟩
      clear hops
      refine met_free po0 d0 (wanted_of gd0) (fun w' _ => run_move q0 base6 w') ?_
      refine met_free po1 d1 (wanted_of gd1) (fun w' _ => run_move q1 ((eval_other _ 36 6 _ (by decide)).trans base6) w') ?_
      refine met_free po2 d2 (wanted_of gd2) (fun w' _ => run_add8i (s := d) q2 rfl (eval_same _ _ _ (by simp only [put_size, hsz]; decide)) HDE.out (by omega) w') ?_
      refine met_free po3 d3 (wanted_of gd3) (fun w' _ => run_move q3 ((eval_other _ 38 3 _ (by decide)).trans ((eval_other _ 37 3 _ (by decide)).trans ((eval_other _ 36 3 _ (by decide)).trans base3))) w') ?_
      refine met_free po4 d4 (wanted_of gd4) (fun w' _ => run_move q4 ((eval_other _ 39 6 _ (by decide)).trans ((eval_other _ 38 6 _ (by decide)).trans ((eval_other _ 37 6 _ (by decide)).trans ((eval_other _ 36 6 _ (by decide)).trans base6)))) w') ?_
      refine met_free po5 d5 (wanted_of gd5) (fun w' _ => run_mul8i (s := s) q5 rfl (eval_same _ _ _ (by simp only [put_size, hsz]; decide)) HSE.out (by omega) w') ?_
      refine met_free po6 d6 (wanted_of gd6) (fun w' _ => run_shr64v q6 ((eval_other _ 41 39 _ (by decide)).trans ((eval_other _ 40 39 _ (by decide)).trans (eval_same _ _ _ (by simp only [put_size, hsz]; decide)))) (eval_same _ _ _ (by simp only [put_size, hsz]; decide)) (by omega) w') ?_
      refine met_free po7 d7 (wanted_of gd7) (fun w' _ => run_cnv64 q7 (eval_same _ _ _ (by simp only [put_size, hsz]; decide)) w') ?_
      refine met_free po8 d8 (wanted_of gd8) (fun w' _ => run_move q8 ((eval_other _ 43 4 _ (by decide)).trans ((eval_other _ 42 4 _ (by decide)).trans ((eval_other _ 41 4 _ (by decide)).trans ((eval_other _ 40 4 _ (by decide)).trans ((eval_other _ 39 4 _ (by decide)).trans ((eval_other _ 38 4 _ (by decide)).trans ((eval_other _ 37 4 _ (by decide)).trans ((eval_other _ 36 4 _ (by decide)).trans base4)))))))) w') ?_
      refine met_free po9 d9 (wanted_of gd9) (fun w' _ => run_move q9 ((eval_other _ 44 6 _ (by decide)).trans ((eval_other _ 43 6 _ (by decide)).trans ((eval_other _ 42 6 _ (by decide)).trans ((eval_other _ 41 6 _ (by decide)).trans ((eval_other _ 40 6 _ (by decide)).trans ((eval_other _ 39 6 _ (by decide)).trans ((eval_other _ 38 6 _ (by decide)).trans ((eval_other _ 37 6 _ (by decide)).trans ((eval_other _ 36 6 _ (by decide)).trans base6))))))))) w') ?_
      refine met_free po10 d10 (wanted_of gd10) (fun w' _ => run_mul8i (s := s) q10 rfl (eval_same _ _ _ (by simp only [put_size, hsz]; decide)) HSE.out (by omega) w') ?_
      refine met_free po11 d11 (wanted_of gd11) (fun w' _ => run_shr64v q11 ((eval_other _ 46 44 _ (by decide)).trans ((eval_other _ 45 44 _ (by decide)).trans (eval_same _ _ _ (by simp only [put_size, hsz]; decide)))) (eval_same _ _ _ (by simp only [put_size, hsz]; decide)) (by omega) w') ?_
      refine met_free po12 d12 (wanted_of gd12) (fun w' _ => run_cnv64 q12 (eval_same _ _ _ (by simp only [put_size, hsz]; decide)) w') ?_
      refine met_free po13 d13 (wanted_of gd13) (fun w' _ => run_ixTag q13 ((eval_other _ 48 5 _ (by decide)).trans ((eval_other _ 47 5 _ (by decide)).trans ((eval_other _ 46 5 _ (by decide)).trans ((eval_other _ 45 5 _ (by decide)).trans ((eval_other _ 44 5 _ (by decide)).trans ((eval_other _ 43 5 _ (by decide)).trans ((eval_other _ 42 5 _ (by decide)).trans ((eval_other _ 41 5 _ (by decide)).trans ((eval_other _ 40 5 _ (by decide)).trans ((eval_other _ 39 5 _ (by decide)).trans ((eval_other _ 38 5 _ (by decide)).trans ((eval_other _ 37 5 _ (by decide)).trans ((eval_other _ 36 5 _ (by decide)).trans base5))))))))))))) ((eval_other _ 48 36 _ (by decide)).trans ((eval_other _ 47 36 _ (by decide)).trans ((eval_other _ 46 36 _ (by decide)).trans ((eval_other _ 45 36 _ (by decide)).trans ((eval_other _ 44 36 _ (by decide)).trans ((eval_other _ 43 36 _ (by decide)).trans ((eval_other _ 42 36 _ (by decide)).trans ((eval_other _ 41 36 _ (by decide)).trans ((eval_other _ 40 36 _ (by decide)).trans ((eval_other _ 39 36 _ (by decide)).trans ((eval_other _ 38 36 _ (by decide)).trans ((eval_other _ 37 36 _ (by decide)).trans (eval_same _ _ _ (by rw [hsz]; decide)))))))))))))) (by omega) w') ?_
      refine met_skip po14 d14 (wanted_of gd14) (run_store8 q14 (eval_same _ _ _ (by simp only [put_size, hsz]; decide)) ((eval_other _ 49 43 _ (by decide)).trans ((eval_other _ 48 43 _ (by decide)).trans ((eval_other _ 47 43 _ (by decide)).trans ((eval_other _ 46 43 _ (by decide)).trans ((eval_other _ 45 43 _ (by decide)).trans ((eval_other _ 44 43 _ (by decide)).trans (eval_same _ _ _ (by simp only [put_size, hsz]; decide)))))))) c0 cf) trivial ?_
      refine met_free po15 d15 (wanted_of gd15) (fun w' _ => run_ixTag q15 ((eval_none _ _ 5).trans ((eval_other _ 49 5 _ (by decide)).trans ((eval_other _ 48 5 _ (by decide)).trans ((eval_other _ 47 5 _ (by decide)).trans ((eval_other _ 46 5 _ (by decide)).trans ((eval_other _ 45 5 _ (by decide)).trans ((eval_other _ 44 5 _ (by decide)).trans ((eval_other _ 43 5 _ (by decide)).trans ((eval_other _ 42 5 _ (by decide)).trans ((eval_other _ 41 5 _ (by decide)).trans ((eval_other _ 40 5 _ (by decide)).trans ((eval_other _ 39 5 _ (by decide)).trans ((eval_other _ 38 5 _ (by decide)).trans ((eval_other _ 37 5 _ (by decide)).trans ((eval_other _ 36 5 _ (by decide)).trans base5))))))))))))))) ((eval_none _ _ 38).trans ((eval_other _ 49 38 _ (by decide)).trans ((eval_other _ 48 38 _ (by decide)).trans ((eval_other _ 47 38 _ (by decide)).trans ((eval_other _ 46 38 _ (by decide)).trans ((eval_other _ 45 38 _ (by decide)).trans ((eval_other _ 44 38 _ (by decide)).trans ((eval_other _ 43 38 _ (by decide)).trans ((eval_other _ 42 38 _ (by decide)).trans ((eval_other _ 41 38 _ (by decide)).trans ((eval_other _ 40 38 _ (by decide)).trans ((eval_other _ 39 38 _ (by decide)).trans (eval_same _ _ _ (by simp only [put_size, hsz]; decide)))))))))))))) (by omega) w') ?_
      refine met_skip po16 d16 (wanted_of gd16) (run_store8 q16 (eval_same _ _ _ (by simp only [put_none, put_size, hsz]; decide)) ((eval_other _ 50 48 _ (by decide)).trans ((eval_none _ _ 48).trans ((eval_other _ 49 48 _ (by decide)).trans (eval_same _ _ _ (by simp only [put_size, hsz]; decide))))) c1 cf1) trivial ?_
      show NoPanic _ .normal _ _
      refine NoPanic.normal ?_
      rw [HAA.out]
      go_frame
      clear HAA
      go_wp2_with fail
      go_roundw
      case rel =>
        refine ⟨k + 1, by omega, by go_num, ?_⟩
        rw [HS.out]
        obtain rfl := HSE.out
        obtain rfl := HDE.out
        exact ((HW.out.set k _).set _ _).drew
      case measure => simp [intOf]; omega
    · obtain rfl : k = 8 := by omega
      have HW := Lib.hid hw; clear hw
      have HI := Lib.hid (infoTag _ (HL.out 8))
      have HOLD := Lib.hid (show (bytesV zeros16).toArray.size = (bytesV (layK lo hi 8)).toArray.size by rw [bytesV_size _ 16 (HL.out 8)]; unfold zeros16; rfl)
      have HONE := Lib.hid (bytesV_one (layK lo hi 8))
      have HROW := Lib.hid HW.out.t
      have HRES := Lib.hid HW.out.res
      have HB5 := Lib.hid HW.out.below
      clear HW
      generalize hfe : (bytesV (layK lo hi 8)).toArray = full at HI HOLD HONE ⊢
      have HFE := Lib.hid hfe; clear hfe
      have HROW2 : Hid (wr.heap[g]? = some (.cells full 46 (0, 0))) := show _ = _ by rw [← HFE.out]; exact HROW.out
      go_wp2_with (first
        | (refine wpList_load_row rfl 46 (.tmp 5) rfl g rfl 46 full (0, 0) _ HROW2.out Tryd.underlying46 rfl HI.out ?_)
        | (refine wpList_store_row rfl 46 (.tmp 2) (.tmp 52) rfl (w.heap.size + 1) full rfl rfl 46 _ HRES.out HI.out HOLD.out HONE.out ?_))
      have hrow := setRow_heap wr (w.heap.size + 1) _ full 46 _ HRES.out
      have hbel := below_setRow HB5.out (show w.heap.size ≤ w.heap.size + 1 by omega) full
      generalize wr.setRow (w.heap.size + 1) full = wz at hrow hbel ⊢
      have hres : ∀ tmps : Array Value, tmps.getD 2 undef = .pointer (some ⟨w.heap.size + 1, 0, none⟩) → Sem.run Tryd.prog (results Tryd.f45 tmps) wz = .ok (.agg full) wz := fun tmps h =>
        results_cell_row (P := Tryd.prog) (p := 2) (ty := 46) Tryd.results45 tmps wz (w.heap.size + 1) 46 full (0, 0) _ h hrow Tryd.underlying46 rfl HI.out
      exact bodyPost_ret (v := .agg full) (hres _ rfl) rfl ⟨by rw [HT.out, HFE.out], hbel⟩
end Go.Proofs.YtagkkihnfipfeaaDoor

/-
  The contract of poly.Sum: for any key and any bytes; nothing that was there changes.
-/
namespace Go.Proofs.YtagkkihnfipfeaaDoor
open Go.RowKit Go.Proofs.ShaWords
set_option maxRecDepth 20000 in
theorem run_min16 {ρ : Operand → Value} {o : Oper} {x : Operand} {n k : Nat} (ho : o.op = .call { callee := .builtin .min, args := #[x, .const (.int .i64 16)], argTypes := #[3, 3] }) (h0 : ρ (.const (.int .i64 16)) = .int .i64 16) (hx : ρ x = .int .i64 (n : Int)) (hk : k = min n 16) (w : World) :
    (execOp ρ o).run Tryd.prog w = .ok (.value (.int .i64 (k : Int))) w := by
  obtain ⟨dst, op, ty', pos, after, guard⟩ := o
  simp only at ho
  subst ho
  by_cases h : 16 < n
  · have q : (16 : Int) < (n : Int) := by omega
    obtain rfl : k = 16 := by omega
    clear hk h
    go_simp
  · have q : ¬ (16 : Int) < (n : Int) := by omega
    obtain rfl : k = n := by omega
    clear hk h
    go_simp
theorem wpList_min16 {ops : Array Oper} {rest : List Oper} {o : Oper} {a : Act} {w : World} {Q : Exit → Act → World → Prop} (hg : o.guard = none) (x : Operand) (ho : o.op = .call { callee := .builtin .min, args := #[x, .const (.int .i64 16)], argTypes := #[3, 3] }) (n k : Nat)
    (hx : a.eval x = .int .i64 (n : Int)) (hk : k = min n 16) (h : wpList Tryd.prog ops Q rest (a.put o.dst (.int .i64 (k : Int))) w) : wpList Tryd.prog ops Q (o :: rest) a w := by
  refine wpList_plain hg fun K hK => ?_
  unfold Oper.wp
  rw [run_min16 ho rfl hx hk w, Oper.upon_value]
  exact hK _ _ h
/-- A block's number taken in. -/
def accStep (rr acc : List (BitVec 64)) (blk : List (BitVec 8)) : List (BitVec 64) := redOf (mulL (addL acc (numOf (blk ++ [1#8])) 5) rr 5)
/-- The first j blocks taken in. -/
def accK (rr : List (BitVec 64)) (bs : List (BitVec 8)) : Nat → List (BitVec 64)
  | 0 => nought5
  | j + 1 => accStep rr (accK rr bs j) ((bs.drop (16 * j)).take 16)
theorem accStep_length (rr acc : List (BitVec 64)) (blk : List (BitVec 8)) : (accStep rr acc blk).length = 5 := redOf_length _ (mulL_length _ _ _)
theorem accK_length (rr : List (BitVec 64)) (bs : List (BitVec 8)) (j : Nat) : (accK rr bs j).length = 5 := by
  cases j with
  | zero => rfl
  | succ j => exact accStep_length _ _ _
theorem accK_zero (rr : List (BitVec 64)) (bs : List (BitVec 8)) : accK rr bs 0 = nought5 := rfl
theorem accK_succ (rr : List (BitVec 64)) (bs : List (BitVec 8)) (j : Nat) : accK rr bs (j + 1) = accStep rr (accK rr bs j) ((bs.drop (16 * j)).take 16) := rfl
/-- The tag. -/
def polyTag (key bs : List (BitVec 8)) : List (BitVec 8) := tagOf (addL (accK (numOf (clrOf key)) bs ((bs.length + 15) / 16)) (numOf (key.drop 16)) 5)
theorem polyTag_length (key bs : List (BitVec 8)) : (polyTag key bs).length = 16 := tagOf_length _
/-- What poly.Sum has in memory. -/
structure KeyW (w : World) (key : List (BitVec 8)) (wr : World) : Prop where
  key : BytesAt wr w.heap.size 23 key
  res : BytesAt wr (w.heap.size + 1) 46 zeros16
  below : Below w.heap.size w wr
theorem KeyW.on {w wr w' : World} {key : List (BitVec 8)} (h : KeyW w key wr) (hb : Below wr.heap.size wr w') : KeyW w key w' := ⟨h.key.keep hb, h.res.keep hb, h.below.trans (hb.mono h.below.size)⟩
structure SumS (w : World) (key : List (BitVec 8)) (R A : Nat) (rr acc : List (BitVec 64)) (wr : World) : Prop where
  k : KeyW w key wr
  r : LimbsAt wr R tNum rr
  a : LimbsAt wr A tNum acc
  later : w.heap.size + 1 < R ∧ R < A
theorem SumS.on {w wr w' : World} {key : List (BitVec 8)} {R A : Nat} {rr acc : List (BitVec 64)} (h : SumS w key R A rr acc wr) (hb : Below wr.heap.size wr w') : SumS w key R A rr acc w' := ⟨h.k.on hb, h.r.keep hb, h.a.keep hb, h.later⟩
theorem SumS.row {w wr : World} {key : List (BitVec 8)} {R A : Nat} {rr acc acc' : List (BitVec 64)} (h : SumS w key R A rr acc wr) : SumS w key R A rr acc' (wr.setRow A (limbsV acc').toArray) := by
  have := h.later
  exact ⟨⟨h.k.key.past (grown_setRow _ _ _) (by omega), h.k.res.past (grown_setRow _ _ _) (by omega), below_setRow h.k.below (show w.heap.size ≤ A by omega) _⟩, h.r.past (grown_setRow _ _ _) (by omega), setRow_heap _ _ _ _ _ _ h.a, h.later⟩
theorem one_range (w : World) : (w.alloc (.cells #[.int .u8 1] 5)).rangeAt w.heap.size 0 (bytesV [1#8]) := range_bytesV (l := [1#8]) (t := 5) (fr := (0, 0)) (heap_new_at rfl)
attribute [local irreducible] accK nought5 numOf clrOf tagOf redOf mulL addL zeros16
set_option maxRecDepth 100000 in
set_option maxHeartbeats 4000000 in
theorem polySum_wide (key bs : List (BitVec 8)) (m : Nat) (p : Option Addr) (cap : Nat) (w : World) (hk : key.length = 32) (hm : bs.length = m) (hc : m ≤ cap) (hcm : cap ≤ 9223372036854775807) (hL : Lies w p bs) :
    Calls Tryd.prog 32 #[.agg (bytesV key).toArray, .slice p m cap] w fun e w' => e = .returned (.agg (bytesV (polyTag key bs)).toArray) ∧ Below w.heap.size w w' := by
  have HKL := Lib.hid hk; clear hk
  have HM := Lib.hid hm; clear hm
  have HL := Lib.hid hL; clear hL
  have HIK := Lib.hid (infoKey key HKL.out)
  go_enter Tryd.func32, Tryd.ntmps32
  go_upto_region 1 with (fail)
  refine wp_gen (KeyW w key) ?_ ?_
  · exact ⟨BytesAt.keep (w := w.alloc _) (heap_alloc_new w _) ((Below.refl _ _).alloc (Nat.le_refl _) _), by show _ = some (Obj.cells (bytesV zeros16).toArray _ _); rw [zeros16_eq]; exact heap_new_at (by simp), ((Below.refl _ _).alloc (Nat.le_refl _) _).alloc (by simp) _⟩
  intro w0 hw0
  have HROW := Lib.hid hw0.key
  have HW0 := Lib.hid hw0; clear hw0
  go_wp2_with (refine wpList_load_row rfl 23 (.tmp 2) rfl w.heap.size rfl 23 _ (0, 0) _ HROW.out Tryd.underlying23 rfl HIK.out ?_)
  refine (cleared_any key w0 HKL.out).mono ?_
  rintro e w1 ⟨rfl, hb⟩
  have HW1 := Lib.hid (HW0.out.on hb); clear hb HW0 HROW
  obtain ⟨rr, hrr⟩ : ∃ rr, rr = numOf (clrOf key) := ⟨_, rfl⟩
  rw [← hrr]
  have HRL := Lib.hid (show rr.length = 5 by rw [hrr]; exact numOf_length _)
  have HRR := Lib.hid hrr; clear hrr
  have HIR := Lib.hid (info5n rr HRL.out)
  have HRS := Lib.hid (show (#[Value.int .u64 0, Value.int .u64 0, Value.int .u64 0, Value.int .u64 0, Value.int .u64 0] : Array Value).size = (limbsV rr).toArray.size by rw [limbsV_size _ 5 HRL.out]; rfl)
  have HRO := Lib.hid (limbsV_one rr)
  go_upto_region 2 with (refine wpList_store_new rfl 71 (.tmp 5) (.tmp 10) rfl w1.heap.size rfl (limbsV rr).toArray rfl rfl HIR.out HRS.out HRO.out ?_; intro w2 h2 hb2; have HW2 := Lib.hid (HW1.out.on hb2); have HR2 := Lib.hid (show LimbsAt w2 w1.heap.size tNum rr from h2); clear h2 hb2)
  obtain ⟨R, hR⟩ : ∃ R, R = w1.heap.size := ⟨_, rfl⟩
  rw [← hR] at HR2 ⊢
  have HRlt : Hid (w.heap.size + 1 < R) := show _ < R by rw [hR]; exact HW1.out.res.size
  clear hR HW1 HIR HRS HRO
  go_wp2_with fail
  refine wp_gen (SumS w key R w2.heap.size rr (accK rr bs 0)) ?_ ?_
  · have hb2 : Below w2.heap.size w2 (w2.alloc (.cells (limbsV nought5).toArray tNum)) := (Below.refl _ _).alloc (Nat.le_refl _) _
    rw [accK_zero]
    have e : (limbsV nought5).toArray = #[Value.int .u64 0, Value.int .u64 0, Value.int .u64 0, Value.int .u64 0, Value.int .u64 0] := nought5_eq
    rw [e] at hb2
    exact ⟨HW2.out.on hb2, HR2.out.keep hb2, by show _ = some (Obj.cells (limbsV nought5).toArray _ _); rw [nought5_eq]; exact heap_new_at rfl, HRlt.out, HR2.out.size⟩
  generalize w2.heap.size = A
  intro w3 hw3
  have HW3 := Lib.hid hw3
  clear hw3 HR2 HW2 HRlt
  go_loopw [1, 7, 8] (fun b _ _ wr => ∃ (j : Nat) (q : Option Addr) (c : Nat), 16 * j < m + 16 ∧ b = .slice q (m - 16 * j) c ∧ m - 16 * j ≤ c ∧ c ≤ 9223372036854775807 ∧ Lies w q (bs.drop (16 * j)) ∧ SumS w key R A rr (accK rr bs j) wr) (fun b _ _ _ => match b with | .slice _ n _ => n | _ => 0)
  case atStart => exact ⟨0, p, cap, by omega, rfl, hc, hcm, by rw [Nat.mul_zero, List.drop_zero]; exact HL.out, HW3.out⟩
  case round =>
    clear HW3 hc hcm
    obtain ⟨j, q, c, hj, rfl, hc1, hc2, hl, hs⟩ := hrel
    by_cases hlt : 16 * j < m
    · obtain ⟨n, hn⟩ : ∃ n, n = m - 16 * j := ⟨_, rfl⟩
      rw [← hn] at hc1 ⊢
      have hbl : (bs.drop (16 * j)).length = n := by rw [List.length_drop, HM.out, hn]
      obtain ⟨b, off, rfl, hr⟩ : ∃ b off, q = some ⟨b, off, none⟩ ∧ w.rangeAt b off (bytesV (bs.drop (16 * j))) := by
        rcases hl with h | h
        · rw [h] at hbl; simp at hbl; omega
        · exact h
      obtain ⟨k, hk⟩ : ∃ k, k = min n 16 := ⟨_, rfl⟩
      have hk1 : 0 < k := by omega
      have hk2 : k ≤ 16 := by omega
      have hk3 : k ≤ n := by omega
      have n0 : 0 < (n : Int) := by omega
      have kc : (k : Int) ≤ (c : Int) := by omega
      have HRG := Lib.hid hr
      have HBL := Lib.hid hbl
      have HS := Lib.hid hs
      have HN := Lib.hid hn
      have HK := Lib.hid hk
      have HC := Lib.hid hc1
      clear hr hbl hs hn hk hl hc1
      go_upto_region 6 with (refine wpList_min16 rfl (.tmp 15) rfl n k rfl HK.out ?_)
      have HSD : Hid (SumS w key R A rr (accK rr bs j) wr.drew) := show SumS _ _ _ _ _ _ _ from HS.out.on ((Below.refl _ _).drew)
      have HSU := Lib.hid (accK_succ rr bs j)
      have HAL := Lib.hid (accK_length rr bs j)
      generalize accK rr bs j = acc at HSD HSU HAL
      obtain ⟨blk, hblk⟩ : ∃ blk, blk = (bs.drop (16 * j)).take 16 := ⟨_, rfl⟩
      have HBK : Hid (blk.length = k) := show _ = _ by rw [hblk, List.length_take, HBL.out, HK.out]; omega
      have HBD : Hid (wr.drew.rangeAt b off (bytesV blk)) := show World.rangeAt _ _ _ _ by
        intro i v hv
        refine range_keep HRG.out HSD.out.k.below i v ?_
        rw [hblk, bytesV_take, List.getElem?_take] at hv
        split at hv
        · exact hv
        · cases hv
      rw [← hblk] at HSU
      have HBL2 : Hid ((blk ++ [1#8]).length = k + 1) := show _ = _ by rw [List.length_append, HBK.out]; rfl
      have HAE : Hid (redOf (mulL (addL acc (numOf (blk ++ [1#8])) 5) rr 5) = accStep rr acc blk) := show _ = _ from rfl
      have HIA := Lib.hid (info5n _ (accStep_length rr acc blk))
      have HAO := Lib.hid (show (limbsV acc).toArray.size = (limbsV (accStep rr acc blk)).toArray.size by rw [limbsV_size _ 5 HAL.out, limbsV_size _ 5 (accStep_length rr acc blk)])
      clear hblk HS
      refine region_phase (fun w1 => LimbsAt w1 R tNum rr) (fun w1 => LimbsAt w1 A tNum acc) 9 HSD.out.r HSD.out.a [(0, .early), (1, .free), (6, .free), (2, .before), (3, .before), (4, .before), (5, .before), (7, .before), (8, .before), (9, .behind)] (by kernel_rfl) (by kernel_rfl) (by kernel_rfl) (by kernel_rfl) (fun ops hops A2 hA => ?_)
      have hsz : A2.tmps.size = 38 := by rw [hA]; rfl
      have base5 : A2.eval (.tmp 5) = .pointer (some ⟨R, 0, none⟩) := by rw [hA]; rfl
      have base6 : A2.eval (.tmp 6) = .pointer (some ⟨A, 0, none⟩) := by rw [hA]; rfl
      have base8 : A2.eval (.tmp 8) = .slice (some ⟨b, off, none⟩) k k := by rw [hA]; rfl
      have HAA := Lib.hid hA; clear hA
      obtain ⟨o0, po0, q0, d0, gd0⟩ : ∃ o, ops[0]? = some o ∧ o.op = .load 71 (.tmp 6) ∧ o.dst = some 21 ∧ o.guard = none := ⟨_, by rw [hops]; rfl, rfl, rfl, rfl⟩
      obtain ⟨o1, po1, q1, d1, gd1⟩ : ∃ o, ops[1]? = some o ∧ o.op = .move (.tmp 8) ∧ o.dst = some 22 ∧ o.guard = none := ⟨_, by rw [hops]; rfl, rfl, rfl, rfl⟩
      obtain ⟨o2, po2, q2, d2, gd2⟩ : ∃ o, ops[2]? = some o ∧ o.op = .buildSlice 26 1 #[(0, (.const (.int .u8 1)))] ∧ o.dst = some 23 ∧ o.guard = none := ⟨_, by rw [hops]; rfl, rfl, rfl, rfl⟩
      obtain ⟨o3, po3, q3, d3, gd3⟩ : ∃ o, ops[3]? = some o ∧ o.op = .call { callee := .builtin .append, args := #[.tmp 22, .tmp 23], argTypes := #[26, 26] } ∧ o.dst = some 24 ∧ o.guard = none := ⟨_, by rw [hops]; rfl, rfl, rfl, rfl⟩
      obtain ⟨o4, po4, q4, d4, gd4⟩ : ∃ o, ops[4]? = some o ∧ o.op = .call { callee := .value (.func 44), args := #[.tmp 24], argTypes := #[26] } ∧ o.dst = some 25 ∧ o.guard = none := ⟨_, by rw [hops]; rfl, rfl, rfl, rfl⟩
      obtain ⟨o5, po5, q5, d5, gd5⟩ : ∃ o, ops[5]? = some o ∧ o.op = .call { callee := .value (.func 43), args := #[.tmp 21, .tmp 25], argTypes := #[71, 71] } ∧ o.dst = some 26 ∧ o.guard = none := ⟨_, by rw [hops]; rfl, rfl, rfl, rfl⟩
      obtain ⟨o6, po6, q6, d6, gd6⟩ : ∃ o, ops[6]? = some o ∧ o.op = .load 71 (.tmp 5) ∧ o.dst = some 27 ∧ o.guard = none := ⟨_, by rw [hops]; rfl, rfl, rfl, rfl⟩
      obtain ⟨o7, po7, q7, d7, gd7⟩ : ∃ o, ops[7]? = some o ∧ o.op = .call { callee := .value (.func 42), args := #[.tmp 26, .tmp 27], argTypes := #[71, 71] } ∧ o.dst = some 28 ∧ o.guard = none := ⟨_, by rw [hops]; rfl, rfl, rfl, rfl⟩
      obtain ⟨o8, po8, q8, d8, gd8⟩ : ∃ o, ops[8]? = some o ∧ o.op = .call { callee := .value (.func 41), args := #[.tmp 28], argTypes := #[71] } ∧ o.dst = some 29 ∧ o.guard = none := ⟨_, by rw [hops]; rfl, rfl, rfl, rfl⟩
      obtain ⟨o9, po9, q9, d9, gd9⟩ : ∃ o, ops[9]? = some o ∧ o.op = .store 71 (.tmp 6) (.tmp 29) ∧ o.dst = none ∧ o.guard = none := ⟨_, by rw [hops]; rfl, rfl, rfl, rfl⟩
      clear hops
      refine met_early po0 d0 (wanted_of gd0) (fun w' _ h' => run_loadNum q0 base6 HAL.out h') ?_
      refine met_free po1 d1 (wanted_of gd1) (fun w' _ => run_move q1 ((eval_other _ 21 8 _ (by decide)).trans base8) w') ?_
      refine met_free po6 d6 (wanted_of gd6) (fun w' h' => run_loadNum q6 ((eval_other _ 22 5 _ (by decide)).trans ((eval_other _ 21 5 _ (by decide)).trans base5)) HRL.out h') ?_
      refine met_valueB po2 d2 (wanted_of gd2) (run_build1 q2 rfl _) ?_
      have H1 := Lib.hid (HSD.out.on ((Below.refl _ _).alloc (Nat.le_refl _) (.cells #[.int .u8 1] 5)))
      have HO1 := Lib.hid (one_range wr.drew)
      have HB1 := Lib.hid (range_keep HBD.out (((Below.refl _ _).alloc (Nat.le_refl _) (.cells #[.int .u8 1] 5)) : Below wr.drew.heap.size wr.drew _))
      refine ⟨⟨H1.out.r, H1.out.a⟩, ?_⟩
      refine met_before po3 (wanted_of gd3) (wp_append_grow (.tmp 22) (.tmp 23) q3 blk [1#8] b off _ 0 k 1 1 ((eval_other _ 23 22 _ (by decide)).trans ((eval_other _ 27 22 _ (by decide)).trans (eval_same _ _ _ (by simp only [put_size, hsz]; decide)))) HBK.out HB1.out (eval_same _ _ _ (by simp only [put_size, hsz]; decide)) rfl HO1.out (by omega) (by omega) ?_)
      intro v2 w2 ho2 hb2
      obtain ⟨p2, c2, rfl, hc2', hl2⟩ := own_lies ho2
      have H2 := Lib.hid (H1.out.on hb2)
      have HL2 := Lib.hid hl2
      clear ho2 hb2 hl2 hc2'
      rw [d3, HBL2.out]
      refine ⟨⟨H2.out.r, H2.out.a⟩, ?_⟩
      refine met_enterB po4 d4 (wanted_of gd4) (run_callf1 q4 rfl (eval_same _ _ _ (by simp only [put_size, hsz]; decide)) Tryd.func44 (by kernel_rfl) _) (numberOf_any (blk ++ [1#8]) (k + 1) p2 c2 w2 HBL2.out (by omega) HL2.out) ?_
      rintro e w3 ⟨rfl, hb3⟩
      have H3 := Lib.hid (H2.out.on hb3); clear hb3
      refine ⟨_, rfl, ⟨H3.out.r, H3.out.a⟩, ?_⟩
      refine met_enterB po5 d5 (wanted_of gd5) (run_callf2 q5 rfl ((eval_other _ 25 21 _ (by decide)).trans ((eval_other _ 24 21 _ (by decide)).trans ((eval_other _ 23 21 _ (by decide)).trans ((eval_other _ 27 21 _ (by decide)).trans ((eval_other _ 22 21 _ (by decide)).trans (eval_same _ _ _ (by rw [hsz]; decide))))))) (eval_same _ _ _ (by simp only [put_size, hsz]; decide)) Tryd.func43 (by kernel_rfl) _) (plus_any acc (numOf (blk ++ [1#8])) w3 HAL.out (numOf_length _)) ?_
      rintro e w4 ⟨rfl, hb4⟩
      have H4 := Lib.hid (H3.out.on hb4); clear hb4
      refine ⟨_, rfl, ⟨H4.out.r, H4.out.a⟩, ?_⟩
      refine met_enterB po7 d7 (wanted_of gd7) (run_callf2 q7 rfl (eval_same _ _ _ (by simp only [put_size, hsz]; decide)) ((eval_other _ 26 27 _ (by decide)).trans ((eval_other _ 25 27 _ (by decide)).trans ((eval_other _ 24 27 _ (by decide)).trans ((eval_other _ 23 27 _ (by decide)).trans (eval_same _ _ _ (by simp only [put_size, hsz]; decide)))))) Tryd.func42 (by kernel_rfl) _) (product_any (addL acc (numOf (blk ++ [1#8])) 5) rr w4 ((addL_length _ _ _).trans HAL.out) HRL.out) ?_
      rintro e w5 ⟨rfl, hb5⟩
      have H5 := Lib.hid (H4.out.on hb5); clear hb5
      refine ⟨_, rfl, ⟨H5.out.r, H5.out.a⟩, ?_⟩
      refine met_enterB po8 d8 (wanted_of gd8) (run_callf1 q8 rfl (eval_same _ _ _ (by simp only [put_size, hsz]; decide)) Tryd.func41 (by kernel_rfl) _) (reduced_any (mulL (addL acc (numOf (blk ++ [1#8])) 5) rr 5) w5 (mulL_length _ _ _)) ?_
      rintro e w6 ⟨rfl, hb6⟩
      have H6 := Lib.hid (H5.out.on hb6); clear hb6
      refine ⟨_, rfl, ⟨H6.out.r, H6.out.a⟩, ?_⟩
      rw [HAE.out]
      refine met_behind po9 (wanted_of gd9) (wp_store_row tNum (.tmp 6) (.tmp 29) q9 A (limbsV (accStep rr acc blk)).toArray ((eval_other _ 29 6 _ (by decide)).trans ((eval_other _ 28 6 _ (by decide)).trans ((eval_other _ 26 6 _ (by decide)).trans ((eval_other _ 25 6 _ (by decide)).trans ((eval_other _ 24 6 _ (by decide)).trans ((eval_other _ 23 6 _ (by decide)).trans ((eval_other _ 27 6 _ (by decide)).trans ((eval_other _ 22 6 _ (by decide)).trans ((eval_other _ 21 6 _ (by decide)).trans base6))))))))) (eval_same _ _ _ (by simp only [put_size, hsz]; decide)) tNum _ H6.out.a HIA.out HAO.out (limbsV_one _) ?_)
      have H7 := Lib.hid (H6.out.row (acc' := accStep rr acc blk))
      rw [d9]
      refine ⟨H7.out.r, ?_⟩
      show NoPanic _ .normal _ _
      refine NoPanic.normal ?_
      rw [HAA.out]
      go_frame
      clear HAA
      clear H1 H2 H3 H4 H5 H6 HO1 HB1 HL2 HIA HAO HAE HBL2 HBD HSD
      obtain ⟨p3, hsl, hp3⟩ : ∃ p3 : Option Addr, (if c = k then some (⟨b, off, none⟩ : Addr) else some ⟨b, off + k, none⟩) = p3 ∧ (∀ w8 : World, w8.rangeAt b off (bytesV (bs.drop (16 * j))) → Lies w8 p3 (bs.drop (16 * (j + 1)))) := by
        have hmj := HM.out
        have hnj := HN.out
        have hkj := HK.out
        by_cases hck : c = k
        · exact ⟨some ⟨b, off, none⟩, by rw [if_pos hck], fun _ _ => Or.inl (List.drop_of_length_le (by have := HC.out; omega))⟩
        · refine ⟨some ⟨b, off + k, none⟩, by rw [if_neg hck], fun w8 hw8 => ?_⟩
          by_cases h16 : k = 16
          · refine Or.inr ⟨b, off + k, rfl, ?_⟩
            have := range_drop (k := k) hw8
            rw [List.drop_drop, h16] at this
            rw [h16, show 16 * (j + 1) = 16 * j + 16 by omega]; exact this
          · exact Or.inl (List.drop_of_length_le (by omega))
      have HP3 := Lib.hid hp3; clear hp3
      have kn : (k : Int) ≤ (n : Int) := by omega
      have nc : (n : Int) ≤ (c : Int) := by have := HC.out; omega
      go_wp2_with fail
      go_roundw
      case rel =>
        have hnj := HN.out
        have hkj := HK.out
        have hcj := HC.out
        refine ⟨j + 1, p3, c - k, by omega, by rw [show m - 16 * (j + 1) = n - k by omega], by omega, by omega, HP3.out _ HRG.out, ?_⟩
        rw [HSU.out]; exact H7.out
      case measure =>
        show n - k < n
        omega
    · have hz : m - 16 * j = 0 := by omega
      rw [hz] at hc1 ⊢
      clear hz hl hc1
      have HS := Lib.hid hs; clear hs
      have HNB : Hid (j = (bs.length + 15) / 16) := show _ = _ by rw [HM.out]; omega
      go_upto_region 8 with (fail)
      have HSD : Hid (SumS w key R A rr (accK rr bs j) wr.drew) := show SumS _ _ _ _ _ _ _ from HS.out.on ((Below.refl _ _).drew)
      have HAL := Lib.hid (accK_length rr bs j)
      have HTE : Hid (tagOf (addL (accK rr bs j) (numOf (key.drop 16)) 5) = polyTag key bs) := show _ = _ by rw [HNB.out, HRR.out]; rfl
      generalize accK rr bs j = acc at HSD HAL HTE
      have HKD : Hid ((key.drop 16).length = 16) := show _ = _ by rw [List.length_drop, HKL.out]
      have HKLie : Hid (Lies wr.drew (some ⟨w.heap.size, 16, none⟩) (key.drop 16)) := show Lies _ _ _ from Or.inr ⟨_, _, rfl, by
        have := range_drop (k := 16) HSD.out.k.key.range
        rw [Nat.zero_add] at this; exact this⟩
      have HIT := Lib.hid (infoTag _ (polyTag_length key bs))
      have HTO := Lib.hid (show (bytesV zeros16).toArray.size = (bytesV (polyTag key bs)).toArray.size by rw [bytesV_size _ 16 (polyTag_length key bs)]; unfold zeros16; rfl)
      clear HS
      refine region_phase (fun w1 => LimbsAt w1 A tNum acc) (fun _ => True) 2 HSD.out.a trivial [(0, .free), (1, .free), (2, .behind), (3, .behind), (4, .behind), (5, .behind)] (by kernel_rfl) (by kernel_rfl) (by kernel_rfl) (by kernel_rfl) (fun ops hops A2 hA => ?_)
      have hsz : A2.tmps.size = 38 := by rw [hA]; rfl
      have base2 : A2.eval (.tmp 2) = .pointer (some ⟨w.heap.size, 0, none⟩) := by rw [hA]; rfl
      have base4 : A2.eval (.tmp 4) = .pointer (some ⟨w.heap.size + 1, 0, none⟩) := by rw [hA]; rfl
      have base6 : A2.eval (.tmp 6) = .pointer (some ⟨A, 0, none⟩) := by rw [hA]; rfl
      have HAA := Lib.hid hA; clear hA
      obtain ⟨o0, po0, q0, d0, gd0⟩ : ∃ o, ops[0]? = some o ∧ o.op = .load 71 (.tmp 6) ∧ o.dst = some 33 ∧ o.guard = none := ⟨_, by rw [hops]; rfl, rfl, rfl, rfl⟩
      obtain ⟨o1, po1, q1, d1, gd1⟩ : ∃ o, ops[1]? = some o ∧ o.op = .slice 23 (.tmp 2) (some (.const (.int .i64 16))) none none ∧ o.dst = some 34 ∧ o.guard = none := ⟨_, by rw [hops]; rfl, rfl, rfl, rfl⟩
      obtain ⟨o2, po2, q2, d2, gd2⟩ : ∃ o, ops[2]? = some o ∧ o.op = .call { callee := .value (.func 44), args := #[.tmp 34], argTypes := #[26] } ∧ o.dst = some 35 ∧ o.guard = none := ⟨_, by rw [hops]; rfl, rfl, rfl, rfl⟩
      obtain ⟨o3, po3, q3, d3, gd3⟩ : ∃ o, ops[3]? = some o ∧ o.op = .call { callee := .value (.func 43), args := #[.tmp 33, .tmp 35], argTypes := #[71, 71] } ∧ o.dst = some 36 ∧ o.guard = none := ⟨_, by rw [hops]; rfl, rfl, rfl, rfl⟩
      obtain ⟨o4, po4, q4, d4, gd4⟩ : ∃ o, ops[4]? = some o ∧ o.op = .call { callee := .value (.func 45), args := #[.tmp 36], argTypes := #[71] } ∧ o.dst = some 37 ∧ o.guard = none := ⟨_, by rw [hops]; rfl, rfl, rfl, rfl⟩
      obtain ⟨o5, po5, q5, d5, gd5⟩ : ∃ o, ops[5]? = some o ∧ o.op = .store 46 (.tmp 4) (.tmp 37) ∧ o.dst = none ∧ o.guard = none := ⟨_, by rw [hops]; rfl, rfl, rfl, rfl⟩
      clear hops
      refine met_free po0 d0 (wanted_of gd0) (fun w' h' => run_loadNum q0 base6 HAL.out h') ?_
      refine met_free po1 d1 (wanted_of gd1) (fun w' _ => run_key16 q1 (fun _ => rfl) ((eval_other _ 33 2 _ (by decide)).trans base2) w') ?_
      refine met_enterA po2 d2 (wanted_of gd2) (run_callf1 q2 rfl (eval_same _ _ _ (by simp only [put_size, hsz]; decide)) Tryd.func44 (by kernel_rfl) _) (numberOf_any (key.drop 16) 16 _ _ _ HKD.out (by omega) HKLie.out) ?_
      rintro e w4 ⟨rfl, hb4⟩
      have H4 := Lib.hid (HSD.out.on hb4); clear hb4
      refine ⟨_, rfl, H4.out.a, ?_⟩
      refine met_enterA po3 d3 (wanted_of gd3) (run_callf2 q3 rfl ((eval_other _ 35 33 _ (by decide)).trans ((eval_other _ 34 33 _ (by decide)).trans (eval_same _ _ _ (by rw [hsz]; decide)))) (eval_same _ _ _ (by simp only [put_size, hsz]; decide)) Tryd.func43 (by kernel_rfl) _) (plus_any acc (numOf (key.drop 16)) w4 HAL.out (numOf_length _)) ?_
      rintro e w5 ⟨rfl, hb5⟩
      have H5 := Lib.hid (H4.out.on hb5); clear hb5
      refine ⟨_, rfl, H5.out.a, ?_⟩
      refine met_enterA po4 d4 (wanted_of gd4) (run_callf1 q4 rfl (eval_same _ _ _ (by simp only [put_size, hsz]; decide)) Tryd.func45 (by kernel_rfl) _) (bytesOf_any (addL acc (numOf (key.drop 16)) 5) w5 ((addL_length _ _ _).trans HAL.out)) ?_
      rintro e w6 ⟨rfl, hb6⟩
      have H6 := Lib.hid (H5.out.on hb6); clear hb6
      refine ⟨_, rfl, H6.out.a, ?_⟩
      rw [HTE.out]
      refine met_behind po5 (wanted_of gd5) (wp_store_row 46 (.tmp 4) (.tmp 37) q5 (w.heap.size + 1) (bytesV (polyTag key bs)).toArray ((eval_other _ 37 4 _ (by decide)).trans ((eval_other _ 36 4 _ (by decide)).trans ((eval_other _ 35 4 _ (by decide)).trans ((eval_other _ 34 4 _ (by decide)).trans ((eval_other _ 33 4 _ (by decide)).trans base4))))) (eval_same _ _ _ (by simp only [put_size, hsz]; decide)) 46 _ H6.out.k.res HIT.out HTO.out (bytesV_one _) ?_)
      have h7 : LimbsAt (w6.setRow (w.heap.size + 1) (bytesV (polyTag key bs)).toArray) A tNum acc := H6.out.a.past (grown_setRow _ _ _) (by have := H6.out.later; omega)
      rw [d5]
      refine ⟨h7, ?_⟩
      show NoPanic _ .normal _ _
      refine NoPanic.normal ?_
      rw [HAA.out]
      go_frame
      clear HAA h7
      have hrow := setRow_heap w6 (w.heap.size + 1) _ (bytesV (polyTag key bs)).toArray 46 _ H6.out.k.res
      have hbel := below_setRow H6.out.k.below (show w.heap.size ≤ w.heap.size + 1 by omega) (bytesV (polyTag key bs)).toArray
      clear H4 H5 H6 HSD HTE HTO HKLie HKD
      generalize hfe : (bytesV (polyTag key bs)).toArray = full at hrow hbel HIT ⊢
      have HFE := Lib.hid hfe; clear hfe
      generalize w6.setRow (w.heap.size + 1) full = wz at hrow hbel ⊢
      have hres : ∀ tmps : Array Value, tmps.getD 4 undef = .pointer (some ⟨w.heap.size + 1, 0, none⟩) → Sem.run Tryd.prog (results Tryd.f32 tmps) wz = .ok (.agg full) wz := fun tmps h =>
        results_cell_row (P := Tryd.prog) (p := 4) (ty := 46) Tryd.results32 tmps wz (w.heap.size + 1) 46 full (0, 0) _ h hrow Tryd.underlying46 rfl HIT.out
      go_wp2_with fail
      exact bodyPost_ret (v := .agg full) (hres _ rfl) rfl ⟨by rw [HFE.out], hbel⟩
theorem polySum_any (key bs : List (BitVec 8)) (m : Nat) (p : Option Addr) (cap : Nat) (w : World) (hk : key.length = 32) (hm : bs.length = m) (hc : m ≤ cap) (hcm : cap ≤ 140737488355328) (hL : Lies w p bs) :
    Calls Tryd.prog 32 #[.agg (bytesV key).toArray, .slice p m cap] w fun e w' => e = .returned (.agg (bytesV (polyTag key bs)).toArray) ∧ Below w.heap.size w w' :=
  polySum_wide key bs m p cap w hk hm hc (by omega) hL
end Go.Proofs.YtagkkihnfipfeaaDoor

/-
  Operations about an append of bytes in a region that draws its order: a slice built of one byte, of four; the append itself; words read, shifted, cut to bytes.
-/
namespace Go.Proofs.YtagkkihnfipfeaaDoor
open Go.RowKit Go.Proofs.ShaWords
attribute [local go_sem] and32 or32 xor32 add32 shl32 shr32 wrap32_n8 wrap8_n32

theorem met_wp {P : Program} {ops : Array Oper} {Q : Exit → Act → World → Prop} {S E : World → Prop} {r : List (Nat × Met)} {i : Nat} {o : Oper} {a : Act} {w : World} (ho : ops[i]? = some o) (hw : Region.wanted o (yielded ops a.tmps) = true)
    (h : o.wp P a w (fun a' w' => S w' ∧ wpE P ops Q S E r a' w') Q) : wpE P ops Q S E ((i, .behind) :: r) a w := by
  show wpOp P ops Q i _ a w
  unfold wpOp
  rw [ho]
  show if Region.wanted o (yielded ops a.tmps) = true then _ else _
  rw [if_pos hw]
  exact .inl h
theorem wp_append_bytes {o : Oper} {a : Act} {w : World} {K : Act → World → Prop} {Q : Exit → Act → World → Prop} (s x : Operand)
    (ho : o.op = .call { callee := .builtin .append, args := #[s, x], argTypes := #[26, 26] }) (B : Nat) (v : Value) (l m : List (BitVec 8)) (b off c : Nat) (hs : a.eval s = v) (hown : Own B w l v) (hx : a.eval x = .slice (some ⟨b, off, none⟩) m.length c)
    (hm : w.rangeAt b off (bytesV m)) (hne : 0 < m.length) (hl : l.length + m.length < 1099511627776) (hB : B ≤ w.heap.size)
    (h : ∀ v' w', Own B w' (l ++ m) v' → Below B w w' → K (a.put o.dst v') w') : o.wp Tryd.prog a w K Q := by
  obtain ⟨i, hi, hz, hsz, hby⟩ := info5'
  refine wp_append_lies w s x 26 ho B 5 i (.int .u8 0) 1 1 Tryd.underlying26 hi hz hsz hby rfl (by decide) v l.length (bytesV l) hs hown ⟨b, off, none⟩ m.length c (bytesV m) hx (by rw [bytesV_length, Nat.mul_one]) ?_ ?_ hne (by unfold maxLen; omega) (by omega) hB w.heap.size rfl ?_
  · intro j u hu
    rw [Addr.add_mid]
    exact hm j u hu
  · intro u hu
    exact bytesV_mem hu
  · intro g cap w' ho' hg hgo _
    refine h _ w' ?_ ?_
    · unfold Own
      rw [List.length_append, bytesV_append]; exact ho'
    · exact (Below.refl B w).grown hg hB (fun k hk => (hown.lt k hk).1)
section
variable {ρ : Operand → Value} {o : Oper} {x y : Operand} {w : World}
theorem run_ixWords {b off n c k : Nat} (ho : o.op = .indexAddr 77 x y) (hx : ρ x = .slice (some ⟨b, off, none⟩) n c) (hy : ρ y = .int .i64 (k : Int)) (hk : k < n) (w : World) :
    (execOp ρ o).run Tryd.prog w = .ok (.value (.pointer (some ⟨b, off + k, none⟩))) w := by
  obtain ⟨dst, op, ty', pos, after, guard⟩ := o
  simp only at ho
  subst ho
  have q : (k : Int) < (n : Int) := by omega
  go_simp
theorem run_ld32 {a : Addr} {v : Int} (ho : o.op = .load 49 x) (hx : ρ x = .pointer (some a)) (hc : w.cell? a = some (.int .u32 v)) : (execOp ρ o).run Tryd.prog w = .ok (.value (.int .u32 v)) w := by
  obtain ⟨dst, op, ty', pos, after, guard⟩ := o
  simp only at ho
  subst ho
  go_simp
theorem run_shr32 {a : BitVec 32} {k : Nat} {ty : TypeId} (ho : o.op = .binOp .shr 49 x y ty) (hx : ρ x = .int .u32 (n32 a)) (hy : ρ y = .int .u64 (k : Int)) (hk : k < 32) (w : World) : (execOp ρ o).run Tryd.prog w = .ok (.value (.int .u32 (n32 (a >>> k)))) w := by
  obtain ⟨dst, op, ty', pos, after, guard⟩ := o
  simp only at ho
  subst ho
  have h := shr32 a k
  have q : ¬ (32 : Int) ≤ (k : Int) := by omega
  go_simp
theorem run_cut8 {a : BitVec 32} (ho : o.op = .convert 49 5 x) (hx : ρ x = .int .u32 (n32 a)) (w : World) : (execOp ρ o).run Tryd.prog w = .ok (.value (.int .u8 (n8 (lo8 a)))) w := by
  obtain ⟨dst, op, ty', pos, after, guard⟩ := o
  simp only at ho
  subst ho
  have h := wrap8_n32 a
  go_simp
theorem run_build4 {x0 x1 x2 x3 : Operand} {i0 i1 i2 i3 : Int} (ho : o.op = .buildSlice 26 4 #[(0, x0), (1, x1), (2, x2), (3, x3)]) (h0 : ρ x0 = .int .u8 i0) (h1 : ρ x1 = .int .u8 i1) (h2 : ρ x2 = .int .u8 i2) (h3 : ρ x3 = .int .u8 i3) (w : World) :
    (execOp ρ o).run Tryd.prog w = .ok (.value (.slice (some ⟨w.heap.size, 0, none⟩) 4 4)) (w.alloc (.cells #[.int .u8 i0, .int .u8 i1, .int .u8 i2, .int .u8 i3] 5)) := by
  obtain ⟨dst, op, ty', pos, after, guard⟩ := o
  simp only at ho
  subst ho
  go_simp
end
end Go.Proofs.YtagkkihnfipfeaaDoor

/-
  The contract of the law's own words: the bytes of words, the highest first.
-/
namespace Go.Proofs.YtagkkihnfipfeaaDoor
open Go.RowKit Go.Proofs.ShaWords

/-- A word's four bytes, the highest first. -/
def beBytes (x : BitVec 32) : List (BitVec 8) := [lo8 (x >>> 24), lo8 (x >>> 16), lo8 (x >>> 8), lo8 x]
theorem beFlat_length (l : List (BitVec 32)) : (l.flatMap beBytes).length = 4 * l.length := by
  induction l with
  | nil => rfl
  | cons a r ih => rw [List.flatMap_cons, List.length_append, ih]; simp [beBytes]; omega
theorem beFlat_succ (L : List (BitVec 32)) (k : Nat) (hk : k < L.length) : (L.take (k + 1)).flatMap beBytes = (L.take k).flatMap beBytes ++ beBytes (L.getD k 0#32) := by
  rw [List.take_succ_eq_append_getElem hk, List.flatMap_append]
  simp [List.getD, hk]

end Go.Proofs.YtagkkihnfipfeaaDoor

/-
  The contracts of the law's own counted and works: the published block; works returns true, and nothing that was there changes.
-/
namespace Go.Proofs.YtagkkihnfipfeaaDoor
open Go.RowKit Go.Proofs.ShaWords

/-- The key 0, 1, 2 and so on. -/
def countedK : List (BitVec 8) := (List.range 32).map (BitVec.ofNat 8)
def countTo (k : Nat) : List (BitVec 8) := (List.range k).map (BitVec.ofNat 8) ++ noughts (32 - k)
theorem countTo_length (k : Nat) (hk : k ≤ 32) : (countTo k).length = 32 := by simp [countTo, noughts]; omega
theorem countTo_set (k : Nat) (hk : k < 32) : (countTo k).set k (BitVec.ofNat 8 k) = countTo (k + 1) := by
  unfold countTo noughts
  obtain ⟨m, hm⟩ : ∃ m, 32 - k = m + 1 := ⟨31 - k, by omega⟩
  rw [hm, show 32 - (k + 1) = m by omega, List.set_append_right _ _ (by simp), List.range_succ, List.map_append]
  simp [List.replicate_succ]
theorem countTo_full : countTo 32 = countedK := by simp [countTo, countedK, noughts]
theorem wrap8_nat (m : Nat) : IntKind.u8.wrap (m : Int) = n8 (BitVec.ofNat 8 m) := by
  unfold n8; rw [IntKind.wrap_u8', BitVec.toNat_ofNat]; omega
structure CntW (w : World) (l : List (BitVec 8)) (wr : World) : Prop where
  res : BytesAt wr w.heap.size 23 (noughts 32)
  row : BytesAt wr (w.heap.size + 1) 23 l
  below : Below w.heap.size w wr
theorem CntW.put {w wr : World} {l : List (BitVec 8)} (h : CntW w l wr) (k : Nat) (x : BitVec 8) : CntW w (l.set k x) (wr.setCell ⟨w.heap.size + 1, k, none⟩ (.int .u8 (n8 x))) :=
  ⟨h.res.putOther (by omega) _ _, h.row.put k x, h.below.setCell (by show w.heap.size ≤ w.heap.size + 1; omega) _⟩
attribute [local irreducible] countTo
/-- The published nonce and block. -/
def nonce9 : List (BitVec 8) := [0#8, 0#8, 0#8, 9#8, 0#8, 0#8, 0#8, 0x4A#8, 0#8, 0#8, 0#8, 0#8]
def blockW : List (BitVec 32) := [0x10F1E7E4#32, 0xD13B5915#32, 0x500FDD1F#32, 0xA32071C4#32, 0xC7D1F4C7#32, 0x33C06803#32, 0x0422AA9A#32, 0xC3D46C4E#32, 0xD2826446#32, 0x079FAA09#32, 0x14C2D705#32, 0xD98B02A2#32, 0xB5129CD1#32, 0xDE164EB9#32, 0xCBD083E8#32, 0xA2503C4E#32]
theorem published : ccBlock countedK 1#32 nonce9 = blockW.flatMap beBytes := by decide +kernel
theorem blockW_vals : (wordsV blockW).toArray = #[.int .u32 284288996, .int .u32 3510327573, .int .u32 1343216927, .int .u32 2736812484, .int .u32 3352425671, .int .u32 868247555, .int .u32 69380762, .int .u32 3285478478, .int .u32 3531760710, .int .u32 127904265, .int .u32 348313349, .int .u32 3649766050, .int .u32 3037895889, .int .u32 3726003897, .int .u32 3419440104, .int .u32 2723167310] := by kernel_rfl

attribute [local irreducible] ccBlock countedK
end Go.Proofs.YtagkkihnfipfeaaDoor

/-
  What the laws of layer 3 share: what they have boxed; chacha.Xor by its length; bytes combined twice.
-/
namespace Go.Proofs.YtagkkihnfipfeaaDoor
open Go.RowKit Go.Proofs.ShaWords

theorem xorKs_twice (key : List (BitVec 8)) (c : BitVec 32) (nonce bs : List (BitVec 8)) : xorKs key c nonce (xorKs key c nonce bs) = bs := by
  apply List.ext_getElem?
  intro i
  by_cases hi : i < bs.length
  · have h1 : i < (xorKs key c nonce bs).length := by rw [xorKs_length]; exact hi
    have h2 : i < (xorKs key c nonce (xorKs key c nonce bs)).length := by rw [xorKs_length]; exact h1
    have e := xorKs_get key c nonce (xorKs key c nonce bs) i h1
    rw [xorKs_get key c nonce bs i hi, BitVec.xor_assoc, BitVec.xor_self, BitVec.xor_zero] at e
    simp only [List.getD, List.getElem?_eq_getElem h2, List.getElem?_eq_getElem hi, Option.getD_some] at e
    rw [List.getElem?_eq_getElem h2, List.getElem?_eq_getElem hi, e]
  · rw [List.getElem?_eq_none (by rw [xorKs_length, xorKs_length]; omega), List.getElem?_eq_none (by omega)]
/-- What a law of layer 3 has boxed: the key, the nonce. -/
structure TwoW (w : World) (key nonce : List (BitVec 8)) (wr : World) : Prop where
  key : BytesAt wr w.heap.size 23 key
  nonce : BytesAt wr (w.heap.size + 1) 25 nonce
  below : Below w.heap.size w wr
theorem TwoW.on {w wr w' : World} {key nonce : List (BitVec 8)} (h : TwoW w key nonce wr) (hb : Below wr.heap.size wr w') : TwoW w key nonce w' := ⟨h.key.keep hb, h.nonce.keep hb, h.below.trans (hb.mono h.below.size)⟩
theorem two_start (w : World) (key nonce : List (BitVec 8)) : TwoW w key nonce ((w.alloc (.cells (bytesV key).toArray 23)).alloc (.cells (bytesV nonce).toArray 25)) :=
  ⟨BytesAt.keep (w := w.alloc _) (heap_alloc_new w _) ((Below.refl _ _).alloc (Nat.le_refl _) _), heap_new_at (size_alloc _ _), ((Below.refl _ _).alloc (Nat.le_refl _) _).alloc (by rw [size_alloc]; omega) _⟩
theorem ccXor_len (key nonce bs : List (BitVec 8)) (n : Nat) (c : BitVec 32) (p : Option Addr) (cap : Nat) (w : World) (hbn : bs.length = n) (hk : key.length = 32) (hn : nonce.length = 12) (hl : n ≤ 1000000) (hL : Lies w p bs) (hq : Quads w) :
    Calls Tryd.prog 21 #[.agg (bytesV key).toArray, .int .u32 (n32 c), .agg (bytesV nonce).toArray, .slice p n cap] w
      fun e w' => ∃ q cq, e = .returned (.slice q n cq) ∧ n ≤ cq ∧ Own w.heap.size w' (xorKs key c nonce bs) (.slice q n cq) ∧ Below w.heap.size w w' := by
  subst hbn
  refine (ccXor_any key nonce bs c p cap w hk hn hl hL hq).mono ?_
  rintro e w' ⟨v, rfl, ho, hb⟩
  obtain ⟨q, cq, rfl, h1, h2, -⟩ := ho.lies
  rw [xorKs_length] at ho h1 ⊢
  exact ⟨q, cq, rfl, h1, ho, hb⟩
theorem Own.liesOf {B : Nat} {w : World} {l : List (BitVec 8)} {p : Option Addr} {n c : Nat} (h : Own B w l (.slice p n c)) : Lies w p l := by
  obtain ⟨p', c', h1, -, -, h2⟩ := h.lies
  cases h1; exact h2

end Go.Proofs.YtagkkihnfipfeaaDoor

/-
  Single operations of the laws of layer 3, in regions that draw their order: a call that makes memory, guards, slices, keys and nonces loaded, counters.
-/
namespace Go.Proofs.YtagkkihnfipfeaaDoor
open Go.RowKit Go.Proofs.ShaWords
attribute [local go_sem] and32 or32 xor32 add32 shl32 shr32 wrap32_n8 wrap8_n32

section
variable {P : Program} {ops : Array Oper} {Q : Exit → Act → World → Prop} {S E : World → Prop} {r : List (Nat × Met)} {i : Nat} {o : Oper} {d : Option Tmp} {a : Act} {w : World}
theorem met_enter {f : FuncId} {args : Array Value} {R : Ending → World → Prop} (ho : ops[i]? = some o) (hd : o.dst = d) (hw : Region.wanted o (yielded ops a.tmps) = true) (hr : (execOp a.eval o).run P w = .ok (.enter f args) w) (hc : Calls P f args w R)
    (h : ∀ e w', R e w' → ∃ v, e = .returned v ∧ S w' ∧ wpE P ops Q S E r (a.put d v) w') : wpE P ops Q S E ((i, .behind) :: r) a w := by
  refine met_wp ho hw ?_
  unfold Oper.wp
  rw [hr, Oper.upon_enter]
  refine hc.mono ?_
  rintro e w' hR
  obtain ⟨v, rfl, hS, h⟩ := h e w' hR
  rw [hd]
  exact ⟨hS, h⟩
theorem wanted_guardF {j : Nat} {dj : Tmp} {oj : Oper} (hg : o.guard = some (j, false)) (hj : ops[j]? = some oj) (hd : oj.dst = some dj) (he : a.eval (.tmp dj) = .bool false) : Region.wanted o (yielded ops a.tmps) = true := by
  have h2 : a.tmps[dj]? = some (.bool false) := by
    have h3 : a.tmps.getD dj undef = .bool false := he
    rw [Array.getD_eq_getD_getElem?] at h3
    cases h4 : a.tmps[dj]? with
    | none => rw [h4] at h3; exact absurd h3 (by simp [undef])
    | some u => rw [h4] at h3; simp at h3; rw [h3]
  unfold Region.wanted
  rw [hg]
  simp only [yielded, hj, Option.bind_some, hd, h2]
  rfl
end
section
variable {ρ : Operand → Value} {o : Oper} {x y c : Operand} {w : World}
theorem run_sliceTo {p : Addr} {n cap k : Nat} (ho : o.op = .slice 26 x none (some y) none) (hx : ρ x = .slice (some p) n cap) (hy : ρ y = .int .i64 (k : Int)) (hk : k ≤ cap) (w : World) :
    (execOp ρ o).run Tryd.prog w = .ok (.value (.slice (some p) k cap)) w := by
  obtain ⟨dst, op, ty', pos, after, guard⟩ := o
  simp only at ho
  subst ho
  have q : (k : Int) ≤ (cap : Int) := by omega
  obtain ⟨b, off, pl⟩ := p
  go_simp
theorem run_sliceFrom {b off n cap k : Nat} (ho : o.op = .slice 26 x (some y) none none) (hx : ρ x = .slice (some ⟨b, off, none⟩) n cap) (hy : ρ y = .int .i64 (k : Int)) (hk : k ≤ n) (hk2 : k < cap) (hn : n ≤ cap) (w : World) :
    (execOp ρ o).run Tryd.prog w = .ok (.value (.slice (some ⟨b, off + k, none⟩) (n - k) (cap - k))) w := by
  obtain ⟨dst, op, ty', pos, after, guard⟩ := o
  simp only at ho
  subst ho
  have q : (k : Int) ≤ (n : Int) := by omega
  have q2 : (n : Int) ≤ (cap : Int) := by omega
  have q3 : ¬ cap = k := by omega
  have q4 : ¬ cap - k = 0 := by omega
  go_simp
theorem run_not {b : Bool} {ty : TypeId} {P : Program} (ho : o.op = .unOp .not ty x) (hx : ρ x = .bool b) (w : World) : (execOp ρ o).run P w = .ok (.value (.bool (!b))) w := by
  obtain ⟨dst, op, ty', pos, after, guard⟩ := o
  simp only at ho
  subst ho
  go_simp
theorem run_pickF {P : Program} {v : Value} (ho : o.op = .pick c x y) (hc : ρ c = .bool false) (h : ρ y = v) (w : World) : (execOp ρ o).run P w = .ok (.value v) w := by
  unfold execOp; simp only [ho, hc, h, Sem.run_bind]; rfl
theorem run_cnv32 {m : Nat} (ho : o.op = .convert 3 49 x) (hx : ρ x = .int .i64 (m : Int)) (w : World) : (execOp ρ o).run Tryd.prog w = .ok (.value (.int .u32 (n32 (BitVec.ofNat 32 m)))) w := by
  obtain ⟨dst, op, ty', pos, after, guard⟩ := o
  simp only at ho
  subst ho
  have h := wrap32_nat m
  go_simp
theorem run_add32 {p q : BitVec 32} (ho : o.op = .binOp .add 49 x y 49) (hx : ρ x = .int .u32 (n32 p)) (hy : ρ y = .int .u32 (n32 q)) (w : World) : (execOp ρ o).run Tryd.prog w = .ok (.value (.int .u32 (n32 (p + q)))) w := by
  obtain ⟨dst, op, ty', pos, after, guard⟩ := o
  simp only at ho
  subst ho
  have h := add32 p q
  go_simp
theorem run_mul64 {m : Nat} (ho : o.op = .binOp .mul 3 (.const (.int .i64 64)) x 3) (h0 : ∀ u, ρ (.const u) = u) (hx : ρ x = .int .i64 (m : Int)) (hm : m ≤ 1000000) (w : World) : (execOp ρ o).run Tryd.prog w = .ok (.value (.int .i64 ((64 * m : Nat) : Int))) w := by
  obtain ⟨dst, op, ty', pos, after, guard⟩ := o
  simp only at ho
  subst ho
  have h := IntWalk.i64_in (64 * (m : Int)) (by omega)
  have h1 := h0 (.int .i64 64)
  have h2 : ((64 * m : Nat) : Int) = 64 * (m : Int) := by omega
  rw [h2]
  clear h2
  go_simp
theorem run_loadKey {l : List (BitVec 8)} {b : Nat} (ho : o.op = .load 23 x) (hx : ρ x = .pointer (some ⟨b, 0, none⟩)) (hl : l.length = 32) (hr : BytesAt w b 23 l) : (execOp ρ o).run Tryd.prog w = .ok (.value (.agg (bytesV l).toArray)) w := by
  have h := run_loadAt_mid (P := Tryd.prog) w b 0 23 (bytesV l) _ hr.range Tryd.underlying23 rfl (by rw [bytesV_length, hl]; kernel_rfl)
  unfold execOp
  simp only [ho, hx, Sem.run_bind, h, Result.andThen_ok, Sem.run_pure]
theorem run_loadNonce {l : List (BitVec 8)} {b : Nat} (ho : o.op = .load 25 x) (hx : ρ x = .pointer (some ⟨b, 0, none⟩)) (hl : l.length = 12) (hr : BytesAt w b 25 l) : (execOp ρ o).run Tryd.prog w = .ok (.value (.agg (bytesV l).toArray)) w := by
  have h := run_loadAt_mid (P := Tryd.prog) w b 0 25 (bytesV l) _ hr.range Tryd.underlying25 rfl (by rw [bytesV_length, hl]; kernel_rfl)
  unfold execOp
  simp only [ho, hx, Sem.run_bind, h, Result.andThen_ok, Sem.run_pure]
theorem run_makeBytes {n : Nat} (ho : o.op = .makeSlice 26 x y) (hx : ρ x = .int .i64 (n : Int)) (hy : ρ y = .int .i64 (n : Int)) (hn : n ≤ 1000000) (w : World) :
    ∃ w', (execOp ρ o).run Tryd.prog w = .ok (.value (.slice (some ⟨w.heap.size, 0, none⟩) n n)) w' ∧ BytesAt w' w.heap.size 5 (noughts n) ∧ Below w.heap.size w w' := by
  obtain ⟨i, hi, hz, hs, hb⟩ := info_parts info5
  have hrun := run_make (P := Tryd.prog) w 26 5 i (.int .u8 0) Tryd.underlying26 hi hz .i64 .i64 (n : Int) (n : Int) (by omega) (by omega) (by rw [hb]; omega) (by omega)
  rw [hs, Nat.mul_one] at hrun
  simp only [Int.toNat_natCast] at hrun
  refine ⟨w.alloc (.cells (madeCells (Value.int .u8 0).cells n) 5), ?_, ?_, (Below.refl w.heap.size w).alloc (Nat.le_refl _) _⟩
  · unfold execOp
    simp only [ho, hx, hy, Sem.run_bind, hrun, Result.andThen_ok, Sem.run_pure]
  · show _ = some (Obj.cells (bytesV (List.replicate n 0#8)).toArray _ _)
    rw [← made_noughts]
    exact heap_new_at rfl
end
section
variable {ops : Array Oper} {Q : Exit → Act → World → Prop} {S E : World → Prop} {r : List (Nat × Met)} {i : Nat} {o : Oper} {d : Option Tmp} {a : Act} {w : World} {x y : Operand}
theorem met_make {n : Nat} (ho : ops[i]? = some o) (hd : o.dst = d) (hw : Region.wanted o (yielded ops a.tmps) = true) (hq : o.op = .makeSlice 26 x y) (hx : a.eval x = .int .i64 (n : Int)) (hy : a.eval y = .int .i64 (n : Int)) (hn : n ≤ 1000000)
    (h : ∀ w', BytesAt w' w.heap.size 5 (noughts n) → Below w.heap.size w w' → S w' ∧ wpE Tryd.prog ops Q S E r (a.put d (.slice (some ⟨w.heap.size, 0, none⟩) n n)) w') : wpE Tryd.prog ops Q S E ((i, .behind) :: r) a w := by
  obtain ⟨w', hr, hb, hl⟩ := run_makeBytes hq hx hy hn w
  exact met_op ho hd hw hr (h w' hb hl).1 (h w' hb hl).2
end
end Go.Proofs.YtagkkihnfipfeaaDoor

/-
  For the law ChachaPlaces: a byte turned, a beginning, an end of what Xor makes; stores into slices of the call's own.
-/
namespace Go.Proofs.YtagkkihnfipfeaaDoor
open Go.RowKit Go.Proofs.ShaWords

theorem list_ext8 {a b : List (BitVec 8)} (hl : a.length = b.length) (h : ∀ i, i < a.length → a.getD i 0#8 = b.getD i 0#8) : a = b := by
  apply List.ext_getElem hl
  intro i h1 h2
  have := h i h1
  simpa [List.getD, h1, h2] using this
theorem xorKs_turn (key : List (BitVec 8)) (c : BitVec 32) (nonce bs : List (BitVec 8)) (r : Nat) (t : BitVec 8) (hr : r < bs.length) :
    (xorKs key c nonce (bs.set r (bs.getD r 0#8 ^^^ t))).set r ((xorKs key c nonce (bs.set r (bs.getD r 0#8 ^^^ t))).getD r 0#8 ^^^ t) = xorKs key c nonce bs := by
  apply list_ext8
  · rw [List.length_set, xorKs_length, xorKs_length, List.length_set]
  · intro i hi
    rw [List.length_set, xorKs_length, List.length_set] at hi
    by_cases e : r = i
    · subst e
      rw [set_getD_self _ _ _ _ (by rw [xorKs_length, List.length_set]; exact hr), xorKs_get _ _ _ _ _ (by rw [List.length_set]; exact hr), set_getD_self _ _ _ _ hr, xorKs_get _ _ _ _ _ hr]
      rw [BitVec.xor_assoc, BitVec.xor_assoc, BitVec.xor_comm (ksAt key c nonce r) t, ← BitVec.xor_assoc t t, BitVec.xor_self, BitVec.zero_xor]
    · rw [set_getD_other _ _ _ _ _ e, xorKs_get _ _ _ _ _ (by rw [List.length_set]; exact hi), set_getD_other _ _ _ _ _ e, xorKs_get _ _ _ _ _ hi]
theorem getD_take8 (l : List (BitVec 8)) (k i : Nat) (h : i < k) : (l.take k).getD i 0#8 = l.getD i 0#8 := by simp [List.getD, h]
theorem getD_drop8 (l : List (BitVec 8)) (k i : Nat) : (l.drop k).getD i 0#8 = l.getD (k + i) 0#8 := by simp [List.getD]
theorem xorKs_take (key : List (BitVec 8)) (c : BitVec 32) (nonce bs : List (BitVec 8)) (r : Nat) (hr : r ≤ bs.length) : xorKs key c nonce (bs.take r) = (xorKs key c nonce bs).take r := by
  apply list_ext8
  · rw [xorKs_length, List.length_take, List.length_take, xorKs_length]
  · intro i hi
    rw [xorKs_length, List.length_take] at hi
    rw [xorKs_get _ _ _ _ _ (by rw [List.length_take]; exact hi), getD_take8 _ _ _ (by omega), getD_take8 _ _ _ (by omega), xorKs_get _ _ _ _ _ (by omega)]
theorem ksAt_on (key : List (BitVec 8)) (c : BitVec 32) (nonce : List (BitVec 8)) (m k : Nat) : ksAt key (c + BitVec.ofNat 32 m) nonce k = ksAt key c nonce (64 * m + k) := by
  unfold ksAt blkAt
  rw [show (64 * m + k) % 64 = k % 64 by omega, show (64 * m + k) / 64 = m + k / 64 by omega, BitVec.add_assoc, ← BitVec.ofNat_add]
theorem xorKs_drop (key : List (BitVec 8)) (c : BitVec 32) (nonce bs : List (BitVec 8)) (m : Nat) : xorKs key (c + BitVec.ofNat 32 m) nonce (bs.drop (64 * m)) = (xorKs key c nonce bs).drop (64 * m) := by
  apply list_ext8
  · rw [xorKs_length, List.length_drop, List.length_drop, xorKs_length]
  · intro i hi
    rw [xorKs_length, List.length_drop] at hi
    rw [xorKs_get _ _ _ _ _ (by rw [List.length_drop]; exact hi), getD_drop8, getD_drop8, xorKs_get _ _ _ _ _ (by omega), ksAt_on]
theorem Lies.take {w : World} {p : Option Addr} {l : List (BitVec 8)} (h : Lies w p l) (k : Nat) : Lies w p (l.take k) := by
  rcases h with rfl | ⟨b, off, rfl, hr⟩
  · exact Or.inl (by simp)
  · refine Or.inr ⟨b, off, rfl, fun j v hv => hr j v ?_⟩
    rw [bytesV_take, List.getElem?_take] at hv
    split at hv
    · exact hv
    · cases hv
theorem Lies.drop {w : World} {b off : Nat} {l : List (BitVec 8)} (h : Lies w (some ⟨b, off, none⟩) l) (k : Nat) : Lies w (some ⟨b, off + k, none⟩) (l.drop k) := by
  rcases h with rfl | ⟨b', off', h0, hr⟩
  · exact Or.inl (by simp)
  · cases h0
    exact Or.inr ⟨b, off + k, rfl, range_drop hr⟩
theorem Own.putOther {B : Nat} {w : World} {l : List (BitVec 8)} {v : Value} (h : Own B w l v) {G : Nat} (hne : v.ownBlock ≠ some G) (k : Nat) (u : Value) : Own B (w.setCell ⟨G, k, none⟩ u) l v :=
  World.ownsRow.kept h (grown_setCell _ _ _ _) (Or.inr hne)
end Go.Proofs.YtagkkihnfipfeaaDoor

/-
  The statements' own published and known: the published key; known returns true, and nothing that was there changes. Two tags that are the same compare so.
-/
namespace Go.Proofs.YtagkkihnfipfeaaDoor
open Go.RowKit Go.Proofs.ShaWords

theorem equal16 (d : Nat) (l : List (BitVec 8)) (hl : l.length = 16) (w : World) : (Op.equalIn (d + 1 + 1) 46 (.agg (bytesV l).toArray) (.agg (bytesV l).toArray)).run Tryd.prog w = .ok true w := by
  have hsz : (sizeOf 5).run Tryd.prog w = .ok 1 w := by kernel_rfl
  rw [Op.equalIn]
  simp only [Sem.run_bind, run_underlying Tryd.underlying46, Result.andThen_ok, hsz]
  rw [Std.Legacy.Range.forIn_eq_forIn_range']
  rw [forIn_yield]
  · simp
  · intro i hi
    have hi32 : i < l.length := by
      rw [List.mem_range'] at hi
      obtain ⟨j, hj, rfl⟩ := hi
      rw [hl]
      simp [Std.Legacy.Range.size] at hj ⊢
      omega
    rw [Sem.run_bind, part5 l i hi32]
    simp only [Result.andThen_ok]
    rw [Sem.run_bind, part5 l i hi32]
    simp only [Result.andThen_ok]
    rw [Sem.run_bind, run_equalIn_int w d 5 .u8 .u8 _ _ Tryd.underlying5]
    simp
theorem eql16 (l : List (BitVec 8)) (hl : l.length = 16) (w : World) : (binOp .eql 46 (.agg (bytesV l).toArray) (.agg (bytesV l).toArray)).run Tryd.prog w = .ok (.bool true) w := by
  rw [run_eql_struct, equal16 9998 l hl]; rfl
theorem run_eql_tag {ρ : Operand → Value} {o : Oper} {x y : Operand} {l : List (BitVec 8)} {ty : TypeId} (ho : o.op = .binOp .eql 46 x y ty) (hl : l.length = 16) (hx : ρ x = .agg (bytesV l).toArray) (hy : ρ y = .agg (bytesV l).toArray) (w : World) :
    (execOp ρ o).run Tryd.prog w = .ok (.value (.bool true)) w := by
  have hg : Tryd.prog.eqGuardType Tryd.prog.depth 46 = false := by kernel_rfl
  unfold execOp
  simp only [ho, hx, hy, Sem.run_bind, run_eqGuard_agg w .eql 46 x y _ _ hg, Result.andThen_ok, eql16 l hl, Sem.run_pure]
theorem wpList_eql_tag {ops : Array Oper} {rest : List Oper} {o : Oper} {a : Act} {w : World} {Q : Exit → Act → World → Prop} (hg : o.guard = none) (x y : Operand) (ty : TypeId) (ho : o.op = .binOp .eql 46 x y ty) (l : List (BitVec 8)) (hl : l.length = 16)
    (hx : a.eval x = .agg (bytesV l).toArray) (hy : a.eval y = .agg (bytesV l).toArray) (h : wpList Tryd.prog ops Q rest (a.put o.dst (.bool true)) w) : wpList Tryd.prog ops Q (o :: rest) a w := by
  refine wpList_plain hg fun K hK => ?_
  unfold Oper.wp
  rw [run_eql_tag ho hl hx hy w, Oper.upon_value]
  exact hK _ _ h

/-- The published key, text and tag. -/
def pubK : List (BitVec 8) := [0x85#8, 0xD6#8, 0xBE#8, 0x78#8, 0x57#8, 0x55#8, 0x6D#8, 0x33#8, 0x7F#8, 0x44#8, 0x52#8, 0xFE#8, 0x42#8, 0xD5#8, 0x06#8, 0xA8#8, 0x01#8, 0x03#8, 0x80#8, 0x8A#8, 0xFB#8, 0x0D#8, 0xB2#8, 0xFD#8, 0x4A#8, 0xBF#8, 0xF6#8, 0xAF#8, 0x41#8, 0x49#8, 0xF5#8, 0x1B#8]
def pubT : List (BitVec 8) := [67#8, 114#8, 121#8, 112#8, 116#8, 111#8, 103#8, 114#8, 97#8, 112#8, 104#8, 105#8, 99#8, 32#8, 70#8, 111#8, 114#8, 117#8, 109#8, 32#8, 82#8, 101#8, 115#8, 101#8, 97#8, 114#8, 99#8, 104#8, 32#8, 71#8, 114#8, 111#8, 117#8, 112#8]
def pubTag : List (BitVec 8) := [0xA8#8, 0x06#8, 0x1D#8, 0xC1#8, 0x30#8, 0x51#8, 0x36#8, 0xC6#8, 0xC2#8, 0x2B#8, 0x8B#8, 0xAF#8, 0x0C#8, 0x01#8, 0x27#8, 0xA9#8]
theorem pub_tag : polyTag pubK pubT = pubTag := by decide +kernel
theorem pubK_vals : (bytesV pubK).toArray = #[.int .u8 133, .int .u8 214, .int .u8 190, .int .u8 120, .int .u8 87, .int .u8 85, .int .u8 109, .int .u8 51, .int .u8 127, .int .u8 68, .int .u8 82, .int .u8 254, .int .u8 66, .int .u8 213, .int .u8 6, .int .u8 168, .int .u8 1, .int .u8 3, .int .u8 128, .int .u8 138, .int .u8 251, .int .u8 13, .int .u8 178, .int .u8 253, .int .u8 74, .int .u8 191, .int .u8 246, .int .u8 175, .int .u8 65, .int .u8 73, .int .u8 245, .int .u8 27] := by kernel_rfl
theorem pubT_vals : (bytesV pubT).toArray = #[.int .u8 67, .int .u8 114, .int .u8 121, .int .u8 112, .int .u8 116, .int .u8 111, .int .u8 103, .int .u8 114, .int .u8 97, .int .u8 112, .int .u8 104, .int .u8 105, .int .u8 99, .int .u8 32, .int .u8 70, .int .u8 111, .int .u8 114, .int .u8 117, .int .u8 109, .int .u8 32, .int .u8 82, .int .u8 101, .int .u8 115, .int .u8 101, .int .u8 97, .int .u8 114, .int .u8 99, .int .u8 104, .int .u8 32, .int .u8 71, .int .u8 114, .int .u8 111, .int .u8 117, .int .u8 112] := by kernel_rfl
theorem pubTag_vals : (bytesV pubTag).toArray = #[.int .u8 168, .int .u8 6, .int .u8 29, .int .u8 193, .int .u8 48, .int .u8 81, .int .u8 54, .int .u8 198, .int .u8 194, .int .u8 43, .int .u8 139, .int .u8 175, .int .u8 12, .int .u8 1, .int .u8 39, .int .u8 169] := by kernel_rfl
def zeros32 : List (BitVec 8) := List.replicate 32 0#8
theorem zeros32_eq : (bytesV zeros32).toArray = #[Value.int IntKind.u8 0, Value.int IntKind.u8 0, Value.int IntKind.u8 0, Value.int IntKind.u8 0, Value.int IntKind.u8 0, Value.int IntKind.u8 0, Value.int IntKind.u8 0, Value.int IntKind.u8 0, Value.int IntKind.u8 0, Value.int IntKind.u8 0, Value.int IntKind.u8 0, Value.int IntKind.u8 0, Value.int IntKind.u8 0, Value.int IntKind.u8 0, Value.int IntKind.u8 0, Value.int IntKind.u8 0, Value.int IntKind.u8 0, Value.int IntKind.u8 0, Value.int IntKind.u8 0, Value.int IntKind.u8 0, Value.int IntKind.u8 0, Value.int IntKind.u8 0, Value.int IntKind.u8 0, Value.int IntKind.u8 0, Value.int IntKind.u8 0, Value.int IntKind.u8 0, Value.int IntKind.u8 0, Value.int IntKind.u8 0, Value.int IntKind.u8 0, Value.int IntKind.u8 0, Value.int IntKind.u8 0, Value.int IntKind.u8 0] := rfl

attribute [local irreducible] polyTag
end Go.Proofs.YtagkkihnfipfeaaDoor

/-
  The contracts of the statements' own half, with and sum.
-/
namespace Go.Proofs.YtagkkihnfipfeaaDoor
open Go.RowKit Go.Proofs.ShaWords
/-- A copy of bytes into a block, from any place on. -/
theorem wpList_copy_at {w : World} {ops : Array Oper} {rest : List Oper} {o : Oper} {a : Act} {Q : Exit → Act → World → Prop} (hgd : o.guard = none) (d s : Operand)
    (ho : o.op = .call { callee := .builtin .copy, args := #[d, s], argTypes := #[26, 26] }) (g off n cap : Nat) (t : TypeId) (blk bs : List (BitVec 8)) (b off2 m c : Nat)
    (hd : a.eval d = .slice (some ⟨g, off, none⟩) n cap) (hs : a.eval s = .slice (some ⟨b, off2, none⟩) m c) (hg : BytesAt w g t blk) (hr : w.rangeAt b off2 (bytesV bs)) (hm : bs.length = m) (hle : m ≤ n) (hfit : off + m ≤ blk.length)
    (h : ∀ w', BytesAt w' g t (splice blk off bs) → w.grownBy w' (some g) → wpList Tryd.prog ops Q rest (a.put o.dst (goInt m)) w') : wpList Tryd.prog ops Q (o :: rest) a w := by
  have i5 : (Tryd.prog.info? 5).map (·.size) = some 1 := by kernel_rfl
  have hl : (bytesV bs).length = m := by rw [bytesV_length, hm]
  refine wpList_copy_own hgd d s 26 26 ho 5 Tryd.underlying26 i5 g off n cap ⟨b, off2, none⟩ m c hd hs (bytesV blk).toArray t hg (bytesV bs) (by rw [hl]; exact (Nat.min_eq_left hle).symm)
    (fun j v hv => by rw [Addr.add_mid]; exact hr j v hv) (by rw [hl, bytesV_size _ _ rfl]; exact hfit) (fun v hv => bytesV_mem hv) ?_
  rw [hl]
  refine h _ ?_ (grown_setRow _ _ _)
  show _ = _
  rw [setRow_heap _ _ _ _ _ _ hg]
  congr 2
  rw [← hl]
  simp [splice, bytesV]
theorem splice_full {α : Type} (L r : List α) (h : L.length = r.length) : splice L 0 r = r := by
  unfold splice
  rw [List.take_zero, List.nil_append, List.drop_of_length_le (by omega), List.append_nil]
theorem splice_two {α : Type} (L x y : List α) (n : Nat) (hx : x.length = n) (hy : y.length = n) (h : L.length = n + n) : splice (splice L 0 x) n y = x ++ y := by
  unfold splice
  rw [List.take_zero, List.nil_append, hx, Nat.zero_add, List.take_append_of_le_length (by omega), List.take_of_length_le (by omega), List.drop_of_length_le (by simp; omega), List.append_nil]

/-- The key's block, the result's, the half's. -/
structure HalfW (w : World) (key t : List (BitVec 8)) (wr : World) : Prop where
  key : BytesAt wr w.heap.size 23 key
  res : BytesAt wr (w.heap.size + 1) 46 zeros16
  t : BytesAt wr (w.heap.size + 1 + 1) 46 t
  below : Below w.heap.size w wr
attribute [local irreducible] zeros16
/-- Two tags' blocks, the result's, the key's. -/
structure WithW (w : World) (r s key : List (BitVec 8)) (wr : World) : Prop where
  r : BytesAt wr w.heap.size 46 r
  s : BytesAt wr (w.heap.size + 1) 46 s
  res : BytesAt wr (w.heap.size + 1 + 1) 23 zeros32
  key : BytesAt wr (w.heap.size + 1 + 1 + 1) 23 key
  below : Below w.heap.size w wr
theorem WithW.past {w wr w' : World} {r s key key' : List (BitVec 8)} (h : WithW w r s key wr) (hg : wr.grownBy w' (some (w.heap.size + 1 + 1 + 1))) (hk : BytesAt w' (w.heap.size + 1 + 1 + 1) 23 key') : WithW w r s key' w' :=
  ⟨h.r.past hg (by omega), h.s.past hg (by omega), h.res.past hg (by omega), hk, h.below.grown hg h.below.size (fun k hk => by cases hk; omega)⟩
theorem WithW.drew {w wr : World} {r s key : List (BitVec 8)} (h : WithW w r s key wr) : WithW w r s key wr.drew := ⟨h.r, h.s, h.res, h.key, h.below.trans (((Below.refl _ _).drew).mono h.below.size)⟩
attribute [local irreducible] zeros32
end Go.Proofs.YtagkkihnfipfeaaDoor

/-
  The contract of the statements' own sum: two numbers of sixteen bytes, modulo 2^128.
-/
namespace Go.Proofs.YtagkkihnfipfeaaDoor
open Go.RowKit Go.Proofs.ShaWords
def byteN (l : List (BitVec 8)) (i : Nat) : Nat := (l.getD i 0#8).toNat
theorem byteN_lt (l : List (BitVec 8)) (i : Nat) : byteN l i < 256 := (l.getD i 0#8).isLt
/-- What is carried into the place k; the bytes below it. -/
def carB (x y : List (BitVec 8)) : Nat → Nat
  | 0 => 0
  | k + 1 => (byteN x k + byteN y k + carB x y k) / 256
def addB (x y : List (BitVec 8)) : Nat → List (BitVec 8)
  | 0 => zeros16
  | k + 1 => (addB x y k).set k (BitVec.ofNat 8 ((byteN x k + byteN y k + carB x y k) % 256))
theorem carB_zero (x y : List (BitVec 8)) : carB x y 0 = 0 := rfl
theorem carB_succ (x y : List (BitVec 8)) (k : Nat) : carB x y (k + 1) = (byteN x k + byteN y k + carB x y k) / 256 := rfl
theorem addB_zero (x y : List (BitVec 8)) : addB x y 0 = zeros16 := rfl
theorem addB_succ (x y : List (BitVec 8)) (k : Nat) : addB x y (k + 1) = (addB x y k).set k (BitVec.ofNat 8 ((byteN x k + byteN y k + carB x y k) % 256)) := rfl
theorem carB_le (x y : List (BitVec 8)) (k : Nat) : carB x y k ≤ 1 := by
  induction k with
  | zero => simp [carB]
  | succ k ih => have := byteN_lt x k; have := byteN_lt y k; rw [carB_succ]; omega
theorem addB_length (x y : List (BitVec 8)) (k : Nat) : (addB x y k).length = 16 := by
  induction k with
  | zero => rfl
  | succ k ih => rw [addB_succ, List.length_set, ih]
/-- Two tags' blocks, the result's, the sum's. -/
structure AddW (w : World) (x y t : List (BitVec 8)) (wr : World) : Prop where
  x : BytesAt wr w.heap.size 46 x
  y : BytesAt wr (w.heap.size + 1) 46 y
  res : BytesAt wr (w.heap.size + 1 + 1) 46 zeros16
  t : BytesAt wr (w.heap.size + 1 + 1 + 1) 46 t
  below : Below w.heap.size w wr
theorem AddW.set {w wr : World} {x y t : List (BitVec 8)} (h : AddW w x y t wr) (k : Nat) (v : BitVec 8) : AddW w x y (t.set k v) (wr.setCell ⟨w.heap.size + 1 + 1 + 1, k, none⟩ (.int .u8 (n8 v))) :=
  ⟨h.x.putOther (by omega) _ _, h.y.putOther (by omega) _ _, h.res.putOther (by omega) _ _, h.t.put k v, h.below.setCell (show w.heap.size ≤ w.heap.size + 1 + 1 + 1 by omega) _⟩
theorem AddW.drew {w wr : World} {x y t : List (BitVec 8)} (h : AddW w x y t wr) : AddW w x y t wr.drew := ⟨h.x, h.y, h.res, h.t, h.below.trans (((Below.refl _ _).drew).mono h.below.size)⟩
attribute [local go_sem] wrap8_nat
attribute [local irreducible] zeros16 addB carB
end Go.Proofs.YtagkkihnfipfeaaDoor
