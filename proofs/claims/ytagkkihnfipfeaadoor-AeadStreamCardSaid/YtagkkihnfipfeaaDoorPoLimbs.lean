/-
  A block that holds words of 64 bits; what poly's numbers share.
-/
import Derived.Test.YtagkkihnfipfeaaDoorWordsAt
import Derived.Test.YtagkkihnfipfeaaDoorByteOps
import Derived.Test.YtagkkihnfipfeaaDoorW64
import Derived.Deep.CutRange
namespace Go.Proofs.YtagkkihnfipfeaaDoor
open Go.RowKit Go.Proofs.ShaWords

def limbsV (l : List (BitVec 64)) : List Value := l.map fun x => .int .u64 (n64 x)
theorem limbsV_length (l : List (BitVec 64)) : (limbsV l).length = l.length := by simp [limbsV]
theorem limbsV_size (l : List (BitVec 64)) (n : Nat) (h : l.length = n) : (limbsV l).toArray.size = n := by simp [limbsV, h]
theorem limbsV_one (l : List (BitVec 64)) : (limbsV l).toArray.all (·.oneCell') = true :=
  Array.all_eq_true_iff_forall_mem.2 fun v hv => by
    simp only [limbsV, List.mem_toArray, List.mem_map] at hv
    obtain ⟨x, _, rfl⟩ := hv
    rfl
theorem limbsV_set (l : List (BitVec 64)) (k : Nat) (x : BitVec 64) : (limbsV l).toArray.setIfInBounds k (.int .u64 (n64 x)) = (limbsV (l.set k x)).toArray := by
  simp [limbsV, List.map_set]
/-- A block that holds these words. -/
def LimbsAt (w : World) (g : Nat) (t : TypeId) (l : List (BitVec 64)) : Prop := w.heap[g]? = some (.cells (limbsV l).toArray t (0, 0))
section
variable {w w' : World} {g r : Nat} {t : TypeId} {l : List (BitVec 64)}
theorem LimbsAt.size (h : LimbsAt w g t l) : g < w.heap.size := (Array.getElem?_eq_some_iff.1 h).1
theorem LimbsAt.keep (h : LimbsAt w g t l) (hb : Below w.heap.size w w') : LimbsAt w' g t l := (hb.block _ h.size).trans h
theorem LimbsAt.past (h : LimbsAt w g t l) (hg : w.grownBy w' (some r)) (hne : g ≠ r) : LimbsAt w' g t l := (hg.block _ h.size (fun e => hne (Option.some.inj e))).trans h
theorem LimbsAt.cell (h : LimbsAt w g t l) (k : Nat) (hk : k < l.length) : w.cell? ⟨g, k, none⟩ = some (.int .u64 (n64 (l.getD k 0#64))) := by
  rw [cell_of_row w g k _ t _ h]; simp [limbsV, List.getD, hk]
theorem LimbsAt.frozen (h : LimbsAt w g t l) (k : Nat) : w.frozen? ⟨g, k, none⟩ = false := frozen_of_row _ _ _ _ _ h
theorem LimbsAt.set (h : LimbsAt w g t l) (k : Nat) (x : BitVec 64) : LimbsAt (w.setCell ⟨g, k, none⟩ (.int .u64 (n64 x))) g t (l.set k x) := by
  show _ = _
  rw [heap_setCell_same _ _ _ _ _ _ h, limbsV_set]
theorem LimbsAt.setOther (h : LimbsAt w g t l) (hne : g ≠ r) (k : Nat) (v : Value) : LimbsAt (w.setCell ⟨r, k, none⟩ v) g t l := by
  show _ = _
  rw [heap_setCell_other _ _ _ _ hne]; exact h
theorem LimbsAt.drew (h : LimbsAt w g t l) : LimbsAt w.drew g t l := h
end
abbrev tNum : TypeId := 71
def nought5 : List (BitVec 64) := [0#64, 0#64, 0#64, 0#64, 0#64]
theorem nought5_eq : (limbsV nought5).toArray = #[Value.int .u64 0, Value.int .u64 0, Value.int .u64 0, Value.int .u64 0, Value.int .u64 0] := rfl
theorem info5n (l : List (BitVec 64)) (h : l.length = 5) : (Tryd.prog.info? 71).map (·.size) = some (limbsV l).toArray.size :=
  (show (Tryd.prog.info? 71).map (·.size) = some 5 by kernel_rfl).trans (congrArg some (limbsV_size _ 5 h).symm)
theorem five {α : Type} (l : List α) (h : l.length = 5) : ∃ a b c d e, l = [a, b, c, d, e] := by
  match l, h with
  | [a, b, c, d, e], _ => exact ⟨_, _, _, _, _, rfl⟩
/-- Two numbers that came in, and the result's block. -/
structure TwoN (w : World) (L y : List (BitVec 64)) (wr : World) : Prop where
  x : LimbsAt wr w.heap.size tNum L
  y : LimbsAt wr (w.heap.size + 1) tNum y
  res : LimbsAt wr (w.heap.size + 1 + 1) tNum nought5
  below : Below w.heap.size w wr
theorem TwoN.set {w wr : World} {L y : List (BitVec 64)} (h : TwoN w L y wr) (k : Nat) (v : BitVec 64) : TwoN w (L.set k v) y (wr.setCell ⟨w.heap.size, k, none⟩ (.int .u64 (n64 v))) :=
  ⟨h.x.set k v, h.y.setOther (by omega) _ _, h.res.setOther (by omega) _ _, h.below.setCell (Nat.le_refl _) _⟩
theorem TwoN.on {w wr w' : World} {L y : List (BitVec 64)} (h : TwoN w L y wr) (hb : Below wr.heap.size wr w') : TwoN w L y w' :=
  ⟨h.x.keep hb, h.y.keep hb, h.res.keep hb, h.below.trans (hb.mono h.below.size)⟩
theorem two_n (w : World) (x y : List (BitVec 64)) : TwoN w x y (((w.alloc (.cells (limbsV x).toArray tNum)).alloc (.cells (limbsV y).toArray tNum)).alloc (.cells #[.int .u64 0, .int .u64 0, .int .u64 0, .int .u64 0, .int .u64 0] tNum)) :=
  ⟨alloc3_1 w _ _ _, alloc3_2 w _ _ _, by show _ = some (Obj.cells (limbsV nought5).toArray _ _); rw [nought5_eq]; exact alloc3_3 w _ _ _, alloc3_below w _ _ _⟩
/-- The first k limbs added. -/
def addL (x y : List (BitVec 64)) : Nat → List (BitVec 64)
  | 0 => x
  | k + 1 => (addL x y k).set k ((addL x y k).getD k 0#64 + y.getD k 0#64)
theorem addL_zero (x y : List (BitVec 64)) : addL x y 0 = x := rfl
theorem addL_succ (x y : List (BitVec 64)) (k : Nat) : addL x y (k + 1) = (addL x y k).set k ((addL x y k).getD k 0#64 + y.getD k 0#64) := rfl
theorem addL_length (x y : List (BitVec 64)) (k : Nat) : (addL x y k).length = x.length := by
  induction k with
  | zero => rfl
  | succ k ih => rw [addL_succ, List.length_set, ih]
end Go.Proofs.YtagkkihnfipfeaaDoor
