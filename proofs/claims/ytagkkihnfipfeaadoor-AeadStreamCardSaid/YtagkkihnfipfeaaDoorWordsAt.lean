/-
  A block that holds words; pieces of a list written over.
-/
import Derived.Test.YtagkkihnfipfeaaDoorGen
namespace Go.Proofs.YtagkkihnfipfeaaDoor
open Go.RowKit Go.Proofs.ShaWords

/-- A block that holds these words. -/
def WordsAt (w : World) (g : Nat) (t : TypeId) (l : List (BitVec 32)) : Prop := w.heap[g]? = some (.cells (wordsV l).toArray t (0, 0))
theorem WordsAt.size {w : World} {g : Nat} {t : TypeId} {l : List (BitVec 32)} (h : WordsAt w g t l) : g < w.heap.size := (Array.getElem?_eq_some_iff.1 h).1
theorem WordsAt.keep {w w' : World} {g : Nat} {t : TypeId} {l : List (BitVec 32)} (h : WordsAt w g t l) (hb : Below w.heap.size w w') : WordsAt w' g t l := (hb.block _ h.size).trans h
theorem WordsAt.past {w w' : World} {g r : Nat} {t : TypeId} {l : List (BitVec 32)} (h : WordsAt w g t l) (hg : w.grownBy w' (some r)) (hne : g ≠ r) : WordsAt w' g t l := (hg.block _ h.size (fun e => hne (Option.some.inj e))).trans h
theorem WordsAt.cell {w : World} {g : Nat} {t : TypeId} {l : List (BitVec 32)} (h : WordsAt w g t l) (k : Nat) (hk : k < l.length) : w.cell? ⟨g, k, none⟩ = some (.int .u32 (n32 (l.getD k 0#32))) := by
  rw [cell_wordsV h hk]; simp [List.getD, hk]
theorem WordsAt.frozen {w : World} {g : Nat} {t : TypeId} {l : List (BitVec 32)} (h : WordsAt w g t l) (k : Nat) : w.frozen? ⟨g, k, none⟩ = false := frozen_of_row _ _ _ _ _ h
theorem WordsAt.set {w : World} {g : Nat} {t : TypeId} {l : List (BitVec 32)} (h : WordsAt w g t l) (k : Nat) (x : BitVec 32) : WordsAt (w.setCell ⟨g, k, none⟩ (.int .u32 (n32 x))) g t (l.set k x) := by
  show _ = _
  rw [heap_setCell_same _ _ _ _ _ _ h, wordsV_set]
theorem WordsAt.setOther {w : World} {g r : Nat} {t : TypeId} {l : List (BitVec 32)} (h : WordsAt w g t l) (hne : g ≠ r) (k : Nat) (v : Value) : WordsAt (w.setCell ⟨r, k, none⟩ v) g t l := by
  show _ = _
  rw [heap_setCell_other _ _ _ _ hne]; exact h
theorem WordsAt.range {w : World} {g : Nat} {t : TypeId} {l : List (BitVec 32)} (h : WordsAt w g t l) : w.rangeAt g 0 (wordsV l) := fun j v hv => by
  rw [Nat.zero_add, cell_of_row w g j _ t _ h]; simpa using hv
theorem WordsAt.drew {w : World} {g : Nat} {t : TypeId} {l : List (BitVec 32)} (h : WordsAt w g t l) : WordsAt w.drew g t l := h
theorem BytesAt.cell {w : World} {g : Nat} {t : TypeId} {l : List (BitVec 8)} (h : BytesAt w g t l) (k : Nat) (hk : k < l.length) : w.cell? ⟨g, k, none⟩ = some (.int .u8 (n8 (l.getD k 0#8))) := by
  rw [cell_bytesV h hk]; simp [List.getD, hk]
theorem BytesAt.frozenAt {w : World} {g : Nat} {t : TypeId} {l : List (BitVec 8)} (h : BytesAt w g t l) (k : Nat) : w.frozen? ⟨g, k, none⟩ = false := frozen_of_row _ _ _ _ _ h
theorem BytesAt.put {w : World} {g : Nat} {t : TypeId} {l : List (BitVec 8)} (h : BytesAt w g t l) (k : Nat) (x : BitVec 8) : BytesAt (w.setCell ⟨g, k, none⟩ (.int .u8 (n8 x))) g t (l.set k x) := setCell_bytes h x
theorem BytesAt.putOther {w : World} {g r : Nat} {t : TypeId} {l : List (BitVec 8)} (h : BytesAt w g t l) (hne : g ≠ r) (k : Nat) (v : Value) : BytesAt (w.setCell ⟨r, k, none⟩ v) g t l := by
  show _ = _
  rw [heap_setCell_other _ _ _ _ hne]; exact h
theorem range_cell {w : World} {b off : Nat} {l : List (BitVec 8)} (h : w.rangeAt b off (bytesV l)) (k : Nat) (hk : k < l.length) : w.cell? ⟨b, off + k, none⟩ = some (.int .u8 (n8 (l.getD k 0#8))) := by
  refine h k _ ?_
  simp [bytesV, List.getD, hk]
theorem grown_drew (w : World) (r : Option Nat) : w.grownBy w.drew r := grown_of_below ((Below.refl _ _).drew) r
theorem set_getD_self {α : Type} (l : List α) (k : Nat) (x d : α) (h : k < l.length) : (l.set k x).getD k d = x := by simp [List.getD, h]
theorem set_getD_other {α : Type} (l : List α) (k j : Nat) (x d : α) (h : k ≠ j) : (l.set k x).getD j d = l.getD j d := by simp [List.getD, List.getElem?_set_ne h]
theorem splice_snoc {α : Type} (W L : List α) (o : Nat) (x : α) (h : o + L.length < W.length) : (splice W o L).set (o + L.length) x = splice W o (L ++ [x]) := by
  unfold splice
  have h1 : (W.take o).length = o := by rw [List.length_take]; omega
  rw [List.set_append_right _ _ (by omega), h1, List.set_append_right _ _ (by omega), show o + L.length - o - L.length = 0 by omega,
    show W.drop (o + L.length) = W[o + L.length] :: W.drop (o + L.length + 1) from (List.getElem_cons_drop (h := h)).symm, List.set_cons_zero]
  simp [Nat.add_assoc]
end Go.Proofs.YtagkkihnfipfeaaDoor
