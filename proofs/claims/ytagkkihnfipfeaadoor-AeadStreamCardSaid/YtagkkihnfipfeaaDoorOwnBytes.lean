/-
  A slice of bytes of the call's own: its block; a byte written. Blocks of bytes, many at once.
-/
import Derived.Test.YtagkkihnfipfeaaDoorBytes
import Derived.Test.YtagkkihnfipfeaaDoorWordsAt
namespace Go.Proofs.YtagkkihnfipfeaaDoor
open Go.RowKit Go.Proofs.ShaWords
theorem Own.form8 {B : Nat} {w : World} {l : List (BitVec 8)} {v : Value} (h : Own B w l v) (hne : 0 < l.length) : ∃ g cap, v = .slice (some ⟨g, 0, none⟩) l.length cap ∧ B ≤ g ∧ g < w.heap.size ∧ l.length ≤ cap ∧ cap ≤ maxLen ∧
    (∀ j, j < l.length → w.cell? ⟨g, j, none⟩ = some (.int .u8 (n8 (l.getD j 0#8)))) ∧ ∀ j, w.frozen? ⟨g, j, none⟩ = false := by
  rcases h.2 with ⟨rfl, h0⟩ | ⟨g, cap, cur, rfl, hg, hh, hc, hm, hs, ht⟩
  · omega
  · refine ⟨g, cap, rfl, hg, (Array.getElem?_eq_some_iff.1 hh).1, hc, hm, fun j hj => ?_, fun j => frozen_of_row _ _ _ _ _ hh⟩
    rw [cell_of_row w g j cur 5 (0, 0) hh]
    have hv : (bytesV l)[j]? = some (.int .u8 (n8 (l.getD j 0#8))) := by simp [bytesV, List.getD, hj]
    rw [← ht, Nat.mul_one, List.getElem?_take, if_pos hj] at hv
    simpa using hv
theorem Own.put {B g n cap : Nat} {w : World} {l : List (BitVec 8)} (h : Own B w l (.slice (some ⟨g, 0, none⟩) n cap)) (k : Nat) (x : BitVec 8) : Own B (w.setCell ⟨g, k, none⟩ (.int .u8 (n8 x))) (l.set k x) (.slice (some ⟨g, 0, none⟩) n cap) := by
  rcases h.2 with ⟨h0, _⟩ | ⟨g', cap', cur, he, hg, hh, hc, hm, hs, ht⟩
  · cases h0
  · cases he
    refine ⟨by rw [bytesV_length, Nat.mul_one], .inr ⟨g, cap, cur.setIfInBounds k (.int .u8 (n8 x)), by rw [List.length_set], hg, heap_setCell_same _ _ _ _ _ _ hh, by rw [List.length_set]; exact hc, hm, by rw [Array.size_setIfInBounds]; exact hs, ?_⟩⟩
    rw [Nat.mul_one] at ht
    rw [List.length_set, Array.toList_setIfInBounds, Nat.mul_one, List.take_set, ht]
    simp [bytesV, List.map_set]
/-- Blocks of bytes that the call has made. -/
structure Has (w0 : World) (L : List (Nat × TypeId × List (BitVec 8))) (w : World) : Prop where
  below : Below w0.heap.size w0 w
  all : ∀ (i g : Nat) (t : TypeId) (l : List (BitVec 8)), L[i]? = some (g, t, l) → BytesAt w g t l ∧ w0.heap.size ≤ g
theorem Has.on {w0 wr w' : World} {L : List (Nat × TypeId × List (BitVec 8))} (h : Has w0 L wr) (hb : Below wr.heap.size wr w') : Has w0 L w' :=
  ⟨h.below.trans (hb.mono h.below.size), fun i g t l e => ⟨(h.all i g t l e).1.keep hb, (h.all i g t l e).2⟩⟩
theorem Has.add {w0 wr : World} {L : List (Nat × TypeId × List (BitVec 8))} (h : Has w0 L wr) {g : Nat} {t : TypeId} {l : List (BitVec 8)} (hb : BytesAt wr g t l) (hg : w0.heap.size ≤ g) : Has w0 ((g, t, l) :: L) wr :=
  ⟨h.below, fun i g' t' l' e => by
    cases i with
    | zero => simp only [List.getElem?_cons_zero, Option.some.injEq, Prod.mk.injEq] at e; obtain ⟨rfl, rfl, rfl⟩ := e; exact ⟨hb, hg⟩
    | succ i => rw [List.getElem?_cons_succ] at e; exact h.all i g' t' l' e⟩
end Go.Proofs.YtagkkihnfipfeaaDoor
