/-
  The document's table of places, in new memory.
-/
import Derived.Test.YtgfmjfpafpmghaaDoorCcMix
import Derived.Test.YtgfmjfpafpmghaaDoorRefWords
namespace Go.Proofs.YtgfmjfpafpmghaaDoor
open Go.RowKit Go.Proofs.ShaWords

/-- One row of the table. -/
def placeV (k : Nat) : Array Value := #[.int .i64 (qi k 0 : Nat), .int .i64 (qi k 1 : Nat), .int .i64 (qi k 2 : Nat), .int .i64 (qi k 3 : Nat)]
/-- The table, laid in nine blocks from H on. -/
structure PlacesAt (H : Nat) (w : World) : Prop where
  top : w.heap[H + 8]? = some (.cells #[.slice (some ⟨H, 0, none⟩) 4 4, .slice (some ⟨H + 1, 0, none⟩) 4 4, .slice (some ⟨H + 2, 0, none⟩) 4 4, .slice (some ⟨H + 3, 0, none⟩) 4 4, .slice (some ⟨H + 4, 0, none⟩) 4 4, .slice (some ⟨H + 5, 0, none⟩) 4 4, .slice (some ⟨H + 6, 0, none⟩) 4 4, .slice (some ⟨H + 7, 0, none⟩) 4 4] 86 (0, 0))
  rows : ∀ k, k < 8 → w.heap[H + k]? = some (.cells (placeV k) 3 (0, 0))
theorem PlacesAt.size {H : Nat} {w : World} (h : PlacesAt H w) : H + 8 < w.heap.size := (Array.getElem?_eq_some_iff.1 h.top).1
theorem PlacesAt.cell {H : Nat} {w : World} (h : PlacesAt H w) (k : Nat) (hk : k < 8) : w.cell? ⟨H + 8, k, none⟩ = some (.slice (some ⟨H + k, 0, none⟩) 4 4) := by
  rw [cell_of_row w (H + 8) k _ _ _ h.top]
  rcases k with _ | _ | _ | _ | _ | _ | _ | _ | k
  iterate 8 rfl
  omega
theorem PlacesAt.row {H : Nat} {w : World} (h : PlacesAt H w) (k : Nat) (hk : k < 8) : w.cell? ⟨H + k, 0, none⟩ = some (.int .i64 (qi k 0 : Nat)) ∧ w.cell? ⟨H + k, 1, none⟩ = some (.int .i64 (qi k 1 : Nat)) ∧ w.cell? ⟨H + k, 2, none⟩ = some (.int .i64 (qi k 2 : Nat)) ∧ w.cell? ⟨H + k, 3, none⟩ = some (.int .i64 (qi k 3 : Nat)) := by
  have hr := h.rows k hk
  exact ⟨by rw [cell_of_row w _ 0 _ _ _ hr]; rfl, by rw [cell_of_row w _ 1 _ _ _ hr]; rfl, by rw [cell_of_row w _ 2 _ _ _ hr]; rfl, by rw [cell_of_row w _ 3 _ _ _ hr]; rfl⟩
theorem PlacesAt.grown {H g : Nat} {w w' : World} (h : PlacesAt H w) (hg : w.grownBy w' (some g)) (hne : g < H) : PlacesAt H w' :=
  ⟨(hg.block _ h.size (fun e => by have := Option.some.inj e; omega)).trans h.top, fun k hk => (hg.block _ (by have := h.size; omega) (fun e => by have := Option.some.inj e; omega)).trans (h.rows k hk)⟩
theorem PlacesAt.on {H : Nat} {w w' : World} (h : PlacesAt H w) (hb : Below w.heap.size w w') : PlacesAt H w' :=
  ⟨(hb.block _ h.size).trans h.top, fun k hk => (hb.block _ (by have := h.size; omega)).trans (h.rows k hk)⟩
theorem qi_apart (k : Nat) (hk : k < 8) : qi k 0 ≠ qi k 1 ∧ qi k 0 ≠ qi k 2 ∧ qi k 0 ≠ qi k 3 ∧ qi k 1 ≠ qi k 2 ∧ qi k 1 ≠ qi k 3 ∧ qi k 2 ≠ qi k 3 := by
  have h : ∀ k : Fin 8, qi k.val 0 ≠ qi k.val 1 ∧ qi k.val 0 ≠ qi k.val 2 ∧ qi k.val 0 ≠ qi k.val 3 ∧ qi k.val 1 ≠ qi k.val 2 ∧ qi k.val 1 ≠ qi k.val 3 ∧ qi k.val 2 ≠ qi k.val 3 := by decide
  exact h ⟨k, hk⟩
theorem heap_alloc_get (w : World) (cs : Array Value) (t : TypeId) (i : Nat) : (w.alloc (.cells cs t (0, 0))).heap[i]? = if i = w.heap.size then some (.cells cs t (0, 0)) else w.heap[i]? := by
  split
  · rename_i h; exact heap_new_at h.symm
  · rename_i h
    simp only [World.alloc, Array.getElem?_push]
    rw [if_neg h]
set_option maxRecDepth 100000 in
set_option maxHeartbeats 1000000 in
theorem places3_any (w : World) :
    Calls Tryd.prog 53 #[] w fun e w' => e = .returned (.slice (some ⟨w.heap.size + 8, 0, none⟩) 8 8) ∧ PlacesAt w.heap.size w' ∧ Below w.heap.size w w' := by
  go_enter Tryd.func53, Tryd.ntmps53
  go_wp2_with fail
  go_ret
  refine ⟨rfl, ⟨?_, ?_⟩, ?_⟩
  · simp only [heap_alloc_get, size_alloc]
    simp
  · intro k hk
    rcases k with _ | _ | _ | _ | _ | _ | _ | _ | k
    all_goals first | omega | skip
    all_goals simp only [heap_alloc_get, size_alloc, Nat.zero_add, Nat.add_zero]
    all_goals first | (simp [placeV, qi, quartersL]; done) | (repeat rw [if_neg (by omega)]
                                                              rw [if_pos (by first | rfl | trivial)]; rfl)
  · repeat first | exact (Below.refl _ _).alloc (Nat.le_refl _) _ | (refine Below.alloc ?_ (by simp only [size_alloc]; omega) _)
end Go.Proofs.YtgfmjfpafpmghaaDoor
