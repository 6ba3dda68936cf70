/- The document's answer: its two tables (functions 18 and 20). -/
import Derived.Test.YtgfmjfpafpmghaaDoorRefSpread
import Derived.Test.YtgfmjfpafpmghaaDoorSum
namespace Go.Proofs.YtgfmjfpafpmghaaDoor
open Go.RowKit Go.Proofs.ShaWords
theorem OwnW.lit (w : World) (l : List (BitVec 32)) (n : Nat) (hn : l.length = n) (hm : n ≤ maxLen) : OwnW w.heap.size (w.alloc (.cells (wordsV l).toArray 25)) l (.slice (some ⟨w.heap.size, 0, none⟩) n n) := by
  subst hn
  have h := World.ownsRow_lit (base := w.heap.size) (e := 25) (size := 1) w (wordsV l).toArray l.length (Nat.le_refl _) hm (by simp [wordsV])
  exact h
set_option maxRecDepth 100000 in
set_option maxHeartbeats 1000000 in
theorem constants_any (w : World) :
    Calls Tryd.prog 5 #[] w fun e w' => ∃ v, e = .returned v ∧ OwnW w.heap.size w' kTable v ∧ Below w.heap.size w w' := by
  go_enter Tryd.func5, Tryd.ntmps5
  go_wp2_with fail
  go_ret
  exact ⟨_, rfl, OwnW.lit w kTable 64 rfl (by decide), (Below.refl _ _).alloc (Nat.le_refl _) _⟩
theorem starts_any (w : World) :
    Calls Tryd.prog 7 #[] w fun e w' => ∃ v, e = .returned v ∧ OwnW w.heap.size w' iv.list v ∧ Below w.heap.size w w' := by
  go_enter Tryd.func7, Tryd.ntmps7
  go_wp2_with fail
  go_ret
  exact ⟨_, rfl, OwnW.lit w iv.list 8 rfl (by decide), (Below.refl _ _).alloc (Nat.le_refl _) _⟩
end Go.Proofs.YtgfmjfpafpmghaaDoor
