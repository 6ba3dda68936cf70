/- The document's answer: its two tables (functions 18 and 20). -/
import Derived.Test.YtifnflhkcpchhaaDoorRefSpread
import Derived.Test.YtifnflhkcpchhaaDoorSum
namespace Go.Proofs.YtifnflhkcpchhaaDoor
open Go.RowKit Go.Proofs.ShaWords
theorem OwnW.lit (w : World) (l : List (BitVec 32)) (n : Nat) (hn : l.length = n) (hm : n ≤ maxLen) : OwnW w.heap.size (w.alloc (.cells (wordsV l).toArray 38)) l (.slice (some ⟨w.heap.size, 0, none⟩) n n) := by
  subst hn
  have h := World.ownsRow_lit (base := w.heap.size) (e := 38) (size := 1) w (wordsV l).toArray l.length (Nat.le_refl _) hm (by simp [wordsV])
  exact h
set_option maxRecDepth 100000 in
set_option maxHeartbeats 1000000 in
theorem constants_any (w : World) :
    Calls Tryd.prog 17 #[] w fun e w' => ∃ v, e = .returned v ∧ OwnW w.heap.size w' kTable v ∧ Below w.heap.size w w' := by
  go_enter Tryd.func17, Tryd.ntmps17
  go_wp2_with fail
  go_ret
  exact ⟨_, rfl, OwnW.lit w kTable 64 rfl (by decide), (Below.refl _ _).alloc (Nat.le_refl _) _⟩
theorem starts_any (w : World) :
    Calls Tryd.prog 19 #[] w fun e w' => ∃ v, e = .returned v ∧ OwnW w.heap.size w' iv.list v ∧ Below w.heap.size w w' := by
  go_enter Tryd.func19, Tryd.ntmps19
  go_wp2_with fail
  go_ret
  exact ⟨_, rfl, OwnW.lit w iv.list 8 rfl (by decide), (Below.refl _ _).alloc (Nat.le_refl _) _⟩
end Go.Proofs.YtifnflhkcpchhaaDoor
