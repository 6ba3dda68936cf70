/-
  What the rows of this seat share: the two tables out of the row's condition, bytes out of a slice that came in.
-/
import Derived.Test.YtgfmjfpafpmghaaDoorBaseG
import Derived.Test.YtgfmjfpafpmghaaDoorWorks
import Derived.WalkKit
import Derived.ProofKit
import Derived.OpenShut
import Derived.ShutString
import Derived.ChangeOld
import Derived.Below
import Derived.LaidMore
import Derived.Lib.LaidTab
import Derived.Stop.Joined
namespace Go.Proofs.YtgfmjfpafpmghaaDoor
open Go.ChangeShapes Go.WideShapes Go.ChangeAt Go.RowKit Go.Proofs.ShaWords

abbrev laid2 : List (String × DataW Unit) := Rows.shaKnownRow.laid
theorem starts_data {H : Type} : (Rows.laid_sealery_sha_starts : DataW H) = Lib.tabData .u32 (iv.list.map n32) := by kernel_rfl
theorem constants_data {H : Type} : (Rows.laid_sealery_sha_constants : DataW H) = Lib.tabData .u32 (kTable.map n32) := by kernel_rfl
/-- The door's own heap meets the condition: closed facts. -/
theorem door_met (os : Os) (args : Array Value) : laidMetH Tryd.prog laid2 ((World.doorLaid Tryd.prog 400 os).forCall (fun _ _ => 0) ⟨#[], args, []⟩).memory :=
  laidMetH_of_parts3 (fuel := 8) (laidMet_of_run' 8 (by kernel_rfl) (by kernel_rfl)) (by kernel_rfl) (by kernel_rfl)
theorem of_laid {W : World} (h : laidMetH Tryd.prog laid2 W) : Starts W ∧ Consts W := by
  rw [MakeChecks.laidMetH_plain _ _ _ (by kernel_rfl)] at h
  obtain ⟨ps, ⟨g0, t0, cs0, f0, p0, q0, hg0, ht0, hv0, hd0, ⟨g1, t1, cs1, f1, p1, q1, hg1, ht1, hv1, hd1, _, _⟩, _⟩, _, _⟩ := h
  obtain rfl := Option.some.inj (hg0.symm.trans (show _ = some 0 by kernel_rfl))
  obtain rfl := Option.some.inj (hg1.symm.trans (show _ = some 2 by kernel_rfl))
  obtain rfl := Option.some.inj (ht0.symm.trans (show _ = some 35 by kernel_rfl))
  obtain rfl := Option.some.inj (ht1.symm.trans (show _ = some 91 by kernel_rfl))
  rw [starts_data] at hd0
  rw [constants_data] at hd1
  have e0 := Lib.cells_of_tab Tryd.underlying35 Tryd.underlying25 (by kernel_rfl) (by kernel_rfl) hd0
  have e1 := Lib.cells_of_tab Tryd.underlying91 Tryd.underlying25 (by kernel_rfl) (by kernel_rfl) hd1
  refine ⟨fun j v hv => ?_, fun i hi => ?_⟩
  · have := World.var?_cell hg0 hv0 j
    rw [Nat.zero_add, this, ← Array.getElem?_toList, e0, ← hv]
    simp [wordsV]
    rfl
  · have := World.var?_cell hg1 hv1 i
    have hl : kTable.length = 64 := by decide
    rw [this, ← Array.getElem?_toList, e1]
    simp [List.getD, hl, hi]

end Go.Proofs.YtgfmjfpafpmghaaDoor
