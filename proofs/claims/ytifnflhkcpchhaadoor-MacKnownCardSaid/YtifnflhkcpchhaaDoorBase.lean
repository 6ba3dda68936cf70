/-
  What the rows of this seat share: the two tables out of the row's condition, bytes out of a slice that came in.
-/
import Derived.Test.YtifnflhkcpchhaaDoorRows
import Derived.Test.YtifnflhkcpchhaaDoorWorks
import Derived.WalkKit
import Derived.ProofKit
import Derived.OpenShut
import Derived.ShutString
import Derived.ChangeOld
import Derived.Below
import Derived.LaidMore
import Derived.Lib.LaidTab
import Derived.Stop.Joined
namespace Go.Proofs.YtifnflhkcpchhaaDoor
open Go.ChangeShapes Go.WideShapes Go.ChangeAt Go.RowKit Go.Proofs.ShaWords

theorem own : ownKnob Tryd.prog.godebug = none := by kernel_rfl
theorem laidOut : laidOutB Tryd.prog = true := by kernel_rfl
abbrev laid2 : List (String × DataW Unit) := Rows.shaPiecesRow.laid
theorem starts_data {H : Type} : (Rows.laid_sealery_sha_starts : DataW H) = Lib.tabData .u32 (iv.list.map n32) := by kernel_rfl
theorem constants_data {H : Type} : (Rows.laid_sealery_sha_constants : DataW H) = Lib.tabData .u32 (kTable.map n32) := by kernel_rfl
/-- The door's own heap meets the condition: closed facts. -/
theorem door_met (os : Os) (args : Array Value) : laidMetH Tryd.prog laid2 ((World.doorLaid Tryd.prog 400 os).forCall (fun _ _ => 0) ⟨#[], args, []⟩).memory :=
  laidMetH_of_parts3 (fuel := 8) (laidMet_of_run' 8 (by kernel_rfl) (by kernel_rfl)) (by kernel_rfl) (by kernel_rfl)
theorem of_laid {W : World} (h : laidMetH Tryd.prog laid2 W) : Starts W ∧ Consts W := by
  rw [MakeChecks.laidMetH_plain _ _ _ (by kernel_rfl)] at h
  obtain ⟨ps, ⟨g0, t0, cs0, f0, p0, q0, hg0, ht0, hv0, hd0, ⟨g1, t1, cs1, f1, p1, q1, hg1, ht1, hv1, hd1, _, _⟩, _⟩, _, _⟩ := h
  obtain rfl := Option.some.inj (hg0.symm.trans (show _ = some 0 by kernel_rfl))
  obtain rfl := Option.some.inj (hg1.symm.trans (show _ = some 1 by kernel_rfl))
  obtain rfl := Option.some.inj (ht0.symm.trans (show _ = some 43 by kernel_rfl))
  obtain rfl := Option.some.inj (ht1.symm.trans (show _ = some 67 by kernel_rfl))
  rw [starts_data] at hd0
  rw [constants_data] at hd1
  have e0 := Lib.cells_of_tab Tryd.underlying43 Tryd.underlying38 (by kernel_rfl) (by kernel_rfl) hd0
  have e1 := Lib.cells_of_tab Tryd.underlying67 Tryd.underlying38 (by kernel_rfl) (by kernel_rfl) hd1
  refine ⟨fun j v hv => ?_, fun i hi => ?_⟩
  · have := World.var?_cell hg0 hv0 j
    rw [Nat.zero_add, this, ← Array.getElem?_toList, e0, ← hv]
    simp [wordsV]
    rfl
  · have := World.var?_cell hg1 hv1 i
    have hl : kTable.length = 64 := by decide
    rw [this, ← Array.getElem?_toList, e1]
    simp [List.getD, hl, hi]

theorem n8_ofInt (z : Int) (h : (Lit.int .u8 z).wf = true) : n8 (BitVec.ofInt 8 z) = z := by
  have hb := bounds_u8 h
  unfold n8
  obtain ⟨k, rfl⟩ := Int.eq_ofNat_of_zero_le hb.1
  rw [ofInt_u8 k (by omega)]
/-- Bytes out of a slice that came in. -/
theorem open_bytes {H : Type} {enc : TypeId × Value → H} {W : World} {fuel : Nat} {a : Option Addr} {len cap : Nat} {x : DataW H × List MemPlace}
    (h : DataW.trod enc Tryd.prog W 0 (fun _ => true) true fuel 26 (Value.cells (.slice a len cap)).toList = some x) :
    ∃ bs : List (BitVec 8), bs.length = len ∧ len ≤ cap ∧ Lies W a bs ∧ ((x.1 = .nil ∧ cap = 0) ∨ ∃ e sp, x.1 = .slice e sp ∧ e.length + sp.length = cap) := by
  rcases open_ints Tryd.underlying26 Tryd.underlying5 (by kernel_rfl) h with ⟨hcs, hx⟩ | ⟨y, l, c, zs, hcs, _, hl, hm, hz, hx, hcell, hwz⟩
  · simp [Value.cells] at hcs
    obtain ⟨rfl, rfl, rfl⟩ := hcs
    exact ⟨[], rfl, Nat.le_refl _, .inl rfl, .inl ⟨by rw [hx], rfl⟩⟩
  · simp [Value.cells] at hcs
    obtain ⟨rfl, rfl, rfl⟩ := hcs
    have hz' : zs.length = cap := by simpa using hz
    refine ⟨(zs.take len).map (BitVec.ofInt 8), by simp; omega, hl, ?_, .inr ⟨_, _, by rw [hx], by simp [lits]; omega⟩⟩
    by_cases h0 : len = 0
    · left; subst h0; simp
    · right
      obtain ⟨b, off, rfl, hc⟩ := ints_at hcell (by omega)
      refine ⟨b, off, rfl, fun j v hv => ?_⟩
      simp only [bytesV, List.map_map, List.getElem?_map, Option.map_eq_some_iff] at hv
      obtain ⟨z, hz1, rfl⟩ := hv
      have hj : j < len := by have := (List.getElem?_eq_some_iff.1 hz1).1; simp at this; omega
      have hz2 : zs[j]? = some z := by rw [List.getElem?_take] at hz1; simpa [hj] using hz1
      have hw : (Lit.int .u8 z).wf = true := hwz z (List.mem_of_getElem? hz2)
      rw [hc j (by omega)]
      simp only [Function.comp, n8_ofInt z hw, List.getD, hz2, Option.getD_some]
end Go.Proofs.YtifnflhkcpchhaaDoor
