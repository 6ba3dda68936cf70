/-
  What other texts lean on: OpenKeys.
-/
import Derived.Test.YtgeacocdnenhdaaDoorPkA
/-
  A key and a nonce that came in.
-/
namespace Go.Proofs.YtgeacocdnenhdaaDoor
open Go.ChangeShapes Go.WideShapes Go.ChangeAt Go.RowKit Go.Proofs.ShaWords Go.Deep
/-- A key that came in. -/
theorem open_key {H : Type} {enc : TypeId × Value → H} {W : World} {fuel : Nat} {cs : List Value} {x : DataW H × List MemPlace}
    (h : DataW.trod enc Tryd.prog W 0 (fun _ => true) true fuel 23 cs = some x) : ∃ bs : List (BitVec 8), bs.length = 32 ∧ cs = bytesV bs := by
  obtain ⟨xs, m, rfl, rfl, hl, hxl, hf⟩ := DataW.trod_array Tryd.underlying23 h
  have hc5 : Tryd.prog.cellsOf 5 = 1 := by kernel_rfl
  have hcs : Tryd.prog.cellsOf 23 = 32 := by kernel_rfl
  rw [hcs] at hl
  have each : ∀ i, i < 32 → ∃ z : Int, cs[i]? = some (.int .u8 z) ∧ (Lit.int .u8 z).wf = true := fun i hi => by
    have h1 := hf i hi
    obtain ⟨b, hb⟩ : ∃ b, xs[i]? = some b := ⟨xs[i]'(by omega), List.getElem?_eq_getElem (by omega)⟩
    rw [hc5, Nat.mul_one, hb] at h1
    obtain ⟨z, hz, _, hw⟩ := DataW.trod_int Tryd.underlying5 h1
    refine ⟨z, ?_, hw⟩
    have := congrArg (·[0]?) hz
    simpa [List.getElem?_take, List.getElem?_drop] using this
  obtain ⟨Z, hZ⟩ := choose_lt (α := Int) each
  refine ⟨(List.range 32).map fun i => BitVec.ofInt 8 (Z i), by simp, ?_⟩
  apply List.ext_getElem?
  intro i
  by_cases hi : i < 32
  · rw [(hZ i hi).1]
    simp [bytesV, hi, n8_ofInt _ (hZ i hi).2]
  · rw [List.getElem?_eq_none (by omega), List.getElem?_eq_none (by simp [bytesV]; omega)]
set_option maxRecDepth 100000 in
theorem okWide_key {W : World} {base : Nat} {v : Value} (h : Value.okWide Tryd.prog W .any base 23 v) : ∃ cs : Array Value, v = .agg cs := by
  simp only [Value.okWide, Tryd.underlying23] at h
  obtain ⟨cs, h, _⟩ := h
  exact ⟨cs, h⟩
end Go.Proofs.YtgeacocdnenhdaaDoor
