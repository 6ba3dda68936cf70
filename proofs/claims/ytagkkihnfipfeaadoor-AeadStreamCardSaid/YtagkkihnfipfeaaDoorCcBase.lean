/-
  What the rows of layer 3 share: the table out of the row's condition; a key and a nonce that came in.
-/
import Derived.Test.YtagkkihnfipfeaaDoorBaseG
import Derived.Test.YtagkkihnfipfeaaDoorCcMix
namespace Go.Proofs.YtagkkihnfipfeaaDoor
open Go.ChangeShapes Go.WideShapes Go.ChangeAt Go.RowKit Go.Proofs.ShaWords Go.Deep

abbrev laid3 : List (String × DataW Unit) := Rows.aeadKnownRow.laid
def quadZ (i : Nat) : List Int := [(qi i 0 : Nat), (qi i 1 : Nat), (qi i 2 : Nat), (qi i 3 : Nat)]
theorem quarters_data {H : Type} : (Rows.laid_sealery_chacha_quarters : DataW H) = .agg ((List.range 8).map fun i => Lib.tabData .i64 (quadZ i)) := by kernel_rfl
/-- The door's own heap meets the condition: closed facts. -/
theorem door_met3 (os : Os) (args : Array Value) : laidMetH Tryd.prog laid3 ((World.doorLaid Tryd.prog 400 os).forCall (fun _ _ => 0) ⟨#[], args, []⟩).memory :=
  laidMetH_of_parts3 (fuel := 8) (laidMet_of_run' 8 (by kernel_rfl) (by kernel_rfl)) (by kernel_rfl) (by kernel_rfl)
theorem quads_list : (List.range 8).flatMap (fun i => (quadZ i).map fun z => Value.int .i64 z) = intsV quartersL := by kernel_rfl
theorem flat4 {α : Type} (f : Nat → List α) (cs : List α) (hl : cs.length = 32) (h : ∀ i, i < 8 → (cs.drop (i * 4)).take 4 = f i) : cs = (List.range 8).flatMap f := by
  have e : ∀ n, n ≤ 8 → cs.take (n * 4) = (List.range n).flatMap f := by
    intro n
    induction n with
    | zero => intro _; simp
    | succ n ih =>
      intro hn
      rw [List.range_succ, List.flatMap_append, ← ih (by omega), List.flatMap_singleton, ← h n (by omega), Nat.add_mul, Nat.one_mul, List.take_add]
  have := e 8 (by omega)
  rwa [List.take_of_length_le (by omega)] at this
set_option maxRecDepth 100000 in
theorem of_laid3 {W : World} (h : laidMetH Tryd.prog laid3 W) : Quads W := by
  rw [MakeChecks.laidMetH_plain _ _ _ (by kernel_rfl)] at h
  obtain ⟨ps, ⟨g0, t0, cs0, f0, p0, q0, hg0, ht0, hv0, hd0, _⟩, _, _⟩ := h
  obtain rfl := Option.some.inj (hg0.symm.trans (show _ = some 0 by kernel_rfl))
  obtain rfl := Option.some.inj (ht0.symm.trans (show _ = some 98 by kernel_rfl))
  rw [quarters_data] at hd0
  obtain ⟨xs, m, rfl, hx, hl, hxl, hf⟩ := DataW.trod_array Tryd.underlying98 hd0
  have hc4 : Tryd.prog.cellsOf 97 = 4 := by kernel_rfl
  have hc32 : Tryd.prog.cellsOf 98 = 32 := by kernel_rfl
  rw [hc32] at hl
  have hmap : xs.map (·.1) = (List.range 8).map fun i => Lib.tabData .i64 (quadZ i) := by
    have := congrArg Prod.fst hx
    injection this with this
    exact this.symm
  have each : ∀ i, i < 8 → (cs0.toList.drop (i * 4)).take 4 = (quadZ i).map fun z => Value.int .i64 z := fun i hi => by
    have h1 := hf i hi
    rw [hc4] at h1
    obtain ⟨x, hxe⟩ : ∃ x, xs[i]? = some x := ⟨xs[i]'(by omega), List.getElem?_eq_getElem (by omega)⟩
    rw [hxe] at h1
    have hx1 : x.1 = Lib.tabData .i64 (quadZ i) := by
      have := congrArg (·[i]?) hmap
      simp only [List.getElem?_map, hxe, Option.map_some, List.getElem?_range hi] at this
      exact Option.some.inj this
    exact Lib.cells_of_tab (p := x.2) Tryd.underlying97 Tryd.underlying3 (by kernel_rfl) (by kernel_rfl) (by rw [h1, ← hx1])
  have hall : cs0.toList = intsV quartersL := (flat4 _ cs0.toList hl each).trans quads_list
  intro j v hv
  have := World.var?_cell hg0 hv0 j
  rw [Nat.zero_add, this, ← Array.getElem?_toList, hall]; exact hv
/-- A key that came in. -/
theorem open_key {H : Type} {enc : TypeId × Value → H} {W : World} {fuel : Nat} {cs : List Value} {x : DataW H × List MemPlace}
    (h : DataW.trod enc Tryd.prog W 0 (fun _ => true) true fuel 23 cs = some x) : ∃ bs : List (BitVec 8), bs.length = 32 ∧ cs = bytesV bs := by
  obtain ⟨xs, m, rfl, rfl, hl, hxl, hf⟩ := DataW.trod_array Tryd.underlying23 h
  have hc5 : Tryd.prog.cellsOf 5 = 1 := by kernel_rfl
  have hcs : Tryd.prog.cellsOf 23 = 32 := by kernel_rfl
  rw [hcs] at hl
  have each : ∀ i, i < 32 → ∃ z : Int, cs[i]? = some (.int .u8 z) ∧ (Lit.int .u8 z).wf = true := fun i hi => by
    have h1 := hf i hi
    obtain ⟨b, hb⟩ : ∃ b, xs[i]? = some b := ⟨xs[i]'(by omega), List.getElem?_eq_getElem (by omega)⟩
    rw [hc5, Nat.mul_one, hb] at h1
    obtain ⟨z, hz, _, hw⟩ := DataW.trod_int Tryd.underlying5 h1
    refine ⟨z, ?_, hw⟩
    have := congrArg (·[0]?) hz
    simpa [List.getElem?_take, List.getElem?_drop] using this
  obtain ⟨Z, hZ⟩ := choose_lt (α := Int) each
  refine ⟨(List.range 32).map fun i => BitVec.ofInt 8 (Z i), by simp, ?_⟩
  apply List.ext_getElem?
  intro i
  by_cases hi : i < 32
  · rw [(hZ i hi).1]
    simp [bytesV, hi, n8_ofInt _ (hZ i hi).2]
  · rw [List.getElem?_eq_none (by omega), List.getElem?_eq_none (by simp [bytesV]; omega)]
theorem okWide_key {W : World} {base : Nat} {v : Value} (h : Value.okWide Tryd.prog W .any base 23 v) : ∃ cs : Array Value, v = .agg cs := by
  simp only [Value.okWide, Tryd.underlying23] at h
  obtain ⟨cs, h, _⟩ := h
  exact ⟨cs, h⟩
/-- A nonce that came in. -/
theorem open_nonce {H : Type} {enc : TypeId × Value → H} {W : World} {fuel : Nat} {cs : List Value} {x : DataW H × List MemPlace}
    (h : DataW.trod enc Tryd.prog W 0 (fun _ => true) true fuel 25 cs = some x) : ∃ bs : List (BitVec 8), bs.length = 12 ∧ cs = bytesV bs := by
  obtain ⟨xs, m, rfl, rfl, hl, hxl, hf⟩ := DataW.trod_array Tryd.underlying25 h
  have hc5 : Tryd.prog.cellsOf 5 = 1 := by kernel_rfl
  have hcs : Tryd.prog.cellsOf 25 = 12 := by kernel_rfl
  rw [hcs] at hl
  have each : ∀ i, i < 12 → ∃ z : Int, cs[i]? = some (.int .u8 z) ∧ (Lit.int .u8 z).wf = true := fun i hi => by
    have h1 := hf i hi
    obtain ⟨b, hb⟩ : ∃ b, xs[i]? = some b := ⟨xs[i]'(by omega), List.getElem?_eq_getElem (by omega)⟩
    rw [hc5, Nat.mul_one, hb] at h1
    obtain ⟨z, hz, _, hw⟩ := DataW.trod_int Tryd.underlying5 h1
    refine ⟨z, ?_, hw⟩
    have := congrArg (·[0]?) hz
    simpa [List.getElem?_take, List.getElem?_drop] using this
  obtain ⟨Z, hZ⟩ := choose_lt (α := Int) each
  refine ⟨(List.range 12).map fun i => BitVec.ofInt 8 (Z i), by simp, ?_⟩
  apply List.ext_getElem?
  intro i
  by_cases hi : i < 12
  · rw [(hZ i hi).1]
    simp [bytesV, hi, n8_ofInt _ (hZ i hi).2]
  · rw [List.getElem?_eq_none (by omega), List.getElem?_eq_none (by simp [bytesV]; omega)]
theorem okWide_nonce {W : World} {base : Nat} {v : Value} (h : Value.okWide Tryd.prog W .any base 25 v) : ∃ cs : Array Value, v = .agg cs := by
  simp only [Value.okWide, Tryd.underlying25] at h
  obtain ⟨cs, h, _⟩ := h
  exact ⟨cs, h⟩
end Go.Proofs.YtagkkihnfipfeaaDoor
