/-
  What the rows share: the program's own knobs; bytes out of a slice that came in; arrays of bytes and numbers that came in.
-/
import Derived.Test.YtagkkihnfipfeaaDoorRows
import Derived.Test.YtagkkihnfipfeaaDoorGen
import Derived.WalkKit
import Derived.ProofKit
import Derived.OpenShut
import Derived.ShutString
import Derived.ChangeOld
import Derived.Below
import Derived.LaidMore
import Derived.Lib.LaidTab
import Derived.Stop.Joined
import Derived.Deep.Matrix
import Derived.SizedLaws
namespace Go.Proofs.YtagkkihnfipfeaaDoor
open Go.ChangeShapes Go.WideShapes Go.ChangeAt Go.RowKit Go.Proofs.ShaWords Go.Deep

theorem own : ownKnob Tryd.prog.godebug = none := by kernel_rfl
theorem laidOut : laidOutB Tryd.prog = true := by kernel_rfl
theorem n8_ofInt (z : Int) (h : (Lit.int .u8 z).wf = true) : n8 (BitVec.ofInt 8 z) = z := by
  have hb := bounds_u8 h
  unfold n8
  obtain ⟨k, rfl⟩ := Int.eq_ofNat_of_zero_le hb.1
  rw [ofInt_u8 k (by omega)]
/-- Bytes out of a slice that came in. -/
theorem open_bytes {H : Type} {enc : TypeId × Value → H} {W : World} {fuel : Nat} {a : Option Addr} {len cap : Nat} {x : DataW H × List MemPlace}
    (h : DataW.trod enc Tryd.prog W 0 (fun _ => true) true fuel 26 (Value.cells (.slice a len cap)).toList = some x) :
    ∃ bs : List (BitVec 8), bs.length = len ∧ len ≤ cap ∧ Lies W a bs ∧ ((x.1 = .nil ∧ cap = 0) ∨ ∃ e sp, x.1 = .slice e sp ∧ e.length + sp.length = cap) := by
  rcases open_ints Tryd.underlying26 Tryd.underlying5 (by kernel_rfl) h with ⟨hcs, hx⟩ | ⟨y, l, c, zs, hcs, _, hl, hm, hz, hx, hcell, hwz⟩
  · simp [Value.cells] at hcs
    obtain ⟨rfl, rfl, rfl⟩ := hcs
    exact ⟨[], rfl, Nat.le_refl _, .inl rfl, .inl ⟨by rw [hx], rfl⟩⟩
  · simp [Value.cells] at hcs
    obtain ⟨rfl, rfl, rfl⟩ := hcs
    have hz' : zs.length = cap := by simpa using hz
    refine ⟨(zs.take len).map (BitVec.ofInt 8), by simp; omega, hl, ?_, .inr ⟨_, _, by rw [hx], by simp [lits]; omega⟩⟩
    by_cases h0 : len = 0
    · left; subst h0; simp
    · right
      obtain ⟨b, off, rfl, hc⟩ := ints_at hcell (by omega)
      refine ⟨b, off, rfl, fun j v hv => ?_⟩
      simp only [bytesV, List.map_map, List.getElem?_map, Option.map_eq_some_iff] at hv
      obtain ⟨z, hz1, rfl⟩ := hv
      have hj : j < len := by have := (List.getElem?_eq_some_iff.1 hz1).1; simp at this; omega
      have hz2 : zs[j]? = some z := by rw [List.getElem?_take] at hz1; simpa [hj] using hz1
      have hw : (Lit.int .u8 z).wf = true := hwz z (List.mem_of_getElem? hz2)
      rw [hc j (by omega)]
      simp only [Function.comp, n8_ofInt z hw, List.getD, hz2, Option.getD_some]
theorem n32_ofInt (z : Int) (h : (Lit.int .u32 z).wf = true) : n32 (BitVec.ofInt 32 z) = z := by
  have hb : 0 ≤ z ∧ z < 4294967296 := by
    simp [Lit.wf, IntKind.min, IntKind.max, IntKind.signed, IntKind.bits] at h
    omega
  unfold n32
  rw [BitVec.toNat_ofInt]; omega
end Go.Proofs.YtagkkihnfipfeaaDoor
