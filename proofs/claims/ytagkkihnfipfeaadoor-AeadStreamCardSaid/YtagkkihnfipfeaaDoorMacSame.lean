/-
  The contract of mac.Same: for any two codes it tells whether they are equal; nothing that was there changes.
-/
import Derived.Test.YtagkkihnfipfeaaDoorBytes
import Derived.Test.YtagkkihnfipfeaaDoorByteOps
namespace Go.Proofs.YtagkkihnfipfeaaDoor
open Go.RowKit Go.Proofs.ShaWords

theorem or8 (x y : BitVec 8) : bits .or .u8 (n8 x) (n8 y) = n8 (x ||| y) := by
  unfold n8; rw [u8_or_nat _ _ (by have := x.isLt; omega) (by have := y.isLt; omega), BitVec.toNat_or]
/-- The bits in which the first k bytes differ. -/
def dif (a b : List (BitVec 8)) (k : Nat) : BitVec 8 := (List.range k).foldl (fun x i => x ||| (a.getD i 0#8 ^^^ b.getD i 0#8)) 0#8
theorem dif_succ (a b : List (BitVec 8)) (k : Nat) : dif a b (k + 1) = dif a b k ||| (a.getD k 0#8 ^^^ b.getD k 0#8) := by simp [dif, List.range_succ]
theorem or_zero8 (x y : BitVec 8) : x ||| y = 0#8 ↔ x = 0#8 ∧ y = 0#8 := by
  constructor
  · intro h
    have h1 : ∀ i, (x.getLsbD i || y.getLsbD i) = false := fun i => by rw [← BitVec.getLsbD_or, h]; simp
    refine ⟨?_, ?_⟩ <;> (apply BitVec.eq_of_getLsbD_eq; intro i hi; have := h1 i; simp at this ⊢; first | exact this.1 | exact this.2)
  · rintro ⟨rfl, rfl⟩; rfl
theorem xor_zero8 (x y : BitVec 8) : x ^^^ y = 0#8 ↔ x = y := by
  constructor
  · intro h
    have := congrArg (· ^^^ y) h
    simpa [BitVec.xor_assoc] using this
  · rintro rfl; simp
theorem dif_zero (a b : List (BitVec 8)) : ∀ k, dif a b k = 0#8 ↔ ∀ i, i < k → a.getD i 0#8 = b.getD i 0#8
  | 0 => by simp [dif]
  | k + 1 => by
    rw [dif_succ, or_zero8, dif_zero a b k, xor_zero8]
    constructor
    · rintro ⟨h1, h2⟩ i hi
      by_cases e : i = k
      · rw [e]; exact h2
      · exact h1 i (by omega)
    · intro h; exact ⟨fun i hi => h i (by omega), h k (by omega)⟩
/-- Are they the same? -/
def sameB (a b : List (BitVec 8)) : Bool := decide (a = b)
theorem sameB_self (a : List (BitVec 8)) : sameB a a = true := by simp [sameB]
theorem dif_same (a b : List (BitVec 8)) (n : Nat) (ha : a.length = n) (hb : b.length = n) : (n8 (dif a b n) == 0) = sameB a b := by
  have e : (n8 (dif a b n) == 0) = decide (dif a b n = 0#8) := by
    rw [Bool.eq_iff_iff, beq_iff_eq, decide_eq_true_eq]
    constructor
    · intro h; exact n8_inj (h.trans rfl)
    · intro h; rw [h]; rfl
  rw [e, sameB, Bool.eq_iff_iff, decide_eq_true_eq, decide_eq_true_eq, dif_zero]
  constructor
  · intro h
    apply List.ext_getElem (by omega)
    intro i h1 h2
    have := h i (by omega)
    simpa [List.getD, h1, h2] using this
  · rintro rfl i _; rfl

attribute [local irreducible] dif
end Go.Proofs.YtagkkihnfipfeaaDoor
