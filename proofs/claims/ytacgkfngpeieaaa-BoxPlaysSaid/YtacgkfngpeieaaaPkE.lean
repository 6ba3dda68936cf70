/-
  What other texts lean on: AePad.
-/
import Derived.Test.YtacgkfngpeieaaaPkA
/-
  Bytes that are padded, and a length of eight bytes: the contracts of aead's own padded and withLength.
-/
namespace Go.Proofs.Ytacgkfngpeieaaa
open Go.RowKit Go.Proofs.ShaWords

/-- How many noughts make a number of bytes a multiple of sixteen. -/
def padN (n : Nat) : Nat := (16 - n % 16) % 16
/-- Bytes, padded. -/
def fill16 (l : List (BitVec 8)) : List (BitVec 8) := l ++ noughts (padN l.length)
/-- The lowest bytes of a length, the lowest first. -/
def lenTo (n k : Nat) : List (BitVec 8) := (List.range k).map fun i => BitVec.ofNat 8 (n / 256 ^ i)
theorem padN_lt (n : Nat) : padN n < 16 := by unfold padN; omega
theorem fill16_length (l : List (BitVec 8)) : (fill16 l).length = l.length + padN l.length := by simp [fill16, noughts]
theorem lenTo_zero (n : Nat) : lenTo n 0 = [] := rfl
theorem lenTo_succ (n k : Nat) : lenTo n (k + 1) = lenTo n k ++ [BitVec.ofNat 8 (n / 256 ^ k)] := by simp [lenTo, List.range_succ]
theorem lenTo_length (n k : Nat) : (lenTo n k).length = k := by simp [lenTo]
theorem aeLenByte (n k : Nat) : (n : Int) / 2 ^ (8 * k) % 256 = n8 (BitVec.ofNat 8 (n / 256 ^ k)) := by
  unfold n8
  have e : (2 : Nat) ^ (8 * k) = 256 ^ k := by rw [Nat.pow_mul]
  rw [BitVec.toNat_ofNat, show (2 : Int) = ((2 : Nat) : Int) from rfl, ← Int.natCast_pow, e]
  omega
attribute [local irreducible] padN fill16 lenTo

end Go.Proofs.Ytacgkfngpeieaaa
