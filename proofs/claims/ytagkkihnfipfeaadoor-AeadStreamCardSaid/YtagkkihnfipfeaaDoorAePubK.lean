/-
  The published row, and back.
-/
import Derived.Test.YtagkkihnfipfeaaDoorAePub
namespace Go.Proofs.YtagkkihnfipfeaaDoor
open Go.RowKit Go.Proofs.ShaWords

/-- What was sealed opens, to what it was made of. -/
theorem openC_seal (key nonce head plain : List (BitVec 8)) : openC (sealOf key nonce head plain) = xorKs key 1#32 nonce plain := by
  unfold openC
  rw [sealOf_length, sealOf, Nat.add_sub_cancel, List.take_append_of_le_length (by rw [xorKs_length]; exact Nat.le_refl _), List.take_of_length_le (by rw [xorKs_length]; exact Nat.le_refl _)]
theorem tag_seal (key nonce head plain : List (BitVec 8)) : (sealOf key nonce head plain).drop plain.length = aeadTag key nonce head (xorKs key 1#32 nonce plain) := by
  unfold sealOf
  rw [List.drop_append, List.drop_of_length_le (by rw [xorKs_length]; exact Nat.le_refl _), xorKs_length, Nat.sub_self]; simp
theorem openIs_seal (key nonce head plain : List (BitVec 8)) : openIs key nonce head (sealOf key nonce head plain) = true := by
  unfold openIs
  rw [openC_seal, sealOf_length, Nat.add_sub_cancel, tag_seal]
  simp
theorem openOf_seal (key nonce head plain : List (BitVec 8)) : openOf key nonce head (sealOf key nonce head plain) = plain := by
  unfold openOf
  rw [if_pos (openIs_seal _ _ _ _), openC_seal, xorKs_twice]
def pubFirst : List (BitVec 8) := [0xD3#8, 0x1A#8, 0x8D#8, 0x34#8, 0x64#8, 0x8E#8, 0x60#8, 0xDB#8, 0x7B#8, 0x86#8, 0xAF#8, 0xBC#8, 0x53#8, 0xEF#8, 0x7E#8, 0xC2#8]
def pubLast : List (BitVec 8) := [0x1A#8, 0xE1#8, 0x0B#8, 0x59#8, 0x4F#8, 0x09#8, 0xE2#8, 0x6A#8, 0x7E#8, 0x90#8, 0x2E#8, 0xCB#8, 0xD0#8, 0x60#8, 0x06#8, 0x91#8]
theorem pub_first : (sealOf pubKey pubNonce pubHead pubText).take 16 = pubFirst := by decide +kernel
theorem pub_last : (sealOf pubKey pubNonce pubHead pubText).drop 114 = pubLast := by decide +kernel
end Go.Proofs.YtagkkihnfipfeaaDoor
