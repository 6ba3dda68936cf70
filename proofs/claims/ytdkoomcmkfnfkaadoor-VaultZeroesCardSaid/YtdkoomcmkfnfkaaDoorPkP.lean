/-
  What other texts lean on: W64.
-/
import Derived.Test.YtdkoomcmkfnfkaaDoorPkA
/-
  Words of 64 bits as plain bit vectors: what the model's integer operations at uint64 come to on them. Without any condition.
-/
namespace Go.Proofs.ShaWords
open Go

/-- A word of 64 bits as the number that the model holds. -/
def n64 (x : BitVec 64) : Int := (x.toNat : Int)
theorem n64_nonneg (x : BitVec 64) : 0 ≤ n64 x := by unfold n64; omega
theorem n64_lt (x : BitVec 64) : n64 x < 18446744073709551616 := by unfold n64; have := x.isLt; omega
theorem n64_inj {x y : BitVec 64} (h : n64 x = n64 y) : x = y := by
  unfold n64 at h; exact BitVec.eq_of_toNat_eq (by omega)
theorem and64 (x y : BitVec 64) : bits .and .u64 (n64 x) (n64 y) = n64 (x &&& y) := by
  unfold n64; rw [u64_and_nat _ _ (by have := x.isLt; omega) (by have := y.isLt; omega), BitVec.toNat_and]
theorem or64 (x y : BitVec 64) : bits .or .u64 (n64 x) (n64 y) = n64 (x ||| y) := by
  unfold n64; rw [u64_or_nat _ _ (by have := x.isLt; omega) (by have := y.isLt; omega), BitVec.toNat_or]
theorem add64 (x y : BitVec 64) : IntKind.u64.wrap (n64 x + n64 y) = n64 (x + y) := by
  unfold n64; rw [IntKind.wrap_u64, BitVec.toNat_add]; omega
theorem mul64 (x y : BitVec 64) : IntKind.u64.wrap (n64 x * n64 y) = n64 (x * y) := by
  unfold n64; rw [IntKind.wrap_u64, BitVec.toNat_mul, ← Int.natCast_mul]
  generalize x.toNat * y.toNat = m
  omega
theorem mul64_5 (y : BitVec 64) : IntKind.u64.wrap (5 * n64 y) = n64 (5#64 * y) := mul64 5#64 y
theorem and64_mask (x : BitVec 64) : bits .and .u64 (n64 x) 67108863 = n64 (x &&& 67108863#64) := and64 x 67108863#64
theorem shl64 (x : BitVec 64) (k : Nat) : IntKind.u64.wrap (n64 x * 2 ^ k) = n64 (x <<< k) := by
  unfold n64
  have e : (x.toNat : Int) * 2 ^ k = ((x.toNat * 2 ^ k : Nat) : Int) := by rw [Int.natCast_mul, Int.natCast_pow]; rfl
  rw [IntKind.wrap_u64, BitVec.toNat_shiftLeft, Nat.shiftLeft_eq, e]
  generalize x.toNat * 2 ^ k = m
  omega
theorem shr64 (x : BitVec 64) (k : Nat) : n64 x / 2 ^ k = n64 (x >>> k) := by
  unfold n64; rw [BitVec.toNat_ushiftRight, Nat.shiftRight_eq_div_pow, Int.natCast_ediv, Int.natCast_pow]; rfl
theorem shr64_26 (x : BitVec 64) : n64 x / (67108864 : Int) = n64 (x >>> 26) := shr64 x 26
theorem shr64_12 (x : BitVec 64) : n64 x / (4096 : Int) = n64 (x >>> 12) := shr64 x 12
theorem shl64_26 (x : BitVec 64) : IntKind.u64.wrap (n64 x * (67108864 : Int)) = n64 (x <<< 26) := shl64 x 26
theorem shl64_52 (x : BitVec 64) : IntKind.u64.wrap (n64 x * (4503599627370496 : Int)) = n64 (x <<< 52) := shl64 x 52
theorem shl64_14 (x : BitVec 64) : IntKind.u64.wrap (n64 x * (16384 : Int)) = n64 (x <<< 14) := shl64 x 14
theorem shl64_40 (x : BitVec 64) : IntKind.u64.wrap (n64 x * (1099511627776 : Int)) = n64 (x <<< 40) := shl64 x 40

/-- A byte as a word of 64 bits; such a word's last byte. -/
def ext64 (b : BitVec 8) : BitVec 64 := b.setWidth 64
def low8 (x : BitVec 64) : BitVec 8 := x.setWidth 8
theorem wrap64_n8 (b : BitVec 8) : IntKind.u64.wrap (n8 b) = n64 (ext64 b) := by
  unfold n8 n64 ext64; rw [IntKind.wrap_u64, BitVec.toNat_setWidth]; have := b.isLt; omega
theorem wrap8_n64 (x : BitVec 64) : IntKind.u8.wrap (n64 x) = n8 (low8 x) := by
  unfold n8 n64 low8; rw [IntKind.wrap_u8', BitVec.toNat_setWidth]; omega
end Go.Proofs.ShaWords
