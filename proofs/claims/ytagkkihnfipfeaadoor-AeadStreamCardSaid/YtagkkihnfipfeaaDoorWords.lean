/-
  Words of 32 bits and bytes as plain bit vectors: what the model's integer operations at uint32 and uint8 come to on them. Without any condition.
-/
import Derived.WalkKit
import Derived.WalkLawsBesides
import Derived.Laws.BitsAllLaws
namespace Go.Proofs.ShaWords
open Go

/-- A word as the number that the model holds. -/
def n32 (x : BitVec 32) : Int := (x.toNat : Int)
/-- A byte as the number that the model holds. -/
def n8 (x : BitVec 8) : Int := (x.toNat : Int)

theorem n32_nonneg (x : BitVec 32) : 0 ≤ n32 x := by unfold n32; omega
theorem n32_lt (x : BitVec 32) : n32 x < 4294967296 := by unfold n32; have := x.isLt; omega
theorem n8_nonneg (x : BitVec 8) : 0 ≤ n8 x := by unfold n8; omega
theorem n8_lt (x : BitVec 8) : n8 x < 256 := by unfold n8; have := x.isLt; omega
theorem n32_inj {x y : BitVec 32} (h : n32 x = n32 y) : x = y := by
  unfold n32 at h; exact BitVec.eq_of_toNat_eq (by omega)
theorem n8_inj {x y : BitVec 8} (h : n8 x = n8 y) : x = y := by
  unfold n8 at h; exact BitVec.eq_of_toNat_eq (by omega)

theorem and32 (x y : BitVec 32) : bits .and .u32 (n32 x) (n32 y) = n32 (x &&& y) := by
  unfold n32; rw [u32_and_nat _ _ (by have := x.isLt; omega) (by have := y.isLt; omega), BitVec.toNat_and]
theorem or32 (x y : BitVec 32) : bits .or .u32 (n32 x) (n32 y) = n32 (x ||| y) := by
  unfold n32; rw [u32_or_nat _ _ (by have := x.isLt; omega) (by have := y.isLt; omega), BitVec.toNat_or]
theorem xor32 (x y : BitVec 32) : bits .xor .u32 (n32 x) (n32 y) = n32 (x ^^^ y) := by
  unfold n32; rw [u32_xor_nat _ _ (by have := x.isLt; omega) (by have := y.isLt; omega), BitVec.toNat_xor]
theorem xor32_zero (y : BitVec 32) : bits .xor .u32 0 (n32 y) = n32 y := by
  have h := xor32 0#32 y
  rw [BitVec.zero_xor] at h; exact h
theorem add32 (x y : BitVec 32) : IntKind.u32.wrap (n32 x + n32 y) = n32 (x + y) := by
  unfold n32; rw [IntKind.wrap_u32', BitVec.toNat_add]; omega
theorem shl32 (x : BitVec 32) (k : Nat) : IntKind.u32.wrap (n32 x * 2 ^ k) = n32 (x <<< k) := by
  unfold n32
  have e : (x.toNat : Int) * 2 ^ k = ((x.toNat * 2 ^ k : Nat) : Int) := by rw [Int.natCast_mul, Int.natCast_pow]; rfl
  rw [IntKind.wrap_u32', BitVec.toNat_shiftLeft, Nat.shiftLeft_eq, e]
  generalize x.toNat * 2 ^ k = m
  omega
theorem shr32 (x : BitVec 32) (k : Nat) : n32 x / 2 ^ k = n32 (x >>> k) := by
  unfold n32; rw [BitVec.toNat_ushiftRight, Nat.shiftRight_eq_div_pow, Int.natCast_ediv, Int.natCast_pow]; rfl

/-- A byte as a word; a word's last byte. -/
def ext (b : BitVec 8) : BitVec 32 := b.setWidth 32
def lo8 (x : BitVec 32) : BitVec 8 := x.setWidth 8
theorem wrap32_n8 (b : BitVec 8) : IntKind.u32.wrap (n8 b) = n32 (ext b) := by
  unfold n8 n32 ext; rw [IntKind.wrap_u32', BitVec.toNat_setWidth]; have := b.isLt; omega
theorem wrap8_n32 (x : BitVec 32) : IntKind.u8.wrap (n32 x) = n8 (lo8 x) := by
  unfold n8 n32 lo8; rw [IntKind.wrap_u8', BitVec.toNat_setWidth]; omega
theorem shl32_8 (x : BitVec 32) : IntKind.u32.wrap (n32 x * (256 : Int)) = n32 (x <<< 8) := shl32 x 8
theorem shl32_16 (x : BitVec 32) : IntKind.u32.wrap (n32 x * (65536 : Int)) = n32 (x <<< 16) := shl32 x 16
theorem shl32_24 (x : BitVec 32) : IntKind.u32.wrap (n32 x * (16777216 : Int)) = n32 (x <<< 24) := shl32 x 24
theorem shr32_3 (x : BitVec 32) : n32 x / (8 : Int) = n32 (x >>> 3) := shr32 x 3
theorem shr32_8 (x : BitVec 32) : n32 x / (256 : Int) = n32 (x >>> 8) := shr32 x 8
theorem shr32_10 (x : BitVec 32) : n32 x / (1024 : Int) = n32 (x >>> 10) := shr32 x 10
theorem shr32_16 (x : BitVec 32) : n32 x / (65536 : Int) = n32 (x >>> 16) := shr32 x 16
theorem shr32_24 (x : BitVec 32) : n32 x / (16777216 : Int) = n32 (x >>> 24) := shr32 x 24

/-- A word turned right by k. -/
def rr (x : BitVec 32) (k : Nat) : BitVec 32 := (x <<< (32 - k)) ||| (x >>> k)
end Go.Proofs.ShaWords
