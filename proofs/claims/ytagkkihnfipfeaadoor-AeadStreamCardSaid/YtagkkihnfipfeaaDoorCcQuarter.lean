/-
  The contracts of math/bits.RotateLeft32 at turns from 1 to 31, of the document's left, and of chacha.quarter: for every words.
-/
import Derived.Test.YtagkkihnfipfeaaDoorGen
namespace Go.Proofs.YtagkkihnfipfeaaDoor
open Go.RowKit Go.Proofs.ShaWords
attribute [local go_sem] and32 or32 xor32 add32 shl32 shr32

/-- A word turned left by k. -/
def rl (x : BitVec 32) (k : Nat) : BitVec 32 := x <<< k ||| x >>> (32 - k)
theorem turnl_by (n : Int) (h1 : 1 ≤ n) (h2 : n ≤ 31) : bits .and .u64 n 31 = n := by
  obtain ⟨k, rfl⟩ := Int.eq_ofNat_of_zero_le (show 0 ≤ n by omega)
  have hk : k < 32 := by omega
  have H : ∀ k : Fin 32, bits .and .u64 (k.val : Int) 31 = (k.val : Int) := by decide
  exact H ⟨k, hk⟩

set_option maxHeartbeats 400000 in
theorem rotl_any (x : BitVec 32) (n : Int) (w : World) (h1 : 1 ≤ n) (h2 : n ≤ 31) :
    Calls Tryd.prog 66 #[.int .u32 (n32 x), .int .i64 n] w fun e w' => e = .returned (.int .u32 (n32 (rl x n.toNat))) ∧ w = w' := by
  have hb := turnl_by n h1 h2
  go_enter Tryd.func66, Tryd.ntmps66
  go_wp2
  go_ret
  refine ⟨?_, rfl⟩
  show Ending.returned (.int .u32 (n32 (x <<< n.toNat ||| x >>> (32 - n).toNat))) = _
  unfold rl
  rw [show (32 - n).toNat = 32 - n.toNat by omega]

set_option maxHeartbeats 400000 in
theorem left_any (x : BitVec 32) (n : Int) (w : World) (h1 : 1 ≤ n) (h2 : n ≤ 31) :
    Calls Tryd.prog 59 #[.int .u32 (n32 x), .int .u64 n] w fun e w' => e = .returned (.int .u32 (n32 (rl x n.toNat))) ∧ w = w' := by
  go_enter Tryd.func59, Tryd.ntmps59
  go_wp2
  go_ret
  refine ⟨?_, rfl⟩
  show Ending.returned (.int .u32 (n32 (x <<< n.toNat ||| x >>> (32 - n).toNat))) = _
  unfold rl
  rw [show (32 - n).toNat = 32 - n.toNat by omega]

/-- Four words. -/
structure W4 where
  a : BitVec 32
  b : BitVec 32
  c : BitVec 32
  d : BitVec 32
/-- What a quarter round makes of four words. -/
def qA1 (q : W4) : BitVec 32 := q.a + q.b
def qD1 (q : W4) : BitVec 32 := rl (q.d ^^^ qA1 q) 16
def qC1 (q : W4) : BitVec 32 := q.c + qD1 q
def qB1 (q : W4) : BitVec 32 := rl (q.b ^^^ qC1 q) 12
def qA2 (q : W4) : BitVec 32 := qA1 q + qB1 q
def qD2 (q : W4) : BitVec 32 := rl (qD1 q ^^^ qA2 q) 8
def qC2 (q : W4) : BitVec 32 := qC1 q + qD2 q
def qB2 (q : W4) : BitVec 32 := rl (qB1 q ^^^ qC2 q) 7

attribute [local irreducible] rl
set_option maxRecDepth 100000 in
set_option maxHeartbeats 1000000 in
theorem quarter_any (q : W4) (w : World) :
    Calls Tryd.prog 64 #[.int .u32 (n32 q.a), .int .u32 (n32 q.b), .int .u32 (n32 q.c), .int .u32 (n32 q.d)] w
      fun e w' => e = .returned (.tuple #[.int .u32 (n32 (qA2 q)), .int .u32 (n32 (qB2 q)), .int .u32 (n32 (qC2 q)), .int .u32 (n32 (qD2 q))]) ∧ w = w' := by
  go_enter Tryd.func64, Tryd.ntmps64
  go_wp2_with fail
  refine (rotl_any _ _ _ (by omega) (by omega)).mono ?_
  rintro e w' ⟨rfl, rfl⟩
  go_wp2_with fail
  refine (rotl_any _ _ _ (by omega) (by omega)).mono ?_
  rintro e w' ⟨rfl, rfl⟩
  go_wp2_with fail
  refine (rotl_any _ _ _ (by omega) (by omega)).mono ?_
  rintro e w' ⟨rfl, rfl⟩
  go_wp2_with fail
  refine (rotl_any _ _ _ (by omega) (by omega)).mono ?_
  rintro e w' ⟨rfl, rfl⟩
  go_wp2_with fail
  exact bodyPost_ret (v := .tuple #[.int .u32 (n32 (qA2 q)), .int .u32 (n32 (qB2 q)), .int .u32 (n32 (qC2 q)), .int .u32 (n32 (qD2 q))]) (by simp [results, Tryd.results64, go_sem]; exact ⟨rfl, rfl, rfl, rfl⟩) rfl ⟨rfl, rfl⟩
end Go.Proofs.YtagkkihnfipfeaaDoor
