/-
  What other texts lean on: FrRefSum, FrRefPut, FrRefGet, FrSame.
-/
import Derived.Test.YtoidjapenompiaaDoorPkA
import Derived.Test.YtoidjapenompiaaDoorPkD
import Derived.Laws.Rows
/-
  The document's checksum and its numbers of four bytes.
-/
namespace Go.Proofs.YtoidjapenompiaaDoor
open Go.RowKit Go.Proofs.ShaWords
theorem bitN_step (k : Nat) (r : BitVec 32) : bit1 (bitN k r) = bitN (k + 1) r := (bitN_succ k r).symm
theorem not32_end (x : BitVec 32) : bits .xor .u32 (n32 x) 4294967295 = n32 (~~~ x) := by
  have h := xor32 x 4294967295#32
  rw [show ~~~ x = x ^^^ 4294967295#32 by
    rw [show (4294967295#32 : BitVec 32) = BitVec.allOnes 32 by decide, BitVec.xor_allOnes]]
  exact h
theorem crcR_takeE {l : List (BitVec 8)} {k : Nat} (h : k < l.length) (r : BitVec 32) : crcR r (l.take (k + 1)) = bitN 8 (crcR r (l.take k) ^^^ ext l[k]) := by
  rw [List.take_succ_eq_append_getElem h, crcR_append]
  rfl
theorem tmod2_32 (r : BitVec 32) : (n32 r).tmod (2 : Int) = if r.getLsbD 0 then 1 else 0 := by
  rw [Int.tmod_eq_emod_of_nonneg (n32_nonneg r), mod2_32]
theorem tdiv2_32 (r : BitVec 32) : (n32 r).tdiv (2 : Int) % (4294967296 : Int) = n32 (r >>> 1) := by
  rw [Int.tdiv_eq_ediv_of_nonneg (n32_nonneg r)]
  unfold n32
  rw [BitVec.toNat_ushiftRight, Nat.shiftRight_eq_div_pow]
  have := r.isLt
  omega
theorem xorP (r : BitVec 32) : bits .xor .u32 (n32 r) 3988292384 = n32 (r ^^^ 3988292384#32) := xor32 r 3988292384#32
attribute [local go_sem] xor32 wrap32_n8 not32_end xorP tdiv2_32
set_option maxRecDepth 100000 in
set_option maxHeartbeats 1000000 in
theorem refSum9_any (l : List (BitVec 8)) (n : Nat) (p : Option Addr) (c : Nat) (w : World) (hn : l.length = n) (hl : n < 140737488355328) (hL : Lies w p l) :
    Calls Tryd.prog 81 #[.slice p n c] w fun e w' => e = .returned (.int .u32 (n32 (crcOf l))) ∧ w' = w := by
  have HL := Lib.hid hL; clear hL
  have HN := Lib.hid hn; clear hn
  go_enter Tryd.func81, Tryd.ntmps81
  go_wp2_with fail
  go_loopw [3, 4] (fun r i wr => ∃ k : Nat, k ≤ n ∧ i = .int .i64 k ∧ r = .int .u32 (n32 (crcR (~~~ 0#32) (l.take k))) ∧ wr = w) (fun _ i _ => n - (intOf i).toNat)
  case atStart => exact ⟨0, Nat.zero_le _, rfl, rfl, rfl⟩
  case round =>
    obtain ⟨k, hk, rfl, rfl, rfl⟩ := hrel
    by_cases hlt : k < n
    · have hlt' : k < l.length := by rw [HN.out]; exact hlt
      have hv : (bytesV l)[k]? = some (.int .u8 (n8 l[k])) := by simp [bytesV, hlt']
      rcases HL.out with h0 | ⟨b, off, rfl, hr⟩
      · exfalso; rw [h0] at hlt'; simp at hlt'
      have hc := hr k _ hv
      have HT := Lib.hid (crcR_takeE hlt' (~~~ 0#32))
      generalize l[k] = x at hc HT
      generalize crcR (~~~ 0#32) (l.take k) = r at HT ⊢
      clear hr hv hlt'
      have q0 : (k : Int) < (n : Int) := by omega
      go_wp2_with fail
      go_loopw [3, 5] (fun v i wr2 => ∃ j : Nat, j ≤ 8 ∧ i = .int .i64 j ∧ v = .int .u32 (n32 (bitN j (r ^^^ ext x))) ∧ wr2 = wr) (fun _ i _ => 8 - (intOf i).toNat)
      case atStart => exact ⟨0, Nat.zero_le _, rfl, rfl, rfl⟩
      case round =>
        obtain ⟨j, hj, rfl, rfl, rfl⟩ := hrel
        by_cases hj8 : j < 8
        · have qj : (j : Int) < 8 := by omega
          have HBS := Lib.hid (bitN_step j (r ^^^ ext x))
          generalize bitN j (r ^^^ ext x) = y at HBS ⊢
          have ht := tmod2_32 y
          have hm := mod2_32 y
          cases hy : y.getLsbD 0 with
          | true =>
            rw [hy, if_pos rfl] at ht hm
            have HB1 := Lib.hid (bit1_on hy)
            clear hy
            go_wp2_with fail
            go_roundw
            case rel => exact ⟨j + 1, by omega, by go_num, by rw [← HBS.out, HB1.out], by trivial⟩
            case measure => simp [intOf]; omega
          | false =>
            rw [hy] at ht hm
            simp only [Bool.false_eq_true, if_false] at ht hm
            have HB1 := Lib.hid (bit1_even hy)
            clear hy
            go_wp2_with fail
            go_roundw
            case rel => exact ⟨j + 1, by omega, by go_num, by rw [← HBS.out, HB1.out]; exact congrArg (Value.int .u32) (tdiv2_32 y), by trivial⟩
            case measure => simp [intOf]; omega
        · have e8 : j = 8 := by omega
          subst e8
          go_wp2_with fail
          go_roundw
          case rel => exact ⟨k + 1, by omega, by go_num, by rw [HT.out], by trivial⟩
          case measure => simp [intOf]; omega
    · have e : k = n := by omega
      subst e
      go_wp2_with fail
      go_ret
      refine ⟨?_, rfl⟩
      unfold crcOf
      rw [List.take_of_length_le (by rw [HN.out]; exact Nat.le_refl _)]
      rfl
end Go.Proofs.YtoidjapenompiaaDoor

/-
  The document's answer of what is put.
-/
namespace Go.Proofs.YtoidjapenompiaaDoor
open Go.RowKit Go.Proofs.ShaWords
theorem four24 (x : BitVec 32) : (n32 x).tdiv (16777216 : Int) % (4294967296 : Int) = n32 (x >>> 24) := by
  rw [Int.tdiv_eq_ediv_of_nonneg (n32_nonneg x)]
  unfold n32
  rw [BitVec.toNat_ushiftRight, Nat.shiftRight_eq_div_pow]
  have := x.isLt
  omega
theorem four16 (x : BitVec 32) : (n32 x).tdiv (65536 : Int) % (4294967296 : Int) = n32 (x >>> 16) := by
  rw [Int.tdiv_eq_ediv_of_nonneg (n32_nonneg x)]
  unfold n32
  rw [BitVec.toNat_ushiftRight, Nat.shiftRight_eq_div_pow]
  have := x.isLt
  omega
theorem four8 (x : BitVec 32) : (n32 x).tdiv (256 : Int) % (4294967296 : Int) = n32 (x >>> 8) := by
  rw [Int.tdiv_eq_ediv_of_nonneg (n32_nonneg x)]
  unfold n32
  rw [BitVec.toNat_ushiftRight, Nat.shiftRight_eq_div_pow]
  have := x.isLt
  omega
theorem rem256 (x : BitVec 32) : IntKind.u8.wrap ((n32 x).tmod (256 : Int)) = n8 (lo8 x) := by
  rw [Int.tmod_eq_emod_of_nonneg (n32_nonneg x), ← wrap8_n32, IntKind.wrap_u8', IntKind.wrap_u8']
  omega
attribute [local go_sem] wrap8_n32 four24 four16 four8 rem256
end Go.Proofs.YtoidjapenompiaaDoor

/-
  The document's answer of what is got.
-/
namespace Go.Proofs.YtoidjapenompiaaDoor
open Go.RowKit Go.Proofs.ShaWords
section
variable {ρ : Operand → Value} {o : Oper} {x y z : Operand}
end
end Go.Proofs.YtoidjapenompiaaDoor

/-
  The kit's SameFrames, SpoilFrames and SpoilFramesDeep.
-/
namespace Go.Proofs.YtoidjapenompiaaDoor
open Go.RowKit Go.Proofs.ShaWords
end Go.Proofs.YtoidjapenompiaaDoor
